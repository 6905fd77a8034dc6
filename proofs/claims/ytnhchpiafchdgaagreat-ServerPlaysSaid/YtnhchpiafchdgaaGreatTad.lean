/- Texts Sai. -/
import Derived.Test.YtnhchpiafchdgaaGreatTac
import Derived.Test.YtnhchpiafchdgaaGreatSvS
import Derived.Shelf.SlicesE.DeleteFunc
import Derived.Lib.SliceRun
import Derived.Shelf.Spec.SlicesInsert
import Derived.Shelf.Spec.SlicesInsertGrow
import Derived.Test.YtnhchpiafchdgaaGreatTaa
section
namespace Go.Proofs.YtnhchpiafchdgaaGreat
open Go.RowKit Go.Shelf Go.Maps Go.Lib Go.Sort
theorem same_gives (k x : Int) (B bc : Nat) (W : World) (hB : W.cell? ⟨B, 0, none⟩ = some (.pointer (some ⟨bc, 0, none⟩))) (hk : W.cell? ⟨bc, 0, none⟩ = some (.int .i64 k)) :
  FnGives Tryz.prog 129 #[.pointer (some ⟨B, 0, none⟩)] #[.int .i64 x] (.bool (x == k)) W := by
 show Calls Tryz.prog 129 #[.int .i64 x, .pointer (some ⟨B, 0, none⟩)] W _
 go_enter Tryz.func129, Tryz.ntmps129
 go_wp2
 go_ret
 exact ⟨rfl, 0, rfl⟩
theorem del_filter (xs : List Int) (k : Int) : (xs.filter fun x => !(x == k)) = xs.filter (fun x => decide (x ≠ k)) := by
 congr 1
 funext x
 by_cases h : x = k <;> simp [h]
theorem put_take (cur : Array Value) (xs ys : List Int) (hl : ys.length ≤ xs.length) (hc : xs.length ≤ cur.size) (d : Array Int) (hd : d = (ys ++ List.replicate (xs.length - ys.length) 0).toArray) :
   (putCells (Value.int .i64) 0 d cur).toList.take ys.length = intsV ys ∧ (putCells (Value.int .i64) 0 d cur).size = cur.size := by
 subst hd
 have hs : (putCells (Value.int .i64) 0 (ys ++ List.replicate (xs.length - ys.length) 0).toArray cur).size = cur.size := by simp [putCells]
 refine ⟨?_, hs⟩
 apply List.ext_getElem?
 intro i
 by_cases hi : i < ys.length
 · rw [List.getElem?_take_of_lt hi]
   have h1 : i < cur.size := by omega
   simp only [Array.getElem?_toList, putCells, Array.getElem?_mapIdx]
   rw [Array.getElem?_eq_getElem h1]
   simp only [Option.map_some]
   rw [if_pos ⟨Nat.zero_le _, by simp; omega⟩]
   simp [intsV, List.getElem?_map, List.getElem?_eq_getElem hi, getElem!_def, List.getElem?_append_left hi]
 · rw [List.getElem?_eq_none (by simp; omega), List.getElem?_eq_none (by simp [intsV]; omega)]
theorem heap_putRow_same {w : World} {g : Nat} {cur : Array Value} {T : TypeId} {fr : Nat × Nat} (d : Array Int) (h : w.heap[g]? = some (.cells cur T fr)) : (putRow (Value.int .i64) w g 0 d).heap[g]? = some (.cells (putCells (Value.int .i64) 0 d cur) T fr) := by
 simp [putRow, mapBlock, Array.getElem?_modify, h, onCells]
theorem heap_putRow_other (w : World) {g b : Nat} (d : Array Int) (hne : b ≠ g) : (putRow (Value.int .i64) w g 0 d).heap[b]? = w.heap[b]? := by
 simp only [putRow, mapBlock, Array.getElem?_modify]
 rw [if_neg (fun e => hne e.symm)]
set_option maxHeartbeats 2000000 in
theorem delete_c (v : Value) (xs : List Int) (k : Int) (B bc : Nat) (w : World) (hr : w.ownsRow 0 3 1 v xs.length (intsV xs)) (hB : w.cell? ⟨B, 0, none⟩ = some (.pointer (some ⟨bc, 0, none⟩))) (hk : w.cell? ⟨bc, 0, none⟩ = some (.int .i64 k))
   (nB : ∀ r, v.ownBlock = some r → B ≠ r) (nb : ∀ r, v.ownBlock = some r → bc ≠ r) :
   Calls Tryz.prog 128 #[v, .func (.func 129) #[] #[.pointer (some ⟨B, 0, none⟩)]] w fun e w' => ∃ v', e = .returned v' ∧ w'.ownsRow 0 3 1 v' (strike k xs).length (intsV (strike k xs)) ∧
     w.grownBy w' v.ownBlock ∧ v'.ownBlock = v.ownBlock := by
 unfold strike
 have eg : ∀ args w, (callFunc 129 args).run Tryz.prog w = .ok (.enter 129 args) w := enters_of Tryz.func129 (by kernel_rfl) rfl
 obtain ⟨hlen, h1⟩ := id hr
 rcases h1 with ⟨rfl, hn⟩ | ⟨g, cap, cur, rfl, -, hg, hnc, hcm, hcs, ht⟩
 · have hx : xs = [] := List.eq_nil_of_length_eq_zero hn
   subst hx
   have HI : Calls Tryz.prog 149 #[.slice none 0 0, .func (.func 129) #[] #[.pointer (some ⟨B, 0, none⟩)]] w fun e w' => e = .returned (.int .i64 (-1)) ∧ w = w' := by
     go_enter Tryz.func149, Tryz.ntmps149
     go_wp2_with fail
     go_loopw [8] (fun z wr => z = .int .i64 0 ∧ wr = w) (fun z _ => 0)
     case atStart => exact ⟨rfl, rfl⟩
     case round =>
      obtain ⟨rfl, rfl⟩ := hrel
      go_wp2_with fail
      go_ret
      exact ⟨rfl, rfl⟩
   go_enter Tryz.func128, Tryz.ntmps128
   go_wp2_with (go_at_call 149; ((with_reducible refine HI.mono ?_); rintro e w' ⟨rfl, rfl⟩))
   go_ret
   exact ⟨_, rfl, World.ownsRow_nil _ _ _ _, World.grownBy.refl _ _, rfl⟩
 · have hd : xs.toArray.size = xs.length := by simp
   have hH : Holds (Value.int .i64) w g 0 xs.toArray := by
     intro j hj
     have hj' : j < xs.length := by simpa using hj
     have hc := World.ownsRow.cellAt hr j (by omega)
     refine ⟨?_, by rw [Nat.zero_add]; exact World.ownsRow.frozenAt hr j⟩
     rw [Nat.zero_add, hc, List.getElem?_map, List.getElem?_eq_getElem hj', getElem!_pos _ j (by simpa using hj')]
     simp
   have hgB : B ≠ g := nB g rfl
   have hgb : bc ≠ g := nb g rfl
   have hBl := World.block_lt_of_cell? _ _ hB
   have hbl := World.block_lt_of_cell? _ _ hk
   dsimp only at hBl hbl
   have hcon := AnyE.slices_DeleteFunc delInt (Value.int .i64) (fun _ => rfl) (fun x => x == k) 129 #[.pointer (some ⟨B, 0, none⟩)] eg 0 (fun _ => by kernel_rfl) g 0 cap xs.toArray w
     (fun W x hb => same_gives k x B bc W ((hb.cell (p := ⟨B, 0, none⟩) hBl).trans hB) ((hb.cell (p := ⟨bc, 0, none⟩) hbl).trans hk))
     (fun n os dk x _ => same_gives k x B bc _ (by
      unfold sortWorld
      rw [cell?_grow _ _ _ (by show B < (putRow _ _ _ _ _).heap.size; rw [size_putRow]; exact hBl), cell?_putRow_other _ _ g 0 _ _ (Or.inl hgB)]
      exact hB) (by
      unfold sortWorld
      rw [cell?_grow _ _ _ (by show bc < (putRow _ _ _ _ _).heap.size; rw [size_putRow]; exact hbl), cell?_putRow_other _ _ g 0 _ _ (Or.inl hgb)]
      exact hk)) hH (by unfold maxLen at hcm; simp; omega) (by simpa using hnc)
   rw [hd] at hcon
   refine Calls.mono hcon ?_
   rintro e w' ⟨rfl, q, rfl⟩
   rw [show xs.toArray.toList = xs from rfl, del_filter]
   obtain ⟨k1, k2⟩ := put_take cur xs (xs.filter (fun x => decide (x ≠ k))) (List.length_filter_le _ _) (by omega) _ rfl
   have hg' : (Sort.ahead w q).heap[g]? = some (.cells cur 3 (0, 0)) := hg
   refine ⟨_, rfl, ⟨by simp [intsV], .inr ⟨g, cap, _, rfl, Nat.zero_le _, heap_putRow_same _ hg', by have := List.length_filter_le (fun x => decide (x ≠ k)) xs; omega, hcm, ?_, ?_⟩⟩, ⟨rfl, rfl, rfl, ?_, fun b hb hne => ?_⟩, rfl⟩
   · rw [k2]; exact hcs
   · rw [Nat.mul_one]; exact k1
   · rw [size_putRow]; exact Nat.le_refl _
   · exact heap_putRow_other (Sort.ahead w q) _ (fun e => hne (by rw [e]; rfl))
end Go.Proofs.YtnhchpiafchdgaaGreat
end
section
namespace Go.Proofs.YtnhchpiafchdgaaGreat
open Go.RowKit Go.Shelf Go.Maps
section
variable {w : World} {t : Nat} {l : Lay} {nd : Int → Option Nd} {made : Int} {cnt : Nat}
theorem row_slice {v : Value} {n : Nat} {xs : List Value} (h : w.ownsRow 0 3 1 v n xs) : ∃ p c, v = .slice p n c := by
 obtain ⟨_, h1⟩ := h
 rcases h1 with ⟨rfl, rfl⟩ | ⟨g, cap, cur, rfl, _⟩
 · exact ⟨_, _, rfl⟩
 · exact ⟨_, _, rfl⟩
set_option maxRecDepth 100000 in
set_option maxHeartbeats 4000000 in
theorem leave_c (h : TreeH w t l nd made cnt) {p c : Int} {bp bc : Nat} {dp dc : Nd} (hp : l.nb p = some bp) (hc : l.nb c = some bc) (hdp : nd p = some dp) (hdc : nd c = some dc) (hpar : dc.win.par = p) (hi : I64 p) :
  Calls Tryz.prog 105 #[treeP t, .pointer (some ⟨bc, 0, none⟩)] w fun e w' => e = .returned (.tuple #[]) ∧ TreeTo w t l l.nb (upd nd p (some ⟨dp.win, strike dc.win.id dp.kids⟩)) made cnt w' := by
 have hps : (l.nb p).isSome = true := by rw [hp]; rfl
 obtain ⟨wb, hwb⟩ : ∃ wb, wb = w.alloc (.cells #[.pointer (some ⟨bc, 0, none⟩)] 100) := ⟨_, rfl⟩
 have hbel : Below w.heap.size w wb := by rw [hwb]; exact (Below.refl _ _).alloc (Nat.le_refl _) _
 have h1 : TreeH wb t l nd made cnt := h.next hbel
 have hbx : wb.cell? ⟨w.heap.size, 0, none⟩ = some (.pointer (some ⟨bc, 0, none⟩)) := by rw [hwb]; exact (Blk.new w _ _).at_ (i := 0) rfl
 obtain ⟨⟨c0, _⟩, _⟩ := h1.tree.c2
 have e0 : ∀ n, (Instr.lookup 103 (.map (some l.bm)) (.int .i64 p) false).run Tryz.prog (wb.drewN n) = .ok (.pointer (some ⟨bp, 0, none⟩)) (wb.drewN n) := fun n => (h1.drewN n).look_some hi hp
 obtain ⟨⟨k0, k1, -⟩, -⟩ := h1.cells hc hdc
 rw [hpar] at k1
 have hrow := (h1.node p bp dp hp hdp).2
 have k7 := (h1.cells hp hdp).1.2.2.2.2.2.2.2
 have HD := Lib.hid (fun (n : Nat) => delete_c (l.kv p) dp.kids dc.win.id w.heap.size bc (wb.drewN n) (row_same hrow fun _ _ => rfl) hbx k0 (fun r hr => by
   have := h.foot_lt (.inr (.inr (.inr ⟨p, hps, hr⟩))); omega) (fun r hr => h.node_row hc hps hr))
 have HG := Lib.hid (fun (n : Nat) (W : World) (v' : Value) (ho : W.ownsRow 0 3 1 v' (strike dc.win.id dp.kids).length (intsV (strike dc.win.id dp.kids))) (hg : (wb.drewN n).grownBy W (l.kv p).ownBlock) (hv : v'.ownBlock = (l.kv p).ownBlock) =>
  (show TreeTo w t l l.nb (upd nd p (some ⟨dp.win, strike dc.win.id dp.kids⟩)) made cnt (W.setCell ⟨bp, 7, none⟩ v') ∧ W.cell? ⟨bp, 7, none⟩ = some (l.kv p) ∧ W.frozen? ⟨bp, 7, none⟩ = false from by
   have k2 := h.grow hp hdp (wa := wb.drewN n) (below_drewN hbel n) hg ho (fun r hr => .inl (hv ▸ hr))
   have k3 := past (h1.drewN n) hp hg hp hdp
   exact ⟨⟨{ l with kv := upd l.kv p v' }, rfl, k2.1, k2.2⟩, k3.at_ (i := 7) rfl, k3.frozen 7⟩))
 obtain ⟨kv, hkv⟩ : ∃ v, v = l.kv p := ⟨_, rfl⟩
 rw [← hkv] at k7 HD HG
 have HW := Lib.hid hwb
 clear h h1 hrow hps hp hc hdp hdc hpar hbel hkv
 go_enter Tryz.func105, Tryz.ntmps105
 go_upto_region 1 with fail
 rw [← HW.out]
 clear hwb
 go_quiet (fail)
 go_wp2_with (go_at_call 128; ((with_reducible refine (HD.out _).mono ?_); rintro e w1 ⟨v', rfl, ho, hg, hv⟩); obtain ⟨p', c', rfl⟩ := row_slice ho; obtain ⟨T1, q1, q2⟩ := HG.out _ w1 _ ho hg hv; have HT := Lib.hid T1; clear T1 hg hv ho)
 go_end0
 exact ⟨rfl, HT.out⟩
end
end Go.Proofs.YtnhchpiafchdgaaGreat
end
section
namespace Go.Proofs.YtnhchpiafchdgaaGreat
open Go.RowKit Go.Shelf Go.Maps Go.Lib Go.Sort
theorem heap_setCells_same (b : Nat) (T : TypeId) (fr : Nat × Nat) : ∀ (vs : List Value) (o : Nat) (w : World) (cur : Array Value), w.heap[b]? = some (.cells cur T fr) → ∃ cur', (w.setCells b o vs).heap[b]? = some (.cells cur' T fr) ∧ cur'.size = cur.size
 | [], _, _, cur, h => ⟨cur, h, rfl⟩
 | v :: r, o, w, cur, h => by
  obtain ⟨cur', h1, h2⟩ := heap_setCells_same b T fr r (o + 1) (w.setCell ⟨b, o, none⟩ v) (cur.setIfInBounds o v) (by simp [World.setCell, Array.getElem?_modify, h])
  exact ⟨cur', h1, by simpa using h2⟩
theorem row_of_cells {W : World} {g n cap : Nat} {cur : Array Value} {xs : List Value} (hg : W.heap[g]? = some (.cells cur 3 (0, 0))) (hs : cur.size = cap) (hm : cap ≤ maxLen) (hn : n ≤ cap) (hx : xs.length = n) (hc : ∀ j, j < n → W.cell? ⟨g, j, none⟩ = xs[j]?) :
   W.ownsRow 0 3 1 (.slice (some ⟨g, 0, none⟩) n cap) n xs := by
 refine ⟨by omega, .inr ⟨g, cap, cur, rfl, Nat.zero_le _, hg, hn, hm, by omega, ?_⟩⟩
 apply List.ext_getElem?
 intro i
 by_cases hi : i < n
 · rw [List.getElem?_take_of_lt (by omega), ← hc i hi, cell_of_row W g i cur _ (0, 0) hg]
   simp
 · rw [List.getElem?_eq_none (by simp; omega), List.getElem?_eq_none (by omega)]
theorem grown_setCells {w W : World} {row : Option Nat} (h : w.grownBy W row) (b o : Nat) (vs : List Value) (hb : some b = row ∨ w.heap.size ≤ b) : w.grownBy (W.setCells b o vs) row := by
 induction vs generalizing W o with
 | nil => exact h
 | cons v r ih => exact ih (only_setCell h (by exact hb) v) (o + 1)
theorem grow_in {W0 : World} {g cap : Nat} {cur : Array Value} (hg : W0.heap[g]? = some (.cells cur 3 (0, 0))) (hs : cur.size = cap) (id : Int) (xs : List Int) (hn : xs.length + 1 ≤ cap) (hm : cap ≤ maxLen) :
  ((W0.drew.setCells g 0 [.int .i64 id]).drew.setCells g (0 + 1) ((intsV xs).drop 0)).ownsRow 0 3 1 (.slice (some ⟨g, 0, none⟩) (xs.length + 1) cap) (xs.length + 1) (intsV (id :: xs)) := by
 have hg0 : W0.drew.heap[g]? = some (.cells cur 3 (0, 0)) := hg
 generalize W0.drew = W1 at hg0 ⊢
 obtain ⟨cur1, hW1, hs1⟩ := heap_setCells_same g 3 (0, 0) [.int .i64 id] 0 W1 cur hg0
 have hin0 : ∀ j, j < cap → (W1.cell? ⟨g, j, none⟩).isSome = true := fun j hj => by
  rw [cell_of_row W1 g j _ _ _ hg0, Array.getElem?_eq_getElem (by omega)]; rfl
 have h0 := World.cell?_setCells_in g [.int .i64 id] 0 W1 (fun j hj => by rw [Nat.zero_add]; exact hin0 j (by simp at hj; omega)) 0 (by simp)
 have h0' : (W1.setCells g 0 [.int .i64 id]).drew.cell? ⟨g, 0, none⟩ = some (.int .i64 id) := by simpa using h0
 have hW1' : (W1.setCells g 0 [.int .i64 id]).drew.heap[g]? = some (.cells cur1 3 (0, 0)) := hW1
 generalize (W1.setCells g 0 [.int .i64 id]).drew = W2 at hW1' h0' ⊢
 obtain ⟨cur2, hW2, hs2⟩ := heap_setCells_same g 3 (0, 0) ((intsV xs).drop 0) (0 + 1) W2 cur1 hW1'
 have hin1 : ∀ j, j < cap → (W2.cell? ⟨g, j, none⟩).isSome = true := fun j hj => by
  rw [cell_of_row W2 g j _ _ _ hW1', Array.getElem?_eq_getElem (by omega)]; rfl
 refine row_of_cells hW2 (by omega) hm hn (by simp) (fun j hj => ?_)
 cases j with
 | zero =>
  rw [World.cell?_setCells_out _ _ _ _ _ (fun _ _ => .inl (by simp)), h0']
  rfl
 | succ j =>
  have hj' : j < xs.length := by omega
  have := World.cell?_setCells_in g ((intsV xs).drop 0) (0 + 1) W2 (fun i hi => by
   have h2 : i < xs.length := by simpa using hi
   exact hin1 _ (by omega)) j (by simpa using hj')
  rw [show j + 1 = 0 + 1 + j by omega]
  refine Eq.trans this ?_
  rw [show 0 + 1 + j = j + 1 by omega]
  simp [intsV]
  rw [List.getElem?_eq_getElem hj']
  rfl
theorem insert0_c (v : Value) (xs : List Int) (id : Int) (vb : Nat) (w : World) (hr : w.ownsRow 0 3 1 v xs.length (intsV xs)) (hvb : Blk w vb 3 #[.int .i64 id]) (hne : ∀ r, v.ownBlock = some r → vb ≠ r) (hl : xs.length ≤ 1048576) :
   Calls Tryz.prog 137 #[v, .int .i64 0, .slice (some ⟨vb, 0, none⟩) 1 1] w fun e w' => ∃ v', e = .returned v' ∧ w'.ownsRow 0 3 1 v' (id :: xs).length (intsV (id :: xs)) ∧ w.grownBy w' v.ownBlock ∧ (∀ r, v'.ownBlock = some r → v.ownBlock = some r ∨ w.heap.size ≤ r) := by
 have hr0 := hr
 obtain ⟨hlen, h1⟩ := hr0
 have hvs : ∀ (j : Nat) (u : Value), ([.int .i64 id] : List Value)[j]? = some u → w.cell? ⟨vb, 0 + j, none⟩ = some u := fun j u hu => by
   rw [Nat.zero_add, hvb.cell j]; simpa using hu
 have h1v : ∀ u ∈ ([.int .i64 id] : List Value), u.oneCell' = true := oneCell_ints [id]
 have h1c : ∀ u ∈ intsV xs, u.oneCell' = true := oneCell_ints xs
 rcases h1 with ⟨rfl, hn⟩ | ⟨g, cap, cur, rfl, -, hg, hnc, hcm, hcs, ht⟩
 · have hx : xs = [] := List.eq_nil_of_length_eq_zero hn
   subst hx
   have hcon := Any2.slices_Insert_int_end_grow insInt none 0 0 vb 0 1 1 [] [.int .i64 id] w (by decide) (by decide) (by decide) (by decide) rfl rfl (fun _ => rfl) (fun a ha => by cases ha) hvs h1v
   refine Calls.mono hcon ?_
   rintro e w' ⟨rfl, rfl⟩
   have hge := grownCap_ge w 1 0 3
   have hcm := grownCap_le_maxLen w 1 0 3 (by decide)
   have hW := heap_alloc_new w.drew (.cells (([] ++ [Value.int .i64 id]).toArray ++ Builtin.zeroCells (Value.int .i64 0).cells (grownCap w 1 0 3 - 1)) 3)
   refine ⟨_, rfl, row_of_cells (cap := grownCap w 1 0 3) hW (by simp [size_zeroCells, Value.cells]; omega) hcm hge (by simp) (fun j hj => ?_), ⟨rfl, rfl, rfl, by simp, fun b hb _ => Below.heap_alloc w.drew _ b hb⟩, fun r hr' => .inr ?_⟩
   · obtain rfl : j = 0 := by simpa using hj
     refine (cell_of_row _ w.heap.size 0 _ _ _ hW).trans ?_
     exact Array.getElem?_append_left (by simp)
   · obtain rfl : w.heap.size = r := by simpa [Value.ownBlock] using hr'
     exact Nat.le_refl _
 · have hgv : vb ≠ g := hne g rfl
   have hglt : g < w.heap.size := (Array.getElem?_eq_some_iff.1 hg).1
   have hin : ∀ j, j < cap → (w.cell? ⟨g, j, none⟩).isSome = true := fun j hj => by
     rw [cell_of_row w g j cur _ _ hg, Array.getElem?_eq_getElem (by omega)]; rfl
   have hfz : ∀ j, w.frozen? ⟨g, j, none⟩ = false := fun j => World.ownsRow.frozenAt hr j
   have hcell : ∀ j, j < xs.length → w.cell? ⟨g, j, none⟩ = (intsV xs)[j]? := fun j hj => World.ownsRow.cellAt hr j (by omega)
   have hcs' : ∀ (j : Nat) (u : Value), (intsV xs)[j]? = some u → w.cell? ⟨g, 0 + j, none⟩ = some u := fun j u hu => by
     have := (List.getElem?_eq_some_iff.1 hu).1
     rw [Nat.zero_add, hcell j (by simpa using this)]; exact hu
   by_cases hroom : xs.length + 1 ≤ cap
   · by_cases hz : xs = []
     · subst hz
       have hcon := Any2.slices_Insert_int_end_room insInt g 0 0 cap vb 0 1 1 [.int .i64 id] w (by decide) (by simpa using hroom) (by unfold maxLen at hcm; omega) rfl (fun j hj => by
         rw [show 0 + 0 + j = j by omega]; exact hin j (by simp at hroom; omega)) (fun j _ => by rw [show 0 + 0 + j = j by omega]; exact hfz j) hvs h1v
       refine Calls.mono hcon ?_
       rintro e w' ⟨rfl, rfl⟩
       obtain ⟨cur', hW, hW2⟩ := heap_setCells_same g _ _ [.int .i64 id] (0 + 0) w cur hg
       refine ⟨_, rfl, row_of_cells hW (by omega) hcm (by simpa using hroom) (by simp) (fun j hj => ?_), grown_setCells (only_refl _ _) _ _ _ (.inl rfl), fun r hr' => .inl hr'⟩
       obtain rfl : j = 0 := by simpa using hj
       have := World.cell?_setCells_in g [.int .i64 id] 0 w (fun j hj => by rw [Nat.zero_add]; exact hin j (by simp at hj hroom; omega)) 0 (by simp)
       simpa using this
     · have hpos : 0 < xs.length := List.length_pos_iff.2 hz
       have hcon := Any2.slices_Insert_int_shift insInt g 0 xs.length cap 0 vb 0 1 1 (intsV xs) [.int .i64 id] w hpos (by decide) hroom (by unfold maxLen at hcm; omega) hgv (by simp) rfl hcs'
         (fun j hj => by rw [Nat.zero_add]; exact hin j (by omega)) (fun j _ => by rw [Nat.zero_add]; exact hfz j) hvs h1c h1v 3 3 1 cap (by unfold Blk at hvb; simp [World.shape?, hvb]) (by simp [World.shape?, hg]; omega) (by omega) (hvb.frozen 0) (hvb.frozen 1)
       refine Calls.mono hcon ?_
       rintro e w' ⟨rfl, rfl⟩
       obtain ⟨cur1, hW1, hs1⟩ := heap_setCells_same g 3 (0, 0) ((intsV xs).drop 0) (0 + (0 + 1)) w.drew cur hg
       obtain ⟨cur2, hW2, hs2⟩ := heap_setCells_same g 3 (0, 0) [.int .i64 id] (0 + 0) _ cur1 hW1
       have hin1 : ∀ j, j < cap → ((w.drew.setCells g (0 + (0 + 1)) ((intsV xs).drop 0)).cell? ⟨g, j, none⟩).isSome = true := fun j hj => by
         rw [cell_of_row _ g j cur1 _ _ hW1, Array.getElem?_eq_getElem (by omega)]; rfl
       refine ⟨_, rfl, row_of_cells hW2 (by omega) hcm hroom (by simp) (fun j hj => ?_), grown_setCells (grown_setCells (only_drew (only_refl _ _)) _ _ _ (.inl rfl)) _ _ _ (.inl rfl), fun r hr' => .inl hr'⟩
       cases j with
       | zero =>
         have := World.cell?_setCells_in g [.int .i64 id] 0 _ (fun j hj => by rw [Nat.zero_add]; exact hin1 j (by simp at hj; omega)) 0 (by simp)
         simpa using this
       | succ j =>
         have hj' : j < xs.length := by simpa using hj
         rw [World.cell?_setCells_out g _ _ _ _ (fun _ _ => .inr (by simp))]
         have := World.cell?_setCells_in g ((intsV xs).drop 0) 1 w.drew (fun i hi => by
          have h2 : i < xs.length := by simpa using hi
          exact hin (1 + i) (by omega)) j (by simpa using hj')
         rw [show j + 1 = 1 + j by omega]
         refine Eq.trans this ?_
         rw [show 1 + j = j + 1 by omega]
         simp [intsV]
         rw [List.getElem?_eq_getElem hj']
         rfl
   · by_cases hz : xs = []
     · subst hz
       have hc0 : cap = 0 := by simp at hroom; exact hroom
       subst hc0
       have hcon := Any2.slices_Insert_int_end_grow insInt (some ⟨g, 0, none⟩) 0 0 vb 0 1 1 [] [.int .i64 id] w (by decide) (by decide) (by decide) (by decide) rfl rfl (fun _ => rfl) (fun a _ j u hu => by simp at hu) hvs h1v
       refine Calls.mono hcon ?_
       rintro e w' ⟨rfl, rfl⟩
       have hge := grownCap_ge w 1 0 3
       have hcm' := grownCap_le_maxLen w 1 0 3 (by decide)
       have hW := heap_alloc_new w.drew (.cells (([] ++ [Value.int .i64 id]).toArray ++ Builtin.zeroCells (Value.int .i64 0).cells (grownCap w 1 0 3 - 1)) 3)
       refine ⟨_, rfl, row_of_cells (cap := grownCap w 1 0 3) hW (by simp [size_zeroCells, Value.cells]; omega) hcm' hge (by simp) (fun j hj => ?_), ⟨rfl, rfl, rfl, by simp, fun b hb _ => Below.heap_alloc w.drew _ b hb⟩, fun r hr' => .inr ?_⟩
       · obtain rfl : j = 0 := by simpa using hj
         refine (cell_of_row _ w.heap.size 0 _ _ _ hW).trans ?_
         exact Array.getElem?_append_left (by simp)
       · obtain rfl : w.heap.size = r := by simpa [Value.ownBlock] using hr'
         exact Nat.le_refl _
     · have hpos : 0 < xs.length := List.length_pos_iff.2 hz
       have hcon := Any2.slices_Insert_int_grow insInt g 0 xs.length cap 0 vb 0 1 1 (intsV xs) [.int .i64 id] w hpos (by decide) hnc (by omega) (by omega) (by simp) rfl hcs' hvs h1c h1v
       refine Calls.mono hcon ?_
       rintro e w' ⟨rfl, rfl⟩
       have hge := grownCap_ge w (xs.length + 1) cap 3
       have hcm' := grownCap_le_maxLen w (xs.length + 1) cap 3 (by unfold maxLen; omega)
       have hW0 := heap_alloc_new w (.cells (((intsV xs).take 0).toArray ++ Builtin.zeroCells (Value.int .i64 0).cells (xs.length + 1 - 0) ++ Builtin.zeroCells (Value.int .i64 0).cells (grownCap w (xs.length + 1) cap 3 - (xs.length + 1))) 3)
       refine ⟨_, rfl, grow_in (cap := grownCap w (xs.length + 1) cap 3) hW0 (by simp [size_zeroCells, Value.cells]; omega) id xs hge hcm', grown_setCells (only_drew (grown_setCells (only_drew (only_alloc (only_refl _ _) _)) _ _ _ (.inr (Nat.le_refl _)))) _ _ _ (.inr (Nat.le_refl _)), fun r hr' => .inr ?_⟩
       · obtain rfl : w.heap.size = r := by simpa [Value.ownBlock] using hr'
         exact Nat.le_refl _
end Go.Proofs.YtnhchpiafchdgaaGreat
end
section
namespace Go.Proofs.YtnhchpiafchdgaaGreat
open Go.RowKit Go.Shelf Go.Maps
def Refuse (w : World) (p : Value) (i code : Int) : Prop := ∀ W, Below w.heap.size w W → Calls Tryz.prog 103 #[p, .int .i64 i] W fun e w' => e = .returned (.tuple #[.pointer none, .int .i64 code]) ∧ W = w'
section
variable {w : World} {t : Nat} {l : Lay} {nd : Int → Option Nd} {made : Int} {cnt : Nat}
theorem refuse_none (h : TreeH w t l nd made cnt) {r : Nat} (h0 : l.nb 0 = some r) {i : Int} (hi : I64 i) (hb : l.nb i = none) : Refuse w (treeP t) i 6 := fun _ hW => changeable_none (h.next hW) h0 hi hb
theorem refuse_root (h : TreeH w t l nd made cnt) {r : Nat} (h0 : l.nb 0 = some r) : Refuse w (treeP t) 0 1 := fun _ hW => changeable_root (h.next hW) h0
end
theorem map_f {w : World} {p : Value} {i code : Int} {on : Bool} (hR : Refuse w p i code) (h2 : (code != 0) = true) :
  Calls Tryz.prog 120 #[p, .int .i64 i, .bool on] w fun e w' => e = .returned (.int .i64 code) ∧ Below w.heap.size w w' := by
 have HR := Lib.hid (fun W (hW : Below w.heap.size w W) => hR W hW)
 clear hR
 go_enter Tryz.func120, Tryz.ntmps120
 go_wp2_with (go_at_call 103; ((with_reducible refine (HR.out _ (Below.refl _ _)).mono ?_); rintro e w' ⟨rfl, rfl⟩))
 go_ret
 exact ⟨rfl, (Below.refl _ _)⟩
theorem raise_f {w : World} {p : Value} {i code : Int} (hR : Refuse w p i code) (h2 : (code != 0) = true) :
  Calls Tryz.prog 122 #[p, .int .i64 i] w fun e w' => e = .returned (.int .i64 code) ∧ Below w.heap.size w w' := by
 have HR := Lib.hid (fun W (hW : Below w.heap.size w W) => hR W hW)
 clear hR
 go_enter Tryz.func122, Tryz.ntmps122
 go_wp2_with (go_at_call 103; ((with_reducible refine (HR.out _ (Below.refl _ _)).mono ?_); rintro e w' ⟨rfl, rfl⟩))
 go_ret
 exact ⟨rfl, (Below.refl _ _)⟩
theorem lower_f {w : World} {p : Value} {i code : Int} (hR : Refuse w p i code) (h2 : (code != 0) = true) :
  Calls Tryz.prog 123 #[p, .int .i64 i] w fun e w' => e = .returned (.int .i64 code) ∧ Below w.heap.size w w' := by
 have HR := Lib.hid (fun W (hW : Below w.heap.size w W) => hR W hW)
 clear hR
 go_enter Tryz.func123, Tryz.ntmps123
 go_wp2_with (go_at_call 103; ((with_reducible refine (HR.out _ (Below.refl _ _)).mono ?_); rintro e w' ⟨rfl, rfl⟩))
 go_ret
 exact ⟨rfl, (Below.refl _ _)⟩
theorem destroy_f {w : World} {p : Value} {i code : Int} (hR : Refuse w p i code) (h2 : (code != 0) = true) :
  Calls Tryz.prog 109 #[p, .int .i64 i] w fun e w' => e = .returned (.tuple #[.slice none 0 0, .int .i64 code]) ∧ Below w.heap.size w w' := by
 have HR := Lib.hid (fun W (hW : Below w.heap.size w W) => hR W hW)
 clear hR
 go_enter Tryz.func109, Tryz.ntmps109
 go_wp2_with (go_at_call 103; ((with_reducible refine (HR.out _ (Below.refl _ _)).mono ?_); rintro e w' ⟨rfl, rfl⟩))
 go_ret2
 exact ⟨rfl, (Below.refl _ _)⟩
theorem conf_f {w : World} {p : Value} {i code : Int} {x y a b : Int} (hR : Refuse w p i code) (h2 : (code != 0) = true) :
  Calls Tryz.prog 121 #[p, .int .i64 i, .agg #[.int .i64 x, .int .i64 y, .int .i64 a, .int .i64 b]] w fun e w' => e = .returned (.int .i64 code) ∧ Below w.heap.size w w' := by
 have HR := Lib.hid (fun W (hW : Below w.heap.size w W) => hR W hW)
 clear hR
 go_enter Tryz.func121, Tryz.ntmps121
 go_wp2_with (go_at_call 103; ((with_reducible refine (HR.out _ ((Below.refl _ _).alloc (Nat.le_refl _) _)).mono ?_); rintro e w' ⟨rfl, rfl⟩))
 go_ret
 exact ⟨rfl, ((Below.refl _ _).alloc (Nat.le_refl _) _)⟩
theorem repar_f {w : World} {p : Value} {i code : Int} {q x y : Int} (hR : Refuse w p i code) (h2 : (code != 0) = true) :
  Calls Tryz.prog 76 #[p, .int .i64 i, .int .i64 q, .agg #[.int .i64 x, .int .i64 y]] w fun e w' => e = .returned (.int .i64 code) ∧ Below w.heap.size w w' := by
 have HR := Lib.hid (fun W (hW : Below w.heap.size w W) => hR W hW)
 clear hR
 go_enter Tryz.func76, Tryz.ntmps76
 go_wp2_with (go_at_call 103; ((with_reducible refine (HR.out _ ((Below.refl _ _).alloc (Nat.le_refl _) _)).mono ?_); rintro e w' ⟨rfl, rfl⟩))
 go_ret
 exact ⟨rfl, ((Below.refl _ _).alloc (Nat.le_refl _) _)⟩
section
variable {w : World} {t : Nat} {l : Lay} {nd : Int → Option Nd} {made : Int} {cnt : Nat}
theorem map_c (h : TreeH w t l nd made cnt) {r : Nat} (h0 : l.nb 0 = some r) {i : Int} (hi : I64 i) {b : Nat} {d : Nd} (hb : l.nb i = some b) (hd : nd i = some d) (hz : i ≠ 0) (on : Bool) :
  Calls Tryz.prog 120 #[treeP t, .int .i64 i, .bool on] w fun e w' => e = .returned (.int .i64 0) ∧ TreeTo w t l l.nb (upd nd i (some ⟨{ d.win with on := on }, d.kids⟩)) made cnt w' := by
 have HC := Lib.hid (changeable_some h h0 hi hb hz)
 obtain ⟨⟨-, -, -, -, -, -, k6, -⟩, kf⟩ := h.cells hb hd
 have kf6 := kf 6
 have HT := Lib.hid (h.cell hb hd 6 (.bool on) { d.win with on := on } rfl)
 clear h h0 hi hb hd hz kf
 go_enter Tryz.func120, Tryz.ntmps120
 go_wp2_with (go_at_call 103; ((with_reducible refine (HC.out).mono ?_); rintro e w' ⟨rfl, rfl⟩))
 go_ret
 exact ⟨rfl, l, rfl, HT.out⟩
theorem TreeH.rect (h : TreeH w t l nd made cnt) {i : Int} {b : Nat} {d : Nd} (hb : l.nb i = some b) (hd : nd i = some d) (x y a e : Int) :
  TreeTo w t l l.nb (upd nd i (some ⟨⟨d.win.id, d.win.par, x, y, a, e, d.win.on⟩, d.kids⟩)) made cnt ((((w.setCell ⟨b, 2, none⟩ (.int .i64 x)).setCell ⟨b, 3, none⟩ (.int .i64 y)).setCell ⟨b, 4, none⟩ (.int .i64 a)).setCell ⟨b, 5, none⟩ (.int .i64 e)) := by
 obtain ⟨h1, t1⟩ := h.cell hb hd 2 (.int .i64 x) ⟨d.win.id, d.win.par, x, d.win.y, d.win.w, d.win.h, d.win.on⟩ rfl
 obtain ⟨h2, t2⟩ := h1.cell hb (upd_same _ _ _) 3 (.int .i64 y) ⟨d.win.id, d.win.par, x, y, d.win.w, d.win.h, d.win.on⟩ rfl
 obtain ⟨h3, t3⟩ := h2.cell hb (upd_same _ _ _) 4 (.int .i64 a) ⟨d.win.id, d.win.par, x, y, a, d.win.h, d.win.on⟩ rfl
 obtain ⟨h4, t4⟩ := h3.cell hb (upd_same _ _ _) 5 (.int .i64 e) ⟨d.win.id, d.win.par, x, y, a, e, d.win.on⟩ rfl
 rw [upd_twice, upd_twice, upd_twice] at h4
 exact ⟨l, rfl, h4, ((t1.trans t2).trans t3).trans t4⟩
theorem TreeTo.after {w' : World} {nb' : Int → Option Nat} {nd' : Int → Option Nd} {made' : Int} {cnt' : Nat} {W : World} (hW : Below w.heap.size w W) (h : TreeTo W t l nb' nd' made' cnt' w') : TreeTo w t l nb' nd' made' cnt' w' := by
 obtain ⟨l', h1, h2, h3⟩ := h
 exact ⟨l', h1, h2, Turn.after_below hW h3⟩
theorem conf_wrong (h : TreeH w t l nd made cnt) {r : Nat} (h0 : l.nb 0 = some r) {i : Int} (hi : I64 i) {b : Nat} (hb : l.nb i = some b) (hz : i ≠ 0) {x y a e : Int} (hr : rightB x y a e = false) :
  Calls Tryz.prog 121 #[treeP t, .int .i64 i, .agg #[.int .i64 x, .int .i64 y, .int .i64 a, .int .i64 e]] w fun e w' => e = .returned (.int .i64 10) ∧ Below w.heap.size w w' := by
 have HC := Lib.hid (changeable_some (h.alloc (.cells #[.int .i64 x, .int .i64 y, .int .i64 a, .int .i64 e] 23)) h0 hi hb hz)
 have HR := Lib.hid (fun W => right_c x y a e W)
 rw [hr] at HR
 clear h h0 hi hb hz hr
 go_enter Tryz.func121, Tryz.ntmps121
 go_wp2_with (first
  | (go_at_call 103; ((with_reducible refine (HC.out).mono ?_); rintro e w' ⟨rfl, rfl⟩))
  | (go_at_call 81; ((with_reducible refine (HR.out _).mono ?_); rintro e w' ⟨rfl, hb⟩)))
 go_ret
 exact ⟨rfl, hb.on ((Below.refl _ _).alloc (Nat.le_refl _) _) (by simp)⟩
set_option maxHeartbeats 1000000 in
theorem conf_c (h : TreeH w t l nd made cnt) {r : Nat} (h0 : l.nb 0 = some r) {i : Int} (hi : I64 i) {b : Nat} {d : Nd} (hb : l.nb i = some b) (hd : nd i = some d) (hz : i ≠ 0) {x y a e : Int} (hr : rightB x y a e = true) :
  Calls Tryz.prog 121 #[treeP t, .int .i64 i, .agg #[.int .i64 x, .int .i64 y, .int .i64 a, .int .i64 e]] w fun ex w' => ex = .returned (.int .i64 0) ∧ TreeTo w t l l.nb (upd nd i (some ⟨⟨d.win.id, d.win.par, x, y, a, e, d.win.on⟩, d.kids⟩)) made cnt w' := by
 obtain ⟨wb, hwb⟩ : ∃ wb, wb = w.alloc (.cells #[.int .i64 x, .int .i64 y, .int .i64 a, .int .i64 e] 23) := ⟨_, rfl⟩
 have hbel : Below w.heap.size w wb := by rw [hwb]; exact (Below.refl _ _).alloc (Nat.le_refl _) _
 have HC := Lib.hid (changeable_some (h.next hbel) h0 hi hb hz)
 have HR := Lib.hid (fun W => right_c x y a e W)
 rw [hr] at HR
 have hbx : Blk wb w.heap.size 23 #[.int .i64 x, .int .i64 y, .int .i64 a, .int .i64 e] := by rw [hwb]; exact Blk.new w _ _
 obtain ⟨⟨x0, x1, x2, x3⟩, -⟩ := hbx.c4
 have HX := Lib.hid (fun W (hW : Below wb.heap.size wb W) => (hbx.next hW).c4.1)
 have HK := Lib.hid (fun W (hW : Below wb.heap.size wb W) => (((h.next hbel).next hW).cells hb hd))
 have HT := Lib.hid (fun W (hW : Below wb.heap.size wb W) => TreeTo.after (hW.on hbel hbel.size) (((h.next hbel).next hW).rect hb hd x y a e))
 have HW := Lib.hid hwb
 clear h h0 hi hb hd hz hr hbx hbel
 go_enter Tryz.func121, Tryz.ntmps121
 go_upto_region 1 with fail
 rw [← HW.out]
 clear hwb
 go_wp2_with (first
  | (go_at_call 103; ((with_reducible refine (HC.out).mono ?_); rintro e w' ⟨rfl, rfl⟩))
  | (go_at_call 81; ((with_reducible refine (HR.out _).mono ?_); rintro e w1 ⟨rfl, hb⟩); obtain ⟨y0, y1, y2, y3⟩ := HX.out _ hb; obtain ⟨⟨k0, k1, k2, k3, k4, k5, k6, k7⟩, kf⟩ := HK.out _ hb; have f2 := kf 2; have f3 := kf 3; have f4 := kf 4; have f5 := kf 5; have HT1 := Lib.hid (HT.out _ hb); clear kf k0 k1 k6 k7 hb))
 go_ret
 exact ⟨rfl, HT1.out⟩
end
end Go.Proofs.YtnhchpiafchdgaaGreat
end
section
namespace Go.Proofs.YtnhchpiafchdgaaGreat
open Go.RowKit Go.Shelf Go.Maps
theorem strike_len (k : Int) (xs : List Int) : (strike k xs).length ≤ xs.length := List.length_filter_le _ _
section
variable {w : World} {t : Nat} {l : Lay} {nd : Int → Option Nd} {made : Int} {cnt : Nat}
theorem TreeTo.trans {w1 w2 : World} {nb2 : Int → Option Nat} {nd2 : Int → Option Nd} {made2 : Int} {cnt2 : Nat} {l1 : Lay} (h : Turn (l.foot t) (l1.foot t) w w1) (k : TreeTo w1 t l1 nb2 nd2 made2 cnt2 w2) : TreeTo w t l nb2 nd2 made2 cnt2 w2 := by
 obtain ⟨l', h1, h2, h3⟩ := k
 exact ⟨l', h1, h2, h.trans h3⟩
set_option maxHeartbeats 1000000 in
theorem raise_c (h : TreeH w t l nd made cnt) {r : Nat} (h0 : l.nb 0 = some r) {i : Int} (hi : I64 i) {b bp : Nat} {d dp : Nd} (hb : l.nb i = some b) (hd : nd i = some d) (hz : i ≠ 0) (hbp : l.nb d.win.par = some bp) (hdp : nd d.win.par = some dp) (hne : d.win.par ≠ i) (hip : I64 d.win.par) (hk : dp.kids.length ≤ 4096) :
  Calls Tryz.prog 122 #[treeP t, .int .i64 i] w fun e w' => e = .returned (.int .i64 0) ∧ TreeTo w t l l.nb (upd nd d.win.par (some ⟨dp.win, strike d.win.id dp.kids ++ [d.win.id]⟩)) made cnt w' := by
 have HC := Lib.hid (changeable_some h h0 hi hb hz)
 have HL := Lib.hid (leave_c h hbp hb hdp hd rfl hip)
 have HE := Lib.hid (fun (W : World) (l1 : Lay) (hl1 : l1.nb = l.nb) (T1 : TreeH W t l1 (upd nd d.win.par (some ⟨dp.win, strike d.win.id dp.kids⟩)) made cnt) => And.intro
  (enter_c T1 (p := d.win.par) (c := i) (hl1 ▸ hbp) (hl1 ▸ hb) (upd_same _ _ _) ((upd_other _ _ hne.symm).trans hd) hne hip (Nat.le_trans (strike_len _ _) hk))
  (T1.cells (hl1 ▸ hb) ((upd_other _ _ hne.symm).trans hd)).1.2.1)
 have HF := Lib.hid (show upd (upd (upd nd d.win.par (some ⟨dp.win, strike d.win.id dp.kids⟩)) d.win.par (some ⟨dp.win, strike d.win.id dp.kids ++ [d.win.id]⟩)) i (some ⟨{ d.win with par := d.win.par }, d.kids⟩) = upd nd d.win.par (some ⟨dp.win, strike d.win.id dp.kids ++ [d.win.id]⟩) by
  rw [upd_twice, upd_self]
  rw [upd_other _ _ hne.symm, hd])
 clear h h0 hi hb hd hz hbp hdp hne hip hk
 go_enter Tryz.func122, Tryz.ntmps122
 go_wp2_with (first
  | (go_at_call 103; ((with_reducible refine (HC.out).mono ?_); rintro e w' ⟨rfl, rfl⟩))
  | (go_at_call 105; ((with_reducible refine (HL.out).mono ?_); rintro e w1 ⟨rfl, l1, hl1, T1, U1⟩); obtain ⟨E1, k1⟩ := HE.out w1 l1 hl1 T1; have HE1 := Lib.hid E1; have HU := Lib.hid U1; have HL1 := Lib.hid hl1; clear E1 U1 T1 hl1)
  | (go_at_call 106; ((with_reducible refine (HE1.out).mono ?_); rintro e w2 ⟨rfl, T2⟩); have HT2 := Lib.hid T2; clear T2))
 go_ret
 refine ⟨rfl, ?_⟩
 have k := TreeTo.trans HU.out HT2.out
 have hf := HF.out
 rw [hf, HL1.out] at k
 exact k
set_option maxRecDepth 100000 in
set_option maxHeartbeats 4000000 in
theorem lower_c (h : TreeH w t l nd made cnt) {r : Nat} (h0 : l.nb 0 = some r) {i : Int} (hi : I64 i) {b bp : Nat} {d dp : Nd} (hb : l.nb i = some b) (hd : nd i = some d) (hz : i ≠ 0) (hbp : l.nb d.win.par = some bp) (hdp : nd d.win.par = some dp) (hne : d.win.par ≠ i) (hip : I64 d.win.par) (hk : dp.kids.length ≤ 4096) :
  Calls Tryz.prog 123 #[treeP t, .int .i64 i] w fun e w' => e = .returned (.int .i64 0) ∧ TreeTo w t l l.nb (upd nd d.win.par (some ⟨dp.win, i :: strike d.win.id dp.kids⟩)) made cnt w' := by
 have HC := Lib.hid (changeable_some h h0 hi hb hz)
 have HL := Lib.hid (leave_c h hbp hb hdp hd rfl hip)
 obtain ⟨q, hq⟩ : ∃ q, q = d.win.par := ⟨_, rfl⟩
 obtain ⟨ks, hks⟩ : ∃ ks, ks = strike d.win.id dp.kids := ⟨_, rfl⟩
 have hkl : ks.length ≤ 4096 := by rw [hks]; exact Nat.le_trans (strike_len _ _) hk
 rw [← hks] at HL ⊢
 rw [← hq] at HL hbp hdp hne hip ⊢
 have HE := Lib.hid (fun (W : World) (l1 : Lay) (hl1 : l1.nb = l.nb) (T1 : TreeH W t l1 (upd nd q (some ⟨dp.win, ks⟩)) made cnt) =>
  (show (W.cell? ⟨t, 0, none⟩ = some (.map (some l1.bm)) ∧ (∀ n, (Instr.lookup 103 (.map (some l1.bm)) (.int .i64 q) false).run Tryz.prog (W.drewN n) = .ok (.pointer (some ⟨bp, 0, none⟩)) (W.drewN n)) ∧ W.cell? ⟨b, 1, none⟩ = some (.int .i64 q) ∧ W.cell? ⟨bp, 7, none⟩ = some (l1.kv q) ∧ bp < W.heap.size) from
   ⟨T1.tree.c2.1.1, fun n => (T1.drewN n).look_some hip (hl1 ▸ hbp), by rw [hq]; exact (T1.cells (hl1 ▸ hb) ((upd_other _ _ hne.symm).trans hd)).1.2.1, (T1.cells (hl1 ▸ hbp) (upd_same _ _ _)).1.2.2.2.2.2.2.2, (T1.node q bp _ (hl1 ▸ hbp) (upd_same _ _ _)).1.lt⟩))
 have HI := Lib.hid (fun (W : World) (l1 : Lay) (hl1 : l1.nb = l.nb) (T1 : TreeH W t l1 (upd nd q (some ⟨dp.win, ks⟩)) made cnt) (n : Nat) =>
  (show Calls Tryz.prog 137 #[l1.kv q, .int .i64 0, .slice (some ⟨W.heap.size, 0, none⟩) 1 1] ((W.drewN n).alloc (.cells #[.int .i64 i] 3)) (fun e w' => ∃ p c, e = .returned (.slice p (ks.length + 1) c) ∧ w'.cell? ⟨bp, 7, none⟩ = some (l1.kv q) ∧ w'.frozen? ⟨bp, 7, none⟩ = false ∧
    TreeTo W t l1 l.nb (upd nd q (some ⟨dp.win, i :: ks⟩)) made cnt (w'.setCell ⟨bp, 7, none⟩ (.slice p (ks.length + 1) c))) from by
   have T2 := (T1.drewN n).alloc (.cells #[.int .i64 i] 3)
   have hr2 := (T2.node q bp _ (hl1 ▸ hbp) (upd_same _ _ _)).2
   have hps : (l1.nb q).isSome = true := by rw [hl1, hbp]; rfl
   refine (insert0_c (l1.kv q) ks i W.heap.size _ hr2 (Blk.new (W.drewN n) _ _) (fun r hr => by
    have := T1.foot_lt (.inr (.inr (.inr ⟨q, hps, hr⟩))); omega) (by omega)).mono ?_
   rintro e w' ⟨v', rfl, ho, hg, hv⟩
   have hbel : Below W.heap.size W ((W.drewN n).alloc (.cells #[.int .i64 i] 3)) := (below_drewN (Below.refl _ _) n).alloc (Nat.le_refl _) _
   have k2 := T1.grow (p := q) (hl1 ▸ hbp) (upd_same _ _ _) hbel hg ho (fun r hr => (hv r hr).imp_right fun h1 => by simp at h1; omega)
   have k3 := past T2 (p := q) (c := q) (hl1 ▸ hbp) hg (hl1 ▸ hbp) (upd_same _ _ _)
   obtain ⟨p, c, rfl⟩ := row_slice ho
   have k4 := k2.1
   rw [upd_twice] at k4
   exact ⟨p, c, rfl, k3.at_ (i := 7) rfl, k3.frozen 7, ⟨{ l1 with kv := upd l1.kv q (.slice p (ks.length + 1) c) }, hl1, k4, k2.2⟩⟩))
 clear h h0 hi hb hd hz hbp hdp hne hip hk hq hks hkl
 go_enter Tryz.func123, Tryz.ntmps123
 go_upto_region 5 with (first
  | (go_at_call 103; ((with_reducible refine (HC.out).mono ?_); rintro e w' ⟨rfl, rfl⟩))
  | (go_at_call 105; ((with_reducible refine (HL.out).mono ?_); rintro e w1 ⟨rfl, l1, hl1, T1, U1⟩); obtain ⟨c0, e0, k1, k7, kb⟩ := HE.out w1 l1 hl1 T1; have HI1 := Lib.hid (HI.out w1 l1 hl1 T1); have HU := Lib.hid U1; clear U1 T1 hl1))
 go_quiet (fail)
 go_wp2_with (go_at_call 137; ((with_reducible refine (HI1.out _).mono ?_); rintro e w2 ⟨p, c, rfl, q7, f7, T2⟩); have HT2 := Lib.hid T2; clear T2)
 go_ret
 exact ⟨rfl, TreeTo.trans HU.out HT2.out⟩
end
end Go.Proofs.YtnhchpiafchdgaaGreat
end
section
namespace Go.Proofs.YtnhchpiafchdgaaGreat
open Go.RowKit Go.Shelf Go.Maps
def Way (nd : Int → Option Nd) : Nat → Int → Prop
 | 0, i => i = 0 ∧ ∃ d, nd i = some d
 | n + 1, i => i ≠ 0 ∧ ∃ d, nd i = some d ∧ Way nd n d.win.par
def parOf (nd : Int → Option Nd) (i : Int) : Int := match nd i with
 | some d => d.win.par
 | none => 0
def thruB (nd : Int → Option Nd) : Nat → Int → Int → Bool
 | 0, i, o => i == o
 | n + 1, i, o => i == o || thruB nd n (parOf nd i) o
def onOf (nd : Int → Option Nd) (i : Int) : Bool := match nd i with
 | some d => d.win.on
 | none => false
def viewB (nd : Int → Option Nd) : Nat → Int → Bool
 | 0, i => onOf nd i
 | n + 1, i => onOf nd i && viewB nd n (parOf nd i)
def Wide (nd : Int → Option Nd) : Prop := ∀ i d, nd i = some d → I64 i ∧ I64 d.win.par
section
variable {w : World} {t : Nat} {l : Lay} {nd : Int → Option Nd} {made : Int} {cnt : Nat}
theorem Way.there {n : Nat} {i : Int} (h : Way nd n i) : ∃ d, nd i = some d := by
 cases n with
 | zero => exact h.2
 | succ n => obtain ⟨_, d, hd, _⟩ := h; exact ⟨d, hd⟩
set_option maxRecDepth 100000 in
theorem goes_c (hw : Wide nd) (o : Int) : ∀ (n : Nat) (i : Int) (w : World), TreeH w t l nd made cnt → Way nd n i →
  Calls Tryz.prog 104 #[treeP t, .int .i64 i, .int .i64 o] w fun e w' => e = .returned (.bool (thruB nd n i o)) ∧ w = w'
 | n, i, w, h, hW => by
  by_cases hio : i = o
  · subst hio
    have HB := Lib.hid (show thruB nd n i i = true by cases n <;> simp [thruB])
    clear h hW
    go_enter Tryz.func104, Tryz.ntmps104
    go_wp2_with fail
    go_ret
    exact ⟨ret_bool HB.out.symm, rfl⟩
  · have hio' : (i == o) = false := by simpa using hio
    cases n with
    | zero =>
     obtain ⟨rfl, _⟩ := hW
     have HB := Lib.hid (show thruB nd 0 0 o = false by simp only [thruB]; exact hio')
     clear h hio
     go_enter Tryz.func104, Tryz.ntmps104
     go_wp2_with fail
     go_ret
     exact ⟨ret_bool HB.out.symm, rfl⟩
    | succ n =>
     obtain ⟨hz, d, hd, hW'⟩ := hW
     obtain ⟨b, hb⟩ := h.block hd
     have hi := (hw i d hd).1
     have HR := Lib.hid (goes_c hw o n d.win.par w h hW')
     have HB := Lib.hid (show thruB nd (n + 1) i o = thruB nd n d.win.par o by simp only [thruB, parOf, hd]; rw [hio']; rfl)
     obtain ⟨⟨c0, -⟩, -⟩ := h.tree.c2
     have e0 := h.look_some hi hb
     obtain ⟨⟨-, k1, -⟩, -⟩ := h.cells hb hd
     have hz1 : (i == 0) = false := by simpa using hz
     have hz2 : (i != 0) = true := by simp [bne, hz1]
     clear h hio hW' hd hb hi
     go_enter Tryz.func104, Tryz.ntmps104
     go_wp2_with (go_at_call 104; ((with_reducible refine (HR.out).mono ?_); rintro e w' ⟨rfl, rfl⟩))
     go_ret
     exact ⟨ret_bool HB.out.symm, rfl⟩
theorem view_none (h : TreeH w t l nd made cnt) {i : Int} (hi : I64 i) (hb : l.nb i = none) : Calls Tryz.prog 44 #[treeP t, .int .i64 i] w fun e w' => e = .returned (.bool false) ∧ w = w' := by
 have H1 := Lib.hid (find_none h hi hb)
 clear h hi hb
 go_enter Tryz.func44, Tryz.ntmps44
 go_wp2_with (go_at_call 66; ((with_reducible refine (H1.out).mono ?_); rintro e w' ⟨rfl, rfl⟩))
 go_ret
 exact ⟨rfl, rfl⟩
set_option maxRecDepth 100000 in
theorem view_c (hw : Wide nd) : ∀ (n : Nat) (i : Int) (w : World), TreeH w t l nd made cnt → Way nd n i →
  Calls Tryz.prog 44 #[treeP t, .int .i64 i] w fun e w' => e = .returned (.bool (viewB nd n i)) ∧ w = w'
 | n, i, w, h, hW => by
  obtain ⟨d, hd⟩ := hW.there
  obtain ⟨b, hb⟩ := h.block hd
  have hi := (hw i d hd).1
  have H1 := Lib.hid (find_some h hi hb)
  obtain ⟨⟨-, k1, -, -, -, -, k6, -⟩, -⟩ := h.cells hb hd
  cases hon : d.win.on with
  | false =>
   rw [hon] at k6
   have HB := Lib.hid (show viewB nd n i = false by cases n <;> simp [viewB, onOf, hd, hon])
   clear h hW hd hb hi hon
   go_enter Tryz.func44, Tryz.ntmps44
   go_wp2_with (go_at_call 66; ((with_reducible refine (H1.out).mono ?_); rintro e w' ⟨rfl, rfl⟩))
   go_ret
   exact ⟨ret_bool HB.out.symm, rfl⟩
  | true =>
   rw [hon] at k6
   cases n with
   | zero =>
    obtain ⟨rfl, _⟩ := hW
    have HB := Lib.hid (show viewB nd 0 0 = true by simp [viewB, onOf, hd, hon])
    clear h hd hb hi hon
    go_enter Tryz.func44, Tryz.ntmps44
    go_wp2_with (go_at_call 66; ((with_reducible refine (H1.out).mono ?_); rintro e w' ⟨rfl, rfl⟩))
    go_ret
    exact ⟨ret_bool HB.out.symm, rfl⟩
   | succ n =>
    obtain ⟨hz, d', hd', hW'⟩ := hW
    rw [hd] at hd'
    injection hd' with hd'
    subst hd'
    have HR := Lib.hid (view_c hw n d.win.par w h hW')
    have HB := Lib.hid (show viewB nd (n + 1) i = viewB nd n d.win.par by simp [viewB, onOf, parOf, hd, hon])
    have hz1 : (i == 0) = false := by simpa using hz
    clear h hW' hd hb hi hon hz
    go_enter Tryz.func44, Tryz.ntmps44
    go_wp2_with (first
     | (go_at_call 66; ((with_reducible refine (H1.out).mono ?_); rintro e w' ⟨rfl, rfl⟩))
     | (go_at_call 44; ((with_reducible refine (HR.out).mono ?_); rintro e w' ⟨rfl, rfl⟩)))
    go_ret
    exact ⟨ret_bool HB.out.symm, rfl⟩
end
end Go.Proofs.YtnhchpiafchdgaaGreat
end
