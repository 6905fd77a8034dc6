/- leave: the closure, the library's DeleteFunc, walked. -/
import Derived.Test.YtlbbjinkblgfiaaWiF
import Derived.Test.YtlbbjinkblgfiaaWiS
import Derived.Shelf.SlicesE.DeleteFunc
import Derived.Lib.SliceRun
namespace Go.Proofs.Ytlbbjinkblgfiaa
open Go.RowKit Go.Shelf Go.Maps Go.Lib Go.Sort
theorem same_gives (k x : Int) (B bc : Nat) (W : World) (hB : W.cell? ⟨B, 0, none⟩ = some (.pointer (some ⟨bc, 0, none⟩))) (hk : W.cell? ⟨bc, 0, none⟩ = some (.int .i64 k)) :
    FnGives Try.prog 65 #[.pointer (some ⟨B, 0, none⟩)] #[.int .i64 x] (.bool (x == k)) W := by
  show Calls Try.prog 65 #[.int .i64 x, .pointer (some ⟨B, 0, none⟩)] W _
  go_enter Try.func65, Try.ntmps65
  go_wp2
  go_ret
  exact ⟨rfl, 0, rfl⟩
theorem del_filter (xs : List Int) (k : Int) : (xs.filter fun x => !(x == k)) = xs.filter (fun x => decide (x ≠ k)) := by
  congr 1
  funext x
  by_cases h : x = k <;> simp [h]
/-- The cells behind DeleteFunc. -/
theorem put_take (cur : Array Value) (xs ys : List Int) (hl : ys.length ≤ xs.length) (hc : xs.length ≤ cur.size) (d : Array Int) (hd : d = (ys ++ List.replicate (xs.length - ys.length) 0).toArray) :
    (putCells (Value.int .i64) 0 d cur).toList.take ys.length = intsV ys ∧ (putCells (Value.int .i64) 0 d cur).size = cur.size := by
  subst hd
  have hs : (putCells (Value.int .i64) 0 (ys ++ List.replicate (xs.length - ys.length) 0).toArray cur).size = cur.size := by simp [putCells]
  refine ⟨?_, hs⟩
  apply List.ext_getElem?
  intro i
  by_cases hi : i < ys.length
  · rw [List.getElem?_take_of_lt hi]
    have h1 : i < cur.size := by omega
    simp only [Array.getElem?_toList, putCells, Array.getElem?_mapIdx]
    rw [Array.getElem?_eq_getElem h1]
    simp only [Option.map_some]
    rw [if_pos ⟨Nat.zero_le _, by simp; omega⟩]
    simp [intsV, List.getElem?_map, List.getElem?_eq_getElem hi, getElem!_def, List.getElem?_append_left hi]
  · rw [List.getElem?_eq_none (by simp; omega), List.getElem?_eq_none (by simp [intsV]; omega)]
theorem heap_putRow_same {w : World} {g : Nat} {cur : Array Value} {T : TypeId} {fr : Nat × Nat} (d : Array Int) (h : w.heap[g]? = some (.cells cur T fr)) : (putRow (Value.int .i64) w g 0 d).heap[g]? = some (.cells (putCells (Value.int .i64) 0 d cur) T fr) := by
  simp [putRow, mapBlock, Array.getElem?_modify, h, onCells]
theorem heap_putRow_other (w : World) {g b : Nat} (d : Array Int) (hne : b ≠ g) : (putRow (Value.int .i64) w g 0 d).heap[b]? = w.heap[b]? := by
  simp only [putRow, mapBlock, Array.getElem?_modify]
  rw [if_neg (fun e => hne e.symm)]
set_option maxHeartbeats 2000000 in
theorem delete_c (v : Value) (xs : List Int) (k : Int) (B bc : Nat) (w : World) (hr : w.ownsRow 0 3 1 v xs.length (intsV xs)) (hB : w.cell? ⟨B, 0, none⟩ = some (.pointer (some ⟨bc, 0, none⟩))) (hk : w.cell? ⟨bc, 0, none⟩ = some (.int .i64 k))
    (nB : ∀ r, v.ownBlock = some r → B ≠ r) (nb : ∀ r, v.ownBlock = some r → bc ≠ r) :
    Calls Try.prog 64 #[v, .func (.func 65) #[] #[.pointer (some ⟨B, 0, none⟩)]] w fun e w' => ∃ v', e = .returned v' ∧ w'.ownsRow 0 3 1 v' (strike k xs).length (intsV (strike k xs)) ∧
      w.grownBy w' v.ownBlock ∧ v'.ownBlock = v.ownBlock := by
  unfold strike
  have eg : ∀ args w, (callFunc 65 args).run Try.prog w = .ok (.enter 65 args) w := enters_of Try.func65 (by kernel_rfl) rfl
  obtain ⟨hlen, h1⟩ := id hr
  rcases h1 with ⟨rfl, hn⟩ | ⟨g, cap, cur, rfl, -, hg, hnc, hcm, hcs, ht⟩
  · have hx : xs = [] := List.eq_nil_of_length_eq_zero hn
    subst hx
    have HI : Calls Try.prog 70 #[.slice none 0 0, .func (.func 65) #[] #[.pointer (some ⟨B, 0, none⟩)]] w fun e w' => e = .returned (.int .i64 (-1)) ∧ w = w' := by
      go_enter Try.func70, Try.ntmps70
      go_wp2_with fail
      go_loopw [8] (fun z wr => z = .int .i64 0 ∧ wr = w) (fun z _ => 0)
      case atStart => exact ⟨rfl, rfl⟩
      case round =>
        obtain ⟨rfl, rfl⟩ := hrel
        go_wp2_with fail
        go_ret
        exact ⟨rfl, rfl⟩
    go_enter Try.func64, Try.ntmps64
    go_wp2_with (go_at_call 70; ((with_reducible refine HI.mono ?_); rintro e w' ⟨rfl, rfl⟩))
    go_ret
    exact ⟨_, rfl, World.ownsRow_nil _ _ _ _, World.grownBy.refl _ _, rfl⟩
  · have hd : xs.toArray.size = xs.length := by simp
    have hH : Holds (Value.int .i64) w g 0 xs.toArray := by
      intro j hj
      have hj' : j < xs.length := by simpa using hj
      have hc := World.ownsRow.cellAt hr j (by omega)
      refine ⟨?_, by rw [Nat.zero_add]; exact World.ownsRow.frozenAt hr j⟩
      rw [Nat.zero_add, hc, List.getElem?_map, List.getElem?_eq_getElem hj', getElem!_pos _ j (by simpa using hj')]
      simp
    have hgB : B ≠ g := nB g rfl
    have hgb : bc ≠ g := nb g rfl
    have hBl := World.block_lt_of_cell? _ _ hB
    have hbl := World.block_lt_of_cell? _ _ hk
    dsimp only at hBl hbl
    have hcon := AnyE.slices_DeleteFunc delInt (Value.int .i64) (fun _ => rfl) (fun x => x == k) 65 #[.pointer (some ⟨B, 0, none⟩)] eg 0 (fun _ => by kernel_rfl) g 0 cap xs.toArray w
      (fun W x hb => same_gives k x B bc W ((hb.cell (p := ⟨B, 0, none⟩) hBl).trans hB) ((hb.cell (p := ⟨bc, 0, none⟩) hbl).trans hk))
      (fun n os dk x _ => same_gives k x B bc _ (by
        unfold sortWorld
        rw [cell?_grow _ _ _ (by show B < (putRow _ _ _ _ _).heap.size; rw [size_putRow]; exact hBl), cell?_putRow_other _ _ g 0 _ _ (Or.inl hgB)]
        exact hB) (by
        unfold sortWorld
        rw [cell?_grow _ _ _ (by show bc < (putRow _ _ _ _ _).heap.size; rw [size_putRow]; exact hbl), cell?_putRow_other _ _ g 0 _ _ (Or.inl hgb)]
        exact hk)) hH (by unfold maxLen at hcm; simp; omega) (by simpa using hnc)
    rw [hd] at hcon
    refine Calls.mono hcon ?_
    rintro e w' ⟨rfl, q, rfl⟩
    rw [show xs.toArray.toList = xs from rfl, del_filter]
    obtain ⟨k1, k2⟩ := put_take cur xs (xs.filter (fun x => decide (x ≠ k))) (List.length_filter_le _ _) (by omega) _ rfl
    have hg' : (Sort.ahead w q).heap[g]? = some (.cells cur 3 (0, 0)) := hg
    refine ⟨_, rfl, ⟨by simp [intsV], .inr ⟨g, cap, _, rfl, Nat.zero_le _, heap_putRow_same _ hg', by have := List.length_filter_le (fun x => decide (x ≠ k)) xs; omega, hcm, ?_, ?_⟩⟩, ⟨rfl, rfl, rfl, ?_, fun b hb hne => ?_⟩, rfl⟩
    · rw [k2]; exact hcs
    · rw [Nat.mul_one]; exact k1
    · rw [size_putRow]; exact Nat.le_refl _
    · exact heap_putRow_other (Sort.ahead w q) _ (fun e => hne (by rw [e]; rfl))
end Go.Proofs.Ytlbbjinkblgfiaa
