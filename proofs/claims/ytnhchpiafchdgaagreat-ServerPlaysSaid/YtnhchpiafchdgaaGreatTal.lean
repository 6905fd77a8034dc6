/- Texts Sau Sav. -/
import Derived.Test.YtnhchpiafchdgaaGreatTad
import Derived.RegionTactic
import Derived.ChangeAlike
import Derived.Test.YtnhchpiafchdgaaGreatTai
import Derived.Test.YtnhchpiafchdgaaGreatTaj
import Derived.Test.YtnhchpiafchdgaaGreatTak
import Derived.Test.YtnhchpiafchdgaaGreatTaa
section
namespace Go.Proofs.YtnhchpiafchdgaaGreat
open Go.RowKit Go.Shelf Go.Maps
def rootNd (x y a e : Int) : Nd := ⟨⟨0, -1, x, y, a, e, true⟩, []⟩
def nd0 (x y a e : Int) : Int → Option Nd := upd (fun _ => none) 0 (some (rootNd x y a e))
def TreeNew (w : World) (x y a e : Int) (t : Nat) (w' : World) : Prop := ∃ l, l.nb = upd (fun _ => none) 0 (l.nb 0) ∧ TreeH w' t l (nd0 x y a e) 0 1 ∧ Below w.heap.size w w' ∧ ∀ b, l.foot t b → w.heap.size ≤ b
theorem empty_v (x y a b : Int) (w : World) : Calls Tryz.prog 54 #[.agg #[.int .i64 x, .int .i64 y, .int .i64 a, .int .i64 b]] w fun e w' => e = .returned (.bool (emptyB x y a b)) ∧ Below w.heap.size w w' := empty_c x y a b w
theorem new_wrong {x y a b : Int} (w : World) (hr : emptyB x y a b = true) : Calls Tryz.prog 33 #[.agg #[.int .i64 x, .int .i64 y, .int .i64 a, .int .i64 b]] w fun e w' => e = .returned (.tuple #[.pointer none, .int .i64 10]) ∧ Below w.heap.size w w' := by
 have HR := Lib.hid (fun W => empty_v x y a b W)
 rw [hr] at HR
 clear hr
 go_enter Tryz.func33, Tryz.ntmps33
 go_wp2_with (go_at_call 54; ((with_reducible refine (HR.out _).mono ?_); rintro e w' ⟨rfl, hb⟩))
 go_ret2
 exact ⟨rfl, hb.on ((Below.refl _ _).alloc (Nat.le_refl _) _) (by simp)⟩
def keptA (x y a e : Int) : Array Value := #[.int .i64 0, .int .i64 (-1), .int .i64 x, .int .i64 y, .int .i64 a, .int .i64 e, .bool true, .slice none 0 0]
theorem new_made (w w1 W4 : World) (x y a e : Int) (hb1 : Below w.heap.size w w1) (hM : MapAt W4 (w1.heap.size + 1) (upd (fun _ => none) 0 (some w1.heap.size)) 1) (hg : ((w1.alloc (.cells (keptA x y a e) 102)).alloc (.map #[] 0)).grownBy W4 (some (w1.heap.size + 1))) :
   TreeNew w x y a e W4.heap.size (W4.alloc (.cells #[.map (some (w1.heap.size + 1)), .int .i64 0] 105)) := by
 have hs := hg.size
 simp at hs
 have hk : Blk W4 w1.heap.size 102 (keptA x y a e) := ((Blk.new w1 102 (keptA x y a e)).alloc _).grown hg (by simp)
 have h1 := hb1.size
 refine ⟨⟨w1.heap.size + 1, upd (fun _ => none) 0 (some w1.heap.size), fun _ => .slice none 0 0⟩, by show upd (fun _ => none) 0 (some w1.heap.size) = upd (fun _ => none) 0 (upd (fun _ => none) 0 (some w1.heap.size) 0); rw [upd_same], ⟨Blk.new _ _ _, hM.kept (World.grownBy_alloc _ _ none) (by simp), fun i => ?_, fun i b d hb hd => ?_, fun i j b hi hj => ?_, fun i j b _ _ hi => by cases hi⟩, ?_, fun b hb => ?_⟩
 · show (upd (fun _ => none) 0 (some w1.heap.size) i).isSome = (nd0 x y a e i).isSome
   unfold nd0 upd
   split <;> rfl
 · have hb' : upd (fun _ => none) 0 (some w1.heap.size) i = some b := hb
   by_cases hi : i = 0
   · subst hi
     rw [upd_same] at hb'
     unfold nd0 at hd
     rw [upd_same] at hd
     injection hb' with hb'
     injection hd with hd
     subst hb' hd
     exact ⟨hk.alloc _, World.ownsRow_nil _ _ _ _⟩
   · rw [upd_other _ _ hi] at hb'; cases hb'
 · have hi' : upd (fun _ => none) 0 (some w1.heap.size) i = some b := hi
   have hj' : upd (fun _ => none) 0 (some w1.heap.size) j = some b := hj
   by_cases h2 : i = 0
   · by_cases h3 : j = 0
     · rw [h2, h3]
     · rw [upd_other _ _ h3] at hj'; cases hj'
   · rw [upd_other _ _ h2] at hi'; cases hi'
 · exact (below_only ((hb1.alloc hb1.size _).alloc (by simp; omega) _) hg (by simp; omega) (fun g hgg => by injection hgg with hgg; omega)).alloc (by omega) _
 · rcases hb with rfl | rfl | ⟨i, hi⟩ | ⟨i, hi, hv⟩
   · omega
   · show w.heap.size ≤ w1.heap.size + 1; omega
   · have hi' : upd (fun _ => none) 0 (some w1.heap.size) i = some b := hi
     by_cases h2 : i = 0
     · subst h2
       rw [upd_same] at hi'
       injection hi' with hi'
       omega
     · rw [upd_other _ _ h2] at hi'; cases hi'
   · cases hv
set_option maxRecDepth 100000 in
set_option maxHeartbeats 2000000 in
theorem new_c {x y a b : Int} (w : World) (hr : emptyB x y a b = false) : Calls Tryz.prog 33 #[.agg #[.int .i64 x, .int .i64 y, .int .i64 a, .int .i64 b]] w fun e w' => ∃ t, e = .returned (.tuple #[treeP t, .int .i64 0]) ∧ TreeNew w x y a b t w' := by
 have HR := Lib.hid (fun W => empty_v x y a b W)
 rw [hr] at HR
 clear hr
 have hmm := @run_makeMap Tryz.prog
 obtain ⟨wb, hwb⟩ : ∃ wb, wb = w.alloc (.cells #[.int .i64 x, .int .i64 y, .int .i64 a, .int .i64 b] 23) := ⟨_, rfl⟩
 have hbx : Blk wb w.heap.size 23 #[.int .i64 x, .int .i64 y, .int .i64 a, .int .i64 b] := by rw [hwb]; exact Blk.new w _ _
 have hbel : Below w.heap.size w wb := by rw [hwb]; exact (Below.refl _ _).alloc (Nat.le_refl _) _
 have HBX := Lib.hid (fun W (hW : Below wb.heap.size wb W) => (hbx.next hW).c4.1)
 have HBW := Lib.hid (fun W (hW : Below wb.heap.size wb W) => hW.on hbel hbel.size)
 obtain ⟨⟨x0, x1, x2, x3⟩, -⟩ := hbx.c4
 have HW := Lib.hid hwb
 clear hbx hbel
 go_enter Tryz.func33, Tryz.ntmps33
 go_upto_region 1 with fail
 rw [← HW.out]
 clear hwb
 go_upto_region 3 with (go_at_call 54; ((with_reducible refine (HR.out _).mono ?_); rintro e w1 ⟨rfl, hb⟩))
 obtain ⟨y0, y1, y2, y3⟩ := HBX.out _ hb
 have hb1 := HBW.out _ hb
 have HB1 := Lib.hid hb1
 clear x0 x1 x2 x3 hb hb1
 obtain ⟨W4, hrun, hM, hg⟩ := (MapAt.made (w1.alloc (.cells (keptA x y a b) 102))).put i64_0 (by decide) rfl w1.heap.size
 have HT := Lib.hid (new_made w w1 W4 x y a b HB1.out (by simpa using hM) (by simpa using hg))
 clear hM hg
 unfold keptA ptrOf at hrun
 rw [World.size_alloc] at hrun
 go_wp2_with fail
 go_ret2
 exact ⟨_, rfl, HT.out⟩
end Go.Proofs.YtnhchpiafchdgaaGreat
end
section
namespace Go.Proofs.YtnhchpiafchdgaaGreat
open Go.RowKit Go.Shelf Go.Maps
section
variable {w w' : World} {t : Nat} {l : Lay} {nd : Int → Option Nd} {made : Int} {cnt : Nat}
theorem TreeH.count (h : TreeH w t l nd made cnt) (m : Int) : TreeH (w.setCell ⟨t, 1, none⟩ (.int .i64 m)) t l nd m cnt ∧ Turn (l.foot t) (l.foot t) w (w.setCell ⟨t, 1, none⟩ (.int .i64 m)) := by
 have hk : ∀ b, b ≠ t → (w.setCell ⟨t, 1, none⟩ (.int .i64 m)).heap[b]? = w.heap[b]? := fun b hb => Below.heap_setCell w _ _ b hb
 refine ⟨⟨h.tree.set_ 1 _, h.map.same (hk _ (fun e => blk_not_map h.tree h.map e.symm)), h.dom, fun i b d hb hd => ?_, h.inj, h.apart⟩, ⟨rfl, rfl, rfl, by simp [World.setCell], fun i hi hn => hk i (fun e => hn (.inl e)), fun _ hi => .inl hi⟩⟩
 obtain ⟨h1, h2⟩ := h.node i b d hb hd
 exact ⟨h1.far (fun e => h.t_node hb e.symm) _, row_same h2 fun r hr => hk r (fun e => h.t_row (i := i) (by rw [hb]; rfl) hr e.symm)⟩
theorem TreeH.add (h : TreeH w t l nd made cnt) {k : Int} {bk : Nat} {d : Nd} (hk : l.nb k = none) (hd : d.kids = []) (hbk : Blk w bk 102 (ndA d (.slice none 0 0))) (hnew : ∀ i, l.nb i ≠ some bk) (hm : MapAt w' l.bm (upd l.nb k (some bk)) (cnt + 1)) (hg : w.grownBy w' (some l.bm)) :
   TreeH w' t { l with nb := upd l.nb k (some bk), kv := upd l.kv k (.slice none 0 0) } (upd nd k (some d)) made (cnt + 1) := by
 refine ⟨h.tree.grown hg (fun e => by injection e with e; exact blk_not_map h.tree h.map e), hm, fun i => ?_, fun i b d' hb hd' => ?_, fun i j b hi hj => ?_, fun i j b hi hj h1 h2 => ?_⟩
 · show (upd l.nb k (some bk) i).isSome = _
   unfold upd
   split
   · rfl
   · exact h.dom i
 · have hb' : upd l.nb k (some bk) i = some b := hb
   show Blk w' b _ (ndA d' (upd l.kv k (.slice none 0 0) i)) ∧ w'.ownsRow 0 _ 1 (upd l.kv k (.slice none 0 0) i) _ _
   by_cases hik : i = k
   · subst hik
     rw [upd_same] at hb' hd' ⊢
     injection hb' with hb'
     injection hd' with hd'
     subst hb' hd'
     refine ⟨hbk.grown hg (fun e => by injection e with e; exact blk_not_map hbk h.map e), ?_⟩
     rw [hd]
     exact World.ownsRow_nil _ _ _ _
   · rw [upd_other _ _ hik] at hb' hd' ⊢
     obtain ⟨h1, h2⟩ := h.node i b d' hb' hd'
     refine ⟨h1.grown hg (fun e => by injection e with e; exact blk_not_map h1 h.map e), row_same h2 fun r hr => ?_⟩
     obtain ⟨cs, hc⟩ := row_type h2 hr
     exact hg.block r hc.lt (fun e => by injection e with e; exact blk_not_map hc h.map e)
 · have hi' : upd l.nb k (some bk) i = some b := hi
   have hj' : upd l.nb k (some bk) j = some b := hj
   by_cases hik : i = k
   · by_cases hjk : j = k
     · rw [hik, hjk]
     · rw [hik, upd_same] at hi'
       rw [upd_other _ _ hjk, ← hi'] at hj'
       exact absurd hj' (hnew j)
   · rw [upd_other _ _ hik] at hi'
     by_cases hjk : j = k
     · rw [hjk, upd_same] at hj'
       rw [← hj'] at hi'
       exact absurd hi' (hnew i)
     · rw [upd_other _ _ hjk] at hj'
       exact h.inj i j b hi' hj'
 · have h1' : (upd l.kv k (.slice none 0 0) i).ownBlock = some b := h1
   have h2' : (upd l.kv k (.slice none 0 0) j).ownBlock = some b := h2
   have hi' : (upd l.nb k (some bk) i).isSome = true := hi
   have hj' : (upd l.nb k (some bk) j).isSome = true := hj
   by_cases hik : i = k
   · rw [hik, upd_same] at h1'; cases h1'
   · by_cases hjk : j = k
     · rw [hjk, upd_same] at h2'; cases h2'
     · rw [upd_other _ _ hik] at h1' hi'
       rw [upd_other _ _ hjk] at h2' hj'
       exact h.apart i j b hi' hj' h1' h2'
theorem TreeH.add_turn (h : TreeH w t l nd made cnt) {k : Int} {bk : Nat} (hg : w.grownBy w' (some l.bm)) {w0 : World} (h0 : Below w0.heap.size w0 w) (hbk : w0.heap.size ≤ bk) :
   Turn (l.foot t) (({ l with nb := upd l.nb k (some bk), kv := upd l.kv k (.slice none 0 0) } : Lay).foot t) w0 w' := by
 refine ⟨hg.os.trans h0.os, hg.tape.trans h0.tape, hg.output.trans h0.output, Nat.le_trans h0.size hg.size, fun i hi hn => ?_, fun i hi => ?_⟩
 · exact (hg.block i (Nat.lt_of_lt_of_le hi h0.size) (fun e => hn (.inr (.inl (by injection e)))) ).trans (h0.block i hi)
 · rcases hi with rfl | rfl | ⟨j, hj⟩ | ⟨j, hj, hr⟩
   · exact .inl (.inl rfl)
   · exact .inl (.inr (.inl rfl))
   · have hj' : upd l.nb k (some bk) j = some i := hj
     by_cases hjk : j = k
     · rw [hjk, upd_same] at hj'
       injection hj' with hj'
       exact .inr (hj' ▸ hbk)
     · rw [upd_other _ _ hjk] at hj'
       exact .inl (.inr (.inr (.inl ⟨j, hj'⟩)))
   · have hj' : (upd l.nb k (some bk) j).isSome = true := hj
     have hr' : (upd l.kv k (.slice none 0 0) j).ownBlock = some i := hr
     by_cases hjk : j = k
     · rw [hjk, upd_same] at hr'; cases hr'
     · rw [upd_other _ _ hjk] at hr' hj'
       exact .inl (.inr (.inr (.inr ⟨j, hj', hr'⟩)))
end
section
variable {w : World} {t : Nat} {l : Lay} {nd : Int → Option Nd} {made : Int} {cnt : Nat}
def CreateR (w : World) (t : Nat) (l : Lay) (nd : Int → Option Nd) (made : Int) (cnt : Nat) (q x y a e : Int) (ex : Ending) (w' : World) : Prop :=
 match nd q with
 | none => ex = .returned (.tuple #[.int .i64 0, .int .i64 6]) ∧ Below w.heap.size w w'
 | some dq => if rightB x y a e = false then ex = .returned (.tuple #[.int .i64 0, .int .i64 10]) ∧ Below w.heap.size w w'
  else if 1025 ≤ cnt then ex = .returned (.tuple #[.int .i64 0, .int .i64 2]) ∧ Below w.heap.size w w'
  else ex = .returned (.tuple #[.int .i64 (made + 1), .int .i64 0]) ∧ ∃ bk, TreeTo w t l (upd l.nb (made + 1) (some bk)) (upd (upd nd q (some ⟨dq.win, dq.kids ++ [made + 1]⟩)) (made + 1) (some ⟨⟨made + 1, q, x, y, a, e, false⟩, []⟩)) (made + 1) (cnt + 1) w'
set_option maxRecDepth 100000 in
set_option maxHeartbeats 4000000 in
theorem create_c (h : TreeH w t l nd made cnt) {r : Nat} (h0 : l.nb 0 = some r) {q x y a e : Int} (hq : I64 q) (hm : 0 ≤ made) (hm2 : made ≤ 4611686018427387904) (hfresh : nd (made + 1) = none) (hcnt : cnt ≤ 1048576) (hks : ∀ j dj, nd j = some dj → dj.kids.length ≤ 4096) :
  Calls Tryz.prog 91 #[treeP t, .int .i64 q, .agg #[.int .i64 x, .int .i64 y, .int .i64 a, .int .i64 e]] w fun ex w' => CreateR w t l nd made cnt q x y a e ex w' := by
 obtain ⟨wb, hwb⟩ : ∃ wb, wb = w.alloc (.cells #[.int .i64 x, .int .i64 y, .int .i64 a, .int .i64 e] 23) := ⟨_, rfl⟩
 have hbx : Blk wb w.heap.size 23 #[.int .i64 x, .int .i64 y, .int .i64 a, .int .i64 e] := by rw [hwb]; exact Blk.new w _ _
 have hbel : Below w.heap.size w wb := by rw [hwb]; exact (Below.refl _ _).alloc (Nat.le_refl _) _
 have hT := h.next hbel
 have H0 := Lib.hid (find_some hT i64_0 h0)
 have HR := Lib.hid (fun W => right_c x y a e W)
 have HB := Lib.hid hbel
 have HW := Lib.hid hwb
 obtain ⟨⟨x0, x1, x2, x3⟩, -⟩ := hbx.c4
 cases hd : nd q with
 | none =>
  have H1 := Lib.hid (find_none hT hq (h.none_ hd))
  have HD := Lib.hid hd
  clear h hT hbx hbel hq hfresh hcnt hks hd h0
  go_enter Tryz.func91, Tryz.ntmps91
  go_upto_region 1 with fail
  rw [← HW.out]
  clear hwb
  go_wp2_with (first
   | (go_at_call 66; ((with_reducible refine (H0.out).mono ?_); rintro e w' ⟨rfl, rfl⟩); clear H0)
   | (go_at_call 66; ((with_reducible refine (H1.out).mono ?_); rintro e w' ⟨rfl, rfl⟩)))
  go_ret2
  unfold CreateR
  rw [HD.out]
  exact ⟨rfl, HB.out⟩
 | some dq =>
  obtain ⟨bq, hbq⟩ := h.block hd
  have H1 := Lib.hid (find_some hT hq hbq)
  have HD := Lib.hid hd
  cases hri : rightB x y a e with
  | false =>
   rw [hri] at HR
   have HRI := Lib.hid hri
   clear h hT hbx hbel hq hfresh hcnt hks hd h0 hbq hri
   go_enter Tryz.func91, Tryz.ntmps91
   go_upto_region 1 with fail
   rw [← HW.out]
   clear hwb
   go_wp2_with (first
     | (go_at_call 66; ((with_reducible refine (H0.out).mono ?_); rintro e w' ⟨rfl, rfl⟩); clear H0)
     | (go_at_call 66; ((with_reducible refine (H1.out).mono ?_); rintro e w' ⟨rfl, rfl⟩))
     | (go_at_call 81; ((with_reducible refine (HR.out _).mono ?_); rintro e w' ⟨rfl, hb⟩)))
   go_ret2
   unfold CreateR
   rw [HD.out]
   dsimp only
   rw [if_pos HRI.out]
   exact ⟨rfl, hb.on HB.out HB.out.size⟩
  | true =>
   rw [hri] at HR
   have HRI := Lib.hid hri
   have HLN := Lib.hid (fun W (hW : Below wb.heap.size wb W) => len_c (hT.next hW) h0 (by omega))
   by_cases hc : 1025 ≤ cnt
   · have HC := Lib.hid hc
     have hc2 : (1024 : Int) ≤ (cnt : Int) - 1 := by omega
     clear h hT hbx hbel hq hfresh hks hd h0 hbq hri hc
     go_enter Tryz.func91, Tryz.ntmps91
     go_upto_region 1 with fail
     rw [← HW.out]
     clear hwb
     go_wp2_with (first
      | (go_at_call 66; ((with_reducible refine (H0.out).mono ?_); rintro e w' ⟨rfl, rfl⟩); clear H0)
      | (go_at_call 66; ((with_reducible refine (H1.out).mono ?_); rintro e w' ⟨rfl, rfl⟩))
      | (go_at_call 81; ((with_reducible refine (HR.out _).mono ?_); rintro e w' ⟨rfl, hb⟩); have HL := Lib.hid (HLN.out _ hb))
      | (go_at_call 118; ((with_reducible refine (HL.out).mono ?_); rintro e w' ⟨rfl, rfl⟩)))
     go_ret2
     unfold CreateR
     rw [HD.out]
     dsimp only
     rw [if_neg (by rw [HRI.out]; simp), if_pos HC.out]
     exact ⟨rfl, hb.on HB.out HB.out.size⟩
   · have HC := Lib.hid hc
     have hc2 : ¬ (1024 : Int) ≤ (cnt : Int) - 1 := by omega
     have htl : t < w.heap.size := h.tree.lt
     have HX := Lib.hid (fun (W : World) (hW : Below wb.heap.size wb W) => (show (TreeH (W.setCell ⟨t, 1, none⟩ (.int .i64 (made + 1))) t l nd (made + 1) cnt ∧ Turn (l.foot t) (l.foot t) w (W.setCell ⟨t, 1, none⟩ (.int .i64 (made + 1))) ∧
       Blk (W.setCell ⟨t, 1, none⟩ (.int .i64 (made + 1))) w.heap.size 23 #[.int .i64 x, .int .i64 y, .int .i64 a, .int .i64 e]) ∧ W.cell? ⟨t, 1, none⟩ = some (.int .i64 made) ∧ W.frozen? ⟨t, 1, none⟩ = false from by
      have h2 := hT.next hW
      have h3 := h2.count (made + 1)
      exact ⟨⟨h3.1, Turn.after_below (hW.on hbel hbel.size) h3.2, (hbx.next hW).far (by show w.heap.size ≠ t; omega) _⟩, h2.tree.c2.1.2, h2.tree.frozen 1⟩))
     have HY := Lib.hid (fun (W2 : World) (hT2 : TreeH W2 t l nd (made + 1) cnt) (hU2 : Turn (l.foot t) (l.foot t) w W2) (hB2 : Blk W2 w.heap.size 23 #[.int .i64 x, .int .i64 y, .int .i64 a, .int .i64 e]) =>
      (show ∃ W4, (Instr.mapUpdate 103 (.map (some l.bm)) (.int .i64 (made + 1)) (.pointer (some ⟨W2.heap.size, 0, none⟩))).run Tryz.prog (W2.alloc (.cells #[.int .i64 (made + 1), .int .i64 0, .int .i64 x, .int .i64 y, .int .i64 a, .int .i64 e, .bool false, .slice none 0 0] 102)).drew.drew = .ok () W4 ∧
        (TreeH W4 t { l with nb := upd l.nb (made + 1) (some W2.heap.size), kv := upd l.kv (made + 1) (.slice none 0 0) } (upd nd (made + 1) (some ⟨⟨made + 1, 0, x, y, a, e, false⟩, []⟩)) (made + 1) (cnt + 1) ∧
        Turn (l.foot t) (({ l with nb := upd l.nb (made + 1) (some W2.heap.size), kv := upd l.kv (made + 1) (.slice none 0 0) } : Lay).foot t) w W4) ∧ W4.cell? ⟨t, 0, none⟩ = some (.map (some l.bm)) ∧ W4.cell? ⟨W2.heap.size, 0, none⟩ = some (.int .i64 (made + 1)) from by
       have h3 := (hT2.alloc (.cells #[.int .i64 (made + 1), .int .i64 0, .int .i64 x, .int .i64 y, .int .i64 a, .int .i64 e, .bool false, .slice none 0 0] 102)).drew.drew
       have hnk : l.nb (made + 1) = none := h.none_ hfresh
       obtain ⟨W4, e1, e2, e3⟩ := h3.map.put (i := made + 1) ⟨by omega, by omega⟩ (by omega) hnk W2.heap.size
       have hbk : Blk (W2.alloc (.cells #[.int .i64 (made + 1), .int .i64 0, .int .i64 x, .int .i64 y, .int .i64 a, .int .i64 e, .bool false, .slice none 0 0] 102)).drew.drew W2.heap.size 102 (ndA ⟨⟨made + 1, 0, x, y, a, e, false⟩, []⟩ (.slice none 0 0)) := Blk.new W2 _ _
       have h4 := h3.add hnk (d := ⟨⟨made + 1, 0, x, y, a, e, false⟩, []⟩) rfl hbk (fun i hi => by
        have := hT2.foot_lt (.inr (.inr (.inl ⟨i, hi⟩))); omega) e2 e3
       have u4 := h3.add_turn (k := made + 1) (bk := W2.heap.size) e3 (w0 := W2) (((Below.refl _ W2).alloc (Nat.le_refl _) _).drew.drew) (Nat.le_refl _)
       have h5 := hbk.grown e3 (fun e => by injection e with e; exact blk_not_map hbk h3.map e)
       exact ⟨W4, e1, ⟨h4, hU2.trans u4⟩, h4.tree.c2.1.1, h5.at_ (i := 0) rfl⟩))
     have HEn := Lib.hid (fun (W : World) (bk : Nat) (T : TreeH W t { l with nb := upd l.nb (made + 1) (some bk), kv := upd l.kv (made + 1) (.slice none 0 0) } (upd nd (made + 1) (some ⟨⟨made + 1, 0, x, y, a, e, false⟩, []⟩)) (made + 1) (cnt + 1)) =>
      (show Calls Tryz.prog 106 #[treeP t, .pointer (some ⟨bk, 0, none⟩), .int .i64 q] W fun ex w' => (ex = .returned (.tuple #[]) ∧ TreeTo W t { l with nb := upd l.nb (made + 1) (some bk), kv := upd l.kv (made + 1) (.slice none 0 0) } (upd l.nb (made + 1) (some bk)) (upd (upd nd q (some ⟨dq.win, dq.kids ++ [made + 1]⟩)) (made + 1) (some ⟨⟨made + 1, q, x, y, a, e, false⟩, []⟩)) (made + 1) (cnt + 1) w') ∧ w'.cell? ⟨bk, 0, none⟩ = some (.int .i64 (made + 1)) from by
       have hqk : q ≠ made + 1 := fun e => by rw [e, hfresh] at hd; cases hd
       refine (enter_c T (p := q) (c := made + 1) (bp := bq) (bc := bk) (by show upd l.nb (made + 1) (some bk) q = _; rw [upd_other _ _ hqk]; exact hbq) (upd_same _ _ _) (by rw [upd_other _ _ hqk]; exact hd) (upd_same _ _ _) hqk hq (hks _ _ hd)).mono ?_
       rintro ex w' ⟨rfl, l', hl', T', U'⟩
       have hnn : upd (upd (upd nd (made + 1) (some ⟨⟨made + 1, 0, x, y, a, e, false⟩, []⟩)) q (some ⟨dq.win, dq.kids ++ [made + 1]⟩)) (made + 1) (some ⟨⟨made + 1, q, x, y, a, e, false⟩, []⟩) = upd (upd nd q (some ⟨dq.win, dq.kids ++ [made + 1]⟩)) (made + 1) (some ⟨⟨made + 1, q, x, y, a, e, false⟩, []⟩) := by
        rw [upd_comm _ _ _ hqk.symm, upd_twice]
       have T'' : TreeH w' t l' (upd (upd nd q (some ⟨dq.win, dq.kids ++ [made + 1]⟩)) (made + 1) (some ⟨⟨made + 1, q, x, y, a, e, false⟩, []⟩)) (made + 1) (cnt + 1) := by rw [← hnn]; exact T'
       have hbk' : l'.nb (made + 1) = some bk := by rw [hl']; exact upd_same _ _ _
       exact ⟨⟨rfl, l', hl', T'', U'⟩, (T''.cells hbk' (upd_same _ _ _)).1.1⟩))
     clear h hT hbx hbel hq hfresh hks hd h0 hbq hri hc
     go_enter Tryz.func91, Tryz.ntmps91
     go_upto_region 1 with fail
     rw [← HW.out]
     clear hwb
     go_upto_region 9 with (first
      | (go_at_call 66; ((with_reducible refine (H0.out).mono ?_); rintro e w' ⟨rfl, rfl⟩); clear H0)
      | (go_at_call 66; ((with_reducible refine (H1.out).mono ?_); rintro e w' ⟨rfl, rfl⟩))
      | (go_at_call 81; ((with_reducible refine (HR.out _).mono ?_); rintro e w1 ⟨rfl, hb⟩); have HL := Lib.hid (HLN.out _ hb))
      | (go_at_call 118; ((with_reducible refine (HL.out).mono ?_); rintro e w' ⟨rfl, rfl⟩)))
     obtain ⟨hx1, j1, j2⟩ := HX.out _ hb
     have HX1 := Lib.hid hx1
     clear hx1 hb
     go_upto_region 10 with fail
     generalize w1.setCell ⟨t, 1, none⟩ (.int .i64 (made + 1)) = W2 at HX1 ⊢
     clear j1 j2 x0 x1 x2 x3
     have k1 := HX1.out.1.tree.c2.1.2
     obtain ⟨⟨z0, z1, z2, z3⟩, -⟩ := HX1.out.2.2.c4
     have hT3 := (HX1.out.1.alloc (.cells #[.int .i64 (made + 1), .int .i64 0, .int .i64 x, .int .i64 y, .int .i64 a, .int .i64 e, .bool false, .slice none 0 0] 102)).drew
     have s1 := hT3.tree.c2.1.2
     obtain ⟨⟨u0, u1, u2, u3⟩, -⟩ := (HX1.out.2.2.alloc (.cells #[.int .i64 (made + 1), .int .i64 0, .int .i64 x, .int .i64 y, .int .i64 a, .int .i64 e, .bool false, .slice none 0 0] 102)).drew.c4
     have v0 := hT3.tree.c2.1.1
     have v1 := ((Blk.new W2 102 #[.int .i64 (made + 1), .int .i64 0, .int .i64 x, .int .i64 y, .int .i64 a, .int .i64 e, .bool false, .slice none 0 0]).drew.at_ (i := 0) rfl)
     obtain ⟨W4, hrun, hT4, y0, y1⟩ := HY.out W2 HX1.out.1 HX1.out.2.1 HX1.out.2.2
     have HT4 := Lib.hid hT4
     clear hT3 hT4
     refine wp_region_noPanic ?_
     refine wp_region_held_drew (S := fun wx => wx.cell? ⟨t, 1, none⟩ = some (.int .i64 (made + 1)) ∧ wx.cell? ⟨w.heap.size, 0, none⟩ = some (.int .i64 x) ∧ wx.cell? ⟨w.heap.size, 1, none⟩ = some (.int .i64 y) ∧ wx.cell? ⟨w.heap.size, 2, none⟩ = some (.int .i64 a) ∧ wx.cell? ⟨w.heap.size, 3, none⟩ = some (.int .i64 e)) (by kernel_rfl) (by exact ⟨k1, z0, z1, z2, z3⟩) (fun hHeld => ?_)
     refine tk 0 ?va0 rfl ?ya0 ?ra0
     case ya0 => (intro q h; (try dsimp only at h); go_simp; (try with_reducible rfl))
     (try simp only [Act.put, p1, p3, p4, p5, p6])
     refine tk 1 ?va1 rfl ?ya1 ?ra1
     case ya1 => (intro q h; (try dsimp only at h); go_simp; (try with_reducible rfl))
     (try simp only [Act.put, p1, p2, p3, p4, p5, p6])
     refine tk 2 ?va2 rfl ?ya2 ?ra2
     case ya2 => (intro q h; (try dsimp only at h); go_simp; (try with_reducible rfl))
     (try simp only [Act.put, p1, p2, p3, p4, p5, p6])
     refine tk 3 ?va3 rfl ?ya3 ?ra3
     case ya3 => (intro q h; (try dsimp only at h); go_simp; (try with_reducible rfl))
     (try simp only [Act.put, p1, p2, p3, p4, p5, p6])
     refine tk 4 ?va4 rfl ?ya4 ?ra4
     case ya4 => (intro q h; (try dsimp only at h); go_simp; (try with_reducible rfl))
     (try simp only [Act.put, p1, p2, p3, p4, p5, p6])
     refine tk 5 ?va5 rfl ?ya5 ?ra5
     case ya5 => (intro q h; (try dsimp only at h); go_simp; (try with_reducible rfl))
     (try simp only [Act.put, p1, p2, p3, p4, p5, p6])
     refine tk 6 ?va6 rfl ?ya6 ?ra6
     case ya6 => (intro q h; (try dsimp only at h); go_simp; (try with_reducible rfl))
     (try simp only [Act.put, p1, p2, p3, p4, p5, p6])
     refine wpAnyH_ready (rs := [7]) (by kernel_rfl) (by simp) ?_
     refine AllReadyH.cons rfl (fun K hK => ?_) AllReadyH.nil
     go_simp
     refine hK.out _ _ (by exact ⟨s1, u0, u1, u2, u3⟩) (fun hHeld => ?_)
     clear hK K
     (try simp only [Act.put, p1, p2, p3, p4, p5, p6])
     refine tk 8 ?va8 rfl ?ya8 ?ra8
     case ya8 => (intro q h; (try dsimp only at h); go_simp; (try with_reducible rfl))
     (try simp only [Act.put, p1, p2, p3, p4, p5, p6])
     refine wpAnyH_done (by kernel_rfl) ?_ _
     refine NoPanic.normal ?_
     clear hHeld k1 s1 z0 z1 z2 z3 u0 u1 u2 u3
     go_upto_region 11 with fail
     generalize (W2.alloc (.cells #[.int .i64 (made + 1), .int .i64 0, .int .i64 x, .int .i64 y, .int .i64 a, .int .i64 e, .bool false, .slice none 0 0] 102)).drew = W3 at v0 v1 hrun ⊢
     refine wp_region_noPanic ?_
     refine wp_region_held_drew (S := fun wx => wx.cell? ⟨t, 0, none⟩ = some (.map (some l.bm)) ∧ wx.cell? ⟨W2.heap.size, 0, none⟩ = some (.int .i64 (made + 1))) (by kernel_rfl) (by exact ⟨v0, v1⟩) (fun hHeld => ?_)
     refine tk 0 ?vb0 rfl ?yb0 ?rb0
     case yb0 => (intro q h; (try dsimp only at h); go_simp; (try with_reducible rfl))
     (try simp only [Act.put, p1, p3, p4, p5, p6])
     refine tk 1 ?vb1 rfl ?yb1 ?rb1
     case yb1 => (intro q h; (try dsimp only at h); go_simp; (try with_reducible rfl))
     (try simp only [Act.put, p1, p2, p3, p4, p5, p6])
     refine tk 2 ?vb2 rfl ?yb2 ?rb2
     case yb2 => (intro q h; (try dsimp only at h); go_simp; (try with_reducible rfl))
     (try simp only [Act.put, p1, p2, p3, p4, p5, p6])
     refine tk 3 ?vb3 rfl ?yb3 ?rb3
     case yb3 => (intro q h; (try dsimp only at h); go_simp; (try with_reducible rfl))
     (try simp only [Act.put, p1, p2, p3, p4, p5, p6])
     refine tk 4 ?vb4 rfl ?yb4 ?rb4
     case yb4 => (intro q h; (try dsimp only at h); go_simp; (try with_reducible rfl))
     (try simp only [Act.put, p1, p2, p3, p4, p5, p6])
     refine tk 5 ?vb5 rfl ?yb5 ?rb5
     case yb5 => (intro q h; (try dsimp only at h); go_simp; (try with_reducible rfl))
     (try simp only [Act.put, p1, p2, p3, p4, p5, p6])
     refine tk 6 ?vb6 rfl ?yb6 ?rb6
     case yb6 => (intro q h; (try dsimp only at h); go_simp; (try with_reducible rfl))
     (try simp only [Act.put, p1, p2, p3, p4, p5, p6])
     refine tk 7 ?vb7 rfl ?yb7 ?rb7
     case yb7 => (intro q h; (try dsimp only at h); go_simp; (try with_reducible rfl))
     (try simp only [Act.put, p1, p2, p3, p4, p5, p6])
     refine tk 8 ?vb8 rfl ?yb8 ?rb8
     case yb8 => (intro q h; (try dsimp only at h); go_simp; (try with_reducible rfl))
     (try simp only [Act.put, p1, p2, p3, p4, p5, p6])
     refine tk 9 ?vb9 rfl ?yb9 ?rb9
     case yb9 => (intro q h; (try dsimp only at h); go_simp; (try with_reducible rfl))
     (try simp only [Act.put, p1, p2, p3, p4, p5, p6])
     refine wpAnyH_ready (rs := [10]) (by kernel_rfl) (by simp) ?_
     refine AllReadyH.cons rfl (fun K hK => ?_) AllReadyH.nil
     go_simp
     refine hK.out _ _ (by exact ⟨y0, y1⟩) (fun hHeld => ?_)
     clear hK K
     (try simp only [Act.put, p1, p2, p3, p4, p5, p6])
     refine wpAnyH_done (by kernel_rfl) ?_ _
     refine NoPanic.normal ?_
     clear hHeld v0 v1 hrun y0 y1
     have HE1 := Lib.hid (HEn.out W4 W2.heap.size HT4.out.1)
     go_wp2_with (go_at_call 106; ((with_reducible refine (HE1.out).mono ?_); rintro ex w5 ⟨⟨rfl, T5⟩, y5⟩); have HT5 := Lib.hid T5; clear T5)
     go_ret2
     unfold CreateR
     rw [HD.out]
     dsimp only
     rw [if_neg (by rw [HRI.out]; simp), if_neg HC.out]
     exact ⟨rfl, W2.heap.size, TreeTo.trans HT4.out.2 HT5.out⟩
end
end Go.Proofs.YtnhchpiafchdgaaGreat
end
section
namespace Go.Proofs.YtnhchpiafchdgaaGreat
open Go.RowKit Go.Shelf Go.Maps
structure Sane (R : RT) (L : List Win) (k : Nat) : Prop extends Good R L where
 low : 0 ≤ R.last
 last : R.last ≤ k
 len : L.length ≤ k
 most : k ≤ 1000
abbrev TB (w : World) (t : Nat) (l : Lay) (R : RT) (L : List Win) : Prop := TreeH w t l (ndL R L) R.last (L.length + 1)
def CT (R' : RT) (L' : List Win) (t : Nat) (l : Lay) (w w' : World) : Prop := ∃ l', TB w' t l' R' L' ∧ Turn (l.foot t) (l'.foot t) w w'
theorem CT.same {R : RT} {L : List Win} {t : Nat} {l : Lay} {w w' : World} (h : TB w t l R L) (hb : Below w.heap.size w w') : CT R L t l w w' := ⟨l, h.next hb, Turn.of_below hb⟩
theorem CT.to {R : RT} {L : List Win} {t : Nat} {l : Lay} {w w' : World} {nb' : Int → Option Nat} {nd' : Int → Option Nd} {made' : Int} {cnt' : Nat} (h : TreeTo w t l nb' nd' made' cnt' w') (h1 : nd' = ndL R L) (h2 : made' = R.last) (h3 : cnt' = L.length + 1) : CT R L t l w w' := by
 obtain ⟨l', -, k1, k2⟩ := h
 subst h1; subst h2; subst h3
 exact ⟨l', k1, k2⟩
section
variable {R : RT} {L : List Win} {k : Nat}
theorem Sane.le (h : Sane R L k) {m : Nat} (hk : k ≤ m) (hm : m ≤ 1000) : Sane R L m := ⟨h.toGood, h.low, by have := h.last; omega, by have := h.len; omega, hm⟩
theorem Sane.nums (h : Sane R L k) {i : Int} {d : Nd} (hd : ndL R L i = some d) : 0 ≤ i ∧ i ≤ 1000 := by
 obtain ⟨h1, h2⟩ := getR_some (ndL_some hd).1
 rcases h2 with ⟨h2, _⟩ | ⟨_, h2⟩
 · omega
 · have := h.pos _ h2; have := h.last; have := h.most; omega
theorem Sane.wide (h : Sane R L k) : Wide (ndL R L) := fun i d hd => by
 have h0 := h.nums hd
 obtain ⟨h1, h2⟩ := getR_some (ndL_some hd).1
 refine ⟨⟨by omega, by omega⟩, ?_⟩
 rcases h2 with ⟨_, h2⟩ | ⟨_, h2⟩
 · rw [h2]; exact ⟨by show (-9223372036854775808 : Int) ≤ -1; omega, by show (-1 : Int) ≤ 9223372036854775807; omega⟩
 · obtain ⟨d', hd'⟩ := par_there h.toGood h2
   have := h.nums hd'
   exact ⟨by omega, by omega⟩
theorem Sane.kids (h : Sane R L k) : ∀ j dj, ndL R L j = some dj → dj.kids.length ≤ 4096 := fun j dj hd => by
 rw [(ndL_some hd).2]
 have h1 := kidsL_len j L L.length
 rw [List.take_length] at h1
 have := h.len; have := h.most; omega
theorem Sane.big (h : Sane R L k) : L.length ≤ 1048570 := by have := h.len; have := h.most; omega
theorem three (R : RT) (L : List Win) (i : Int) : (ndL R L i = none ∧ askL L i = 6 ∧ i ≠ 0) ∨ (i = 0 ∧ askL L i = 1) ∨ (i ≠ 0 ∧ askL L i = 0 ∧ ∃ j v, placeN i L = some j ∧ L[j]? = some v ∧ v.id = i) := by
 by_cases hi : i = 0
 · refine .inr (.inl ⟨hi, ?_⟩)
   unfold askL isL
   rw [if_neg (by simp [hi]), if_pos hi]
 · cases hp : placeN i L with
   | none =>
    refine .inl ⟨?_, ?_, hi⟩
    · unfold ndL getR findL; rw [if_neg hi, hp]; rfl
    · unfold askL isL
      rw [if_pos (by simp [hi, hp])]
   | some j =>
    obtain ⟨v, h1, h2, _⟩ := placeN_get L j hp
    refine .inr (.inr ⟨hi, ?_, j, v, rfl, h1, h2⟩)
    unfold askL isL
    rw [if_neg (by simp [hp]), if_neg hi]
theorem root_b {w : World} {t : Nat} {l : Lay} (h : TB w t l R L) : ∃ r, l.nb 0 = some r := h.block nd_root
theorem none_b {w : World} {t : Nat} {l : Lay} (h : TB w t l R L) {i : Int} (hn : ndL R L i = none) : l.nb i = none := by
 have := h.dom i
 rw [hn] at this
 cases hb : l.nb i with
 | none => rfl
 | some b => rw [hb] at this; simp at this
def RefC (kind i : Int) (x y a e : Int) (R : RT) (L L' : List Win) (err : Int) : Prop :=
 ∀ (W : World) (sv : Value), RO W sv L → Calls Tryz.prog 117 #[refV R sv, .int .i64 kind, .int .i64 i, .agg #[.int .i64 x, .int .i64 y, .int .i64 a, .int .i64 e]] W fun ex w' => ChR W R L' err ex w'
theorem drop_len (S : Sane R L k) (M : List Win) (hM : (M.map (·.id)).Nodup) (hm : ∀ u, u ∈ M ↔ u ∈ L) : M.length = L.length := by
 have h1 := nodup_le hM (b := L.map (·.id)) (fun x hx => by obtain ⟨u, hu, rfl⟩ := List.mem_map.1 hx; exact List.mem_map.2 ⟨u, (hm u).1 hu, rfl⟩)
 have h2 := nodup_le S.nodup (b := M.map (·.id)) (fun x hx => by obtain ⟨u, hu, rfl⟩ := List.mem_map.1 hx; exact List.mem_map.2 ⟨u, (hm u).2 hu, rfl⟩)
 simp only [List.length_map] at h1 h2
 omega
theorem drop_one (S : Sane R L k) {v : Win} (hv : v ∈ L) : (dropL v.id L).length + 1 = L.length := by
 have h := drop_len S (v :: dropL v.id L) (lower_list S.toGood hv).1.nodup (fun u => by
  rw [List.mem_cons, drop_mem]
  constructor
  · rintro (rfl | ⟨h1, _⟩) <;> assumption
  · intro hu
    by_cases e : u.id = v.id
    · exact .inl (same_id S.nodup hu hv e)
    · exact .inr ⟨hu, e⟩)
 simpa using h
end
end Go.Proofs.YtnhchpiafchdgaaGreat
end
section
namespace Go.Proofs.YtnhchpiafchdgaaGreat
open Go.RowKit Go.Shelf Go.Maps
section
variable {R : RT} {L : List Win} {k : Nat}
theorem isL_nd (R : RT) (L : List Win) (q : Int) : isL L q = (ndL R L q).isSome := by
 unfold isL ndL getR findL
 by_cases hq : q = 0
 · simp [hq]
 · rw [if_neg hq]
   cases hp : placeN q L with
   | none => simp [hq]
   | some j =>
    obtain ⟨v, h1, _⟩ := placeN_get L j hp
    simp [h1]
theorem gone_len (h : Good R L) {xs : List Int} (hn : xs.Nodup) (hin : ∀ x ∈ xs, ∃ u ∈ L, u.id = x) : (dropAll xs L).length + xs.length = L.length := by
 have hnd := dropAll_nodup xs h.nodup
 have h0 : ((dropAll xs L).map (·.id) ++ xs).Nodup := List.nodup_append.2 ⟨hnd, hn, fun a ha b hb e => by
  obtain ⟨u, hu, rfl⟩ := List.mem_map.1 ha
  exact ((dropAll_mem xs).1 hu).2 (by rw [e]; exact hb)⟩
 have h1 := nodup_le h0 (b := L.map (·.id)) (fun x hx => by
  rcases List.mem_append.1 hx with hx | hx
  · obtain ⟨u, hu, rfl⟩ := List.mem_map.1 hx
    exact List.mem_map.2 ⟨u, ((dropAll_mem xs).1 hu).1, rfl⟩
  · obtain ⟨u, hu, rfl⟩ := hin x hx
    exact List.mem_map.2 ⟨u, hu, rfl⟩)
 have h2 := nodup_le h.nodup (b := (dropAll xs L).map (·.id) ++ xs) (fun x hx => by
  obtain ⟨u, hu, rfl⟩ := List.mem_map.1 hx
  by_cases hm : u.id ∈ xs
  · exact List.mem_append_right _ hm
  · exact List.mem_append_left _ (List.mem_map.2 ⟨u, (dropAll_mem xs).2 ⟨hu, hm⟩, rfl⟩))
 simp only [List.length_append, List.length_map] at h1 h2
 omega
def goneL (R : RT) (L : List Win) (v : Win) : List Int := allL (ndL R L) (L.length + 1) v.id
theorem tall_more {nd : Int → Option Nd} : ∀ {n m : Nat} {i : Int}, Tall nd n i → n ≤ m → Tall nd m i
 | 0, _, _, h, _ => h.elim
 | n + 1, 0, _, _, hm => by omega
 | n + 1, m + 1, i, ⟨d, hd, hk⟩, hm => ⟨d, hd, fun k hkd => tall_more (hk k hkd) (by omega)⟩
theorem gone_facts (S : Sane R L k) {v : Win} (hv : v ∈ L) : ∃ m, Way (ndL R L) m v.id ∧ Tall (ndL R L) (L.length + 1) v.id ∧ (goneL R L v).Nodup ∧ (∀ x ∈ goneL R L v, ∃ u ∈ L, u.id = x) ∧ (dropAll (goneL R L v) L).length + (goneL R L v).length = L.length := by
 obtain ⟨m, hw⟩ := S.way v hv
 have hm := hw.le
 have hT := tall_more (S.tall (L.length + 1 - m) m v.id hw (by omega)) (show _ ≤ L.length + 1 by omega)
 have hn := all_nodup S.toGood (L.length + 1) m v.id hw
 have hin : ∀ x ∈ goneL R L v, ∃ u ∈ L, u.id = x := fun x hx => by
  obtain ⟨⟨d, hd⟩, j, h1, -⟩ := all_up S.toGood (L.length + 1) m v.id hw x hx
  obtain ⟨h2, h3⟩ := getR_some (ndL_some hd).1
  rcases h3 with ⟨h3, _⟩ | ⟨_, h3⟩
  · subst h3
    have := h1.det root_way
    obtain ⟨m', e, _⟩ := own_way S.toGood hv hw
    omega
  · exact ⟨_, h3, h2⟩
 exact ⟨m, hw, hT, hn, hin, gone_len S.toGood hn hin⟩
def CTx (R' : RT) (L' : List Win) (t : Nat) (l : Lay) (v : Value) (w w' : World) : Prop := ∃ l', TB w' t l' R' L' ∧ Turn (l.foot t) (l'.foot t) w w' ∧ ∀ r, v.ownBlock = some r → ¬ l'.foot t r
theorem CTx.same {R : RT} {L : List Win} {t : Nat} {l : Lay} {w w' : World} (h : TB w t l R L) (hb : Below w.heap.size w w') : CTx R L t l (.slice none 0 0) w w' := ⟨l, h.next hb, Turn.of_below hb, fun r hr => by cases hr⟩
theorem both_destroy (S : Sane R L k) {i : Int} (hi : I64 i) : ∃ L' err xs, Sane R L' k ∧ xs.length ≤ 1000 ∧
   (∀ (W : World) (sv : Value), RO W sv L → Calls Tryz.prog 87 #[refV R sv, .int .i64 i] W fun ex w' => ∃ sv' gv, ex = .returned (.tuple #[refV R sv', gv, .int .i64 err]) ∧ RO w' sv' L' ∧ (RdI w' gv xs ∧ ∀ g, gv.ownBlock = some g → W.heap.size ≤ g) ∧ Below W.heap.size W w') ∧
   (∀ v ∈ L, v.id = i → err = 0 ∧ xs = goneL R L v ∧ L' = dropAll xs L) ∧
   ∀ (W : World) (t : Nat) (l : Lay), TB W t l R L → Calls Tryz.prog 109 #[treeP t, .int .i64 i] W fun ex w' => ∃ v, ex = .returned (.tuple #[v, .int .i64 err]) ∧ RdI w' v xs ∧ (∀ b, v.ownBlock = some b → W.heap.size ≤ b) ∧ CTx R L' t l v W w' := by
 have hnil : ∀ W, RdI W (.slice none 0 0) [] := fun W => ⟨none, 0, rfl, fun j x hx => by simp at hx⟩
 rcases three R L i with ⟨h1, h2, h3⟩ | ⟨rfl, h2⟩ | ⟨h1, h2, j, v, h3, h4, rfl⟩
 · refine ⟨L, 6, [], S, by simp, fun W sv hR => (rdestroy_no hR (by have := S.big; omega) h2 (by omega)).mono fun ex w' hh => ?_, fun v hv e => ?_, fun W t l hT => ?_⟩
   · obtain ⟨sv', k1, k2, k3⟩ := hh
     exact ⟨sv', _, k1, k2, ⟨hnil _, fun g hg => by cases hg⟩, k3⟩
   · have := nd_of S.uniq hv
     rw [e, h1] at this; cases this
   · obtain ⟨r, hr⟩ := root_b hT
     exact (destroy_f (refuse_none hT hr hi (none_b hT h1)) rfl).mono fun ex w' hh => ⟨_, hh.1, hnil _, (fun b hb => by cases hb), CTx.same hT hh.2⟩
 · refine ⟨L, 1, [], S, by simp, fun W sv hR => (rdestroy_no hR (by have := S.big; omega) h2 (by omega)).mono fun ex w' hh => ?_, fun v hv e => ?_, fun W t l hT => ?_⟩
   · obtain ⟨sv', k1, k2, k3⟩ := hh
     exact ⟨sv', _, k1, k2, ⟨hnil _, fun g hg => by cases hg⟩, k3⟩
   · have := (S.pos v hv).1; omega
   · obtain ⟨r, hr⟩ := root_b hT
     exact (destroy_f (refuse_root hT hr) rfl).mono fun ex w' hh => ⟨_, hh.1, hnil _, (fun b hb => by cases hb), CTx.same hT hh.2⟩
 · have hv := List.mem_of_getElem? h4
   have hd := nd_of S.uniq hv
   obtain ⟨dp, hdp⟩ := par_there S.toGood hv
   obtain ⟨m, hw, hT0, hn, hin, hlen⟩ := gone_facts S hv
   obtain ⟨g1, g2⟩ := destroy_list S.toGood hv hw hT0
   obtain ⟨g3, g4, g5⟩ := g2 dp hdp
   have hll := S.len
   have hmo := S.most
   refine ⟨dropAll (goneL R L v) L, 0, goneL R L v, ⟨g1, S.low, S.last, by omega, S.most⟩, by omega, fun W sv hR => (rdestroy_yes hR (by have := S.big; omega) h2 hT0 (by show (goneL R L v).length ≤ _; omega)).mono fun ex w' hh => ?_, fun u hu e => ?_, fun W t l hT => ?_⟩
   · obtain ⟨sv', gv, k1, k2, k3, k4⟩ := hh
     exact ⟨sv', gv, k1, k2, k3, k4⟩
   · rw [same_id S.nodup hu hv e]
     exact ⟨rfl, rfl, rfl⟩
   · obtain ⟨r, hr⟩ := root_b hT
     obtain ⟨b, hb⟩ := hT.block hd
     obtain ⟨bp, hbp⟩ := hT.block hdp
     refine (destroy_c hT S.wide hr hi hb hd h1 hbp hdp (L.length + 1) _ rfl g5 (by rw [g4]; show (goneL R L v).length ≤ _; omega) (by rw [g4]; exact hn) (fun x hx => ?_)).mono fun ex w' hh => ?_
     · rw [g4] at hx
       obtain ⟨⟨dx, hdx⟩, -⟩ := all_up S.toGood (L.length + 1) m v.id hw x hx
       unfold upd
       by_cases hxp : x = (⟨v, kidsL L v.id⟩ : Nd).win.par
       · rw [if_pos hxp]; exact ⟨_, rfl⟩
       · rw [if_neg hxp]; exact ⟨dx, hdx⟩
     · obtain ⟨gv, k1, k2, k3, l', k4, k5, k6⟩ := hh
       rw [g4] at k2 k4
       refine ⟨gv, k1, RdI.of k2, k3, l', ?_, k5, k6⟩
       have e1 : wipe (upd (ndL R L) (⟨v, kidsL L v.id⟩ : Nd).win.par (some ⟨dp.win, strike (⟨v, kidsL L v.id⟩ : Nd).win.id dp.kids⟩)) (allL (ndL R L) (L.length + 1) v.id) = ndL R (dropAll (goneL R L v) L) := g3.symm
       rw [e1] at k4
       have e2 : L.length + 1 - (allL (ndL R L) (L.length + 1) v.id).length = (dropAll (goneL R L v) L).length + 1 := by
         show L.length + 1 - (goneL R L v).length = _
         omega
       rw [e2] at k4
       exact k4
end
end Go.Proofs.YtnhchpiafchdgaaGreat
end
section
namespace Go.Proofs.YtnhchpiafchdgaaGreat
open Go.RowKit Go.Shelf Go.Maps
theorem foot_ne {w : World} {t : Nat} {l : Lay} {nd : Int → Option Nd} {made : Int} {cnt : Nat} (h : TreeH w t l nd made cnt) {g : Nat} {T : TypeId} {cs : Array Value} (hg : Blk w g T cs) (h1 : T ≠ 105) (h2 : T ≠ 102) (h3 : T ≠ 3) : ¬ l.foot t g := by
 rintro (e | e | ⟨i, hi⟩ | ⟨i, hi, hv⟩)
 · subst e
   exact Blk.ne_ hg h.tree h1 rfl
 · exact blk_not_map hg h.map e
 · obtain ⟨d, hd⟩ := h.ndOf hi
   exact Blk.ne_ hg (h.node i g d hi hd).1 h2 rfl
 · obtain ⟨b', hb'⟩ := Option.isSome_iff_exists.1 hi
   obtain ⟨d, hd⟩ := h.ndOf hb'
   obtain ⟨cs', hc⟩ := row_type (h.node i b' d hb' hd).2 hv
   exact Blk.ne_ hg hc h3 rfl
theorem ro_blk {w : World} {B : Nat} {sv : Value} {M : List Win} (h : OwK encW 61 7 w B sv M) {q : Nat} (hq : sv.ownBlock = some q) : ∃ cs, Blk w q 61 cs := by
 obtain ⟨_, h⟩ := h
 rcases h with ⟨rfl, _⟩ | ⟨g, cap, cur, rfl, _, hg, _⟩
 · cases hq
 · obtain rfl : g = q := by simpa [Value.ownBlock] using hq
   exact ⟨_, hg⟩
theorem ro_kept {w w' : World} {sv : Value} {M : List Win} (h : RO w sv M) (hk : ∀ q cs, Blk w q 61 cs → w'.heap[q]? = w.heap[q]?) : RO w' sv M := by
 have h0 := fun q hq => ro_blk h (q := q) hq
 obtain ⟨h1, h2⟩ := h
 refine ⟨h1, ?_⟩
 rcases h2 with h2 | ⟨g, cap, cur, rfl, h3, h4, h5⟩
 · exact .inl h2
 · obtain ⟨cs, hc⟩ := h0 g rfl
   exact .inr ⟨g, cap, cur, rfl, h3, (hk g cs hc).trans h4, h5⟩
theorem ty1 : (61 : Nat) ≠ 105 ∧ (61 : Nat) ≠ 102 ∧ (61 : Nat) ≠ 3 := by decide
theorem ty2 : (54 : Nat) ≠ 105 ∧ (54 : Nat) ≠ 102 ∧ (54 : Nat) ≠ 3 ∧ (61 : Nat) ≠ 54 := by decide
def Bo (w0 : World) (t rb : Nat) (R : RT) (L : List Win) (w : World) : Prop :=
 ∃ l sv, TB w t l R L ∧ Blk w rb 54 (refA R sv) ∧ RO w sv L ∧ Below w0.heap.size w0 w ∧ w0.heap.size ≤ rb ∧ ∀ b, l.foot t b → w0.heap.size ≤ b
section
variable {w0 w w' : World} {t rb : Nat} {R R' : RT} {L L' : List Win}
theorem Bo.next (h : Bo w0 t rb R L w) (hb : Below w.heap.size w w') : Bo w0 t rb R L w' := by
 obtain ⟨l, sv, h1, h2, h3, h4, h5, h6⟩ := h
 exact ⟨l, sv, h1.next hb, h2.next hb, OwK.below h3 hb, hb.on h4 h4.size, h5, h6⟩
theorem Bo.below (h : Bo w0 t rb R L w) : Below w0.heap.size w0 w := by
 obtain ⟨_, _, _, _, _, h4, _⟩ := h
 exact h4
theorem CT.row {l : Lay} (hT : TB w t l R L) (h : CT R' L' t l w w') {sv : Value} {M : List Win} (hr : RO w sv M) : RO w' sv M := by
 obtain ⟨l', _, k⟩ := h
 exact ro_kept hr fun q cs hq => k.block q hq.lt (foot_ne hT hq ty1.1 ty1.2.1 ty1.2.2)
theorem heap6 {w : World} {g j : Nat} (hj : j ≠ g) (v0 v1 v2 v3 v4 v5 : Value) : ((((((w.setCell ⟨g, 0, none⟩ v0).setCell ⟨g, 1, none⟩ v1).setCell ⟨g, 2, none⟩ v2).setCell ⟨g, 3, none⟩ v3).setCell ⟨g, 4, none⟩ v4).setCell ⟨g, 5, none⟩ v5).heap[j]? = w.heap[j]? := by
 rw [Below.heap_setCell _ _ _ _ hj, Below.heap_setCell _ _ _ _ hj, Below.heap_setCell _ _ _ _ hj, Below.heap_setCell _ _ _ _ hj, Below.heap_setCell _ _ _ _ hj, Below.heap_setCell _ _ _ _ hj]
theorem tree6 {l : Lay} (hT : TB w t l R L) {g : Nat} {cs : Array Value} (hb : Blk w g 54 cs) (v0 v1 v2 v3 v4 v5 : Value) : TB ((((((w.setCell ⟨g, 0, none⟩ v0).setCell ⟨g, 1, none⟩ v1).setCell ⟨g, 2, none⟩ v2).setCell ⟨g, 3, none⟩ v3).setCell ⟨g, 4, none⟩ v4).setCell ⟨g, 5, none⟩ v5) t l R L :=
 hT.kept fun b hf => heap6 (show b ≠ g from fun e => foot_ne hT hb ty2.1 ty2.2.1 ty2.2.2.1 (by rw [← e]; exact hf)) _ _ _ _ _ _
theorem rows6 {sv : Value} {M : List Win} {g : Nat} {cs : Array Value} (h : RO w sv M) (hb : Blk w g 54 cs) (v0 v1 v2 v3 v4 v5 : Value) : RO ((((((w.setCell ⟨g, 0, none⟩ v0).setCell ⟨g, 1, none⟩ v1).setCell ⟨g, 2, none⟩ v2).setCell ⟨g, 3, none⟩ v3).setCell ⟨g, 4, none⟩ v4).setCell ⟨g, 5, none⟩ v5) sv M :=
 ro_kept h fun _ _ hq => heap6 (fun e => Blk.ne_ hq hb ty2.2.2.2 e) _ _ _ _ _ _
theorem Bo.put {l : Lay} {sv sv' : Value} (hT : TB w t l R' L') (hb : Blk w rb 54 (refA R sv)) (hr : RO w sv' L') (h4 : Below w0.heap.size w0 w) (h5 : w0.heap.size ≤ rb) (h6 : ∀ b, l.foot t b → w0.heap.size ≤ b) :
  Bo w0 t rb R' L' ((((((w.setCell ⟨rb, 0, none⟩ (.int .i64 R'.x)).setCell ⟨rb, 1, none⟩ (.int .i64 R'.y)).setCell ⟨rb, 2, none⟩ (.int .i64 R'.w)).setCell ⟨rb, 3, none⟩ (.int .i64 R'.h)).setCell ⟨rb, 4, none⟩ (.int .i64 R'.last)).setCell ⟨rb, 5, none⟩ sv') :=
 ⟨l, sv', tree6 hT hb _ _ _ _ _ _, put6 hb _ _ _ _ _ _, rows6 hr hb _ _ _ _ _ _, set6 h4 h5 _ _ _ _ _ _, h5, h6⟩
theorem CT.out {l : Lay} (h : CT R' L' t l w w') (h4 : Below w0.heap.size w0 w) (h6 : ∀ b, l.foot t b → w0.heap.size ≤ b) : ∃ l', TB w' t l' R' L' ∧ Below w0.heap.size w0 w' ∧ (∀ b, l'.foot t b → w0.heap.size ≤ b) := by
 obtain ⟨l', k1, k2⟩ := h
 exact ⟨l', k1, k2.below h4 h4.size h6, k2.least h4.size h6⟩
end
end Go.Proofs.YtnhchpiafchdgaaGreat
end
