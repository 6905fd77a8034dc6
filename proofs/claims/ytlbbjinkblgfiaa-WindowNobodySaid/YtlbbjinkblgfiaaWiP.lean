/- Create, walked. -/
import Derived.Test.YtlbbjinkblgfiaaWiO
import Derived.RegionTactic
import Derived.ChangeAlike
namespace Go.Proofs.Ytlbbjinkblgfiaa
open Go.RowKit Go.Shelf Go.Maps
section
variable {w w' : World} {t : Nat} {l : Lay} {nd : Int → Option Nd} {made : Int} {cnt : Nat}
/-- The count of those made, written. -/
theorem TreeH.count (h : TreeH w t l nd made cnt) (m : Int) : TreeH (w.setCell ⟨t, 1, none⟩ (.int .i64 m)) t l nd m cnt ∧ Turn (l.foot t) (l.foot t) w (w.setCell ⟨t, 1, none⟩ (.int .i64 m)) := by
  have hk : ∀ b, b ≠ t → (w.setCell ⟨t, 1, none⟩ (.int .i64 m)).heap[b]? = w.heap[b]? := fun b hb => Below.heap_setCell w _ _ b hb
  refine ⟨⟨h.tree.set_ 1 _, h.map.same (hk _ (fun e => blk_not_map h.tree h.map e.symm)), h.dom, fun i b d hb hd => ?_, h.inj, h.apart⟩, ⟨rfl, rfl, rfl, by simp [World.setCell], fun i hi hn => hk i (fun e => hn (.inl e)), fun _ hi => .inl hi⟩⟩
  obtain ⟨h1, h2⟩ := h.node i b d hb hd
  exact ⟨h1.far (fun e => h.t_node hb e.symm) _, row_same h2 fun r hr => hk r (fun e => h.t_row (i := i) (by rw [hb]; rfl) hr e.symm)⟩
/-- A node more. -/
theorem TreeH.add (h : TreeH w t l nd made cnt) {k : Int} {bk : Nat} {d : Nd} (hk : l.nb k = none) (hd : d.kids = []) (hbk : Blk w bk 77 (ndA d (.slice none 0 0))) (hnew : ∀ i, l.nb i ≠ some bk) (hm : MapAt w' l.bm (upd l.nb k (some bk)) (cnt + 1)) (hg : w.grownBy w' (some l.bm)) :
    TreeH w' t { l with nb := upd l.nb k (some bk), kv := upd l.kv k (.slice none 0 0) } (upd nd k (some d)) made (cnt + 1) := by
  refine ⟨h.tree.grown hg (fun e => by injection e with e; exact blk_not_map h.tree h.map e), hm, fun i => ?_, fun i b d' hb hd' => ?_, fun i j b hi hj => ?_, fun i j b hi hj h1 h2 => ?_⟩
  · show (upd l.nb k (some bk) i).isSome = _
    unfold upd
    split
    · rfl
    · exact h.dom i
  · have hb' : upd l.nb k (some bk) i = some b := hb
    show Blk w' b _ (ndA d' (upd l.kv k (.slice none 0 0) i)) ∧ w'.ownsRow 0 _ 1 (upd l.kv k (.slice none 0 0) i) _ _
    by_cases hik : i = k
    · subst hik
      rw [upd_same] at hb' hd' ⊢
      injection hb' with hb'
      injection hd' with hd'
      subst hb' hd'
      refine ⟨hbk.grown hg (fun e => by injection e with e; exact blk_not_map hbk h.map e), ?_⟩
      rw [hd]
      exact World.ownsRow_nil _ _ _ _
    · rw [upd_other _ _ hik] at hb' hd' ⊢
      obtain ⟨h1, h2⟩ := h.node i b d' hb' hd'
      refine ⟨h1.grown hg (fun e => by injection e with e; exact blk_not_map h1 h.map e), row_same h2 fun r hr => ?_⟩
      obtain ⟨cs, hc⟩ := row_type h2 hr
      exact hg.block r hc.lt (fun e => by injection e with e; exact blk_not_map hc h.map e)
  · have hi' : upd l.nb k (some bk) i = some b := hi
    have hj' : upd l.nb k (some bk) j = some b := hj
    by_cases hik : i = k
    · by_cases hjk : j = k
      · rw [hik, hjk]
      · rw [hik, upd_same] at hi'
        rw [upd_other _ _ hjk, ← hi'] at hj'
        exact absurd hj' (hnew j)
    · rw [upd_other _ _ hik] at hi'
      by_cases hjk : j = k
      · rw [hjk, upd_same] at hj'
        rw [← hj'] at hi'
        exact absurd hi' (hnew i)
      · rw [upd_other _ _ hjk] at hj'
        exact h.inj i j b hi' hj'
  · have h1' : (upd l.kv k (.slice none 0 0) i).ownBlock = some b := h1
    have h2' : (upd l.kv k (.slice none 0 0) j).ownBlock = some b := h2
    have hi' : (upd l.nb k (some bk) i).isSome = true := hi
    have hj' : (upd l.nb k (some bk) j).isSome = true := hj
    by_cases hik : i = k
    · rw [hik, upd_same] at h1'; cases h1'
    · by_cases hjk : j = k
      · rw [hjk, upd_same] at h2'; cases h2'
      · rw [upd_other _ _ hik] at h1' hi'
        rw [upd_other _ _ hjk] at h2' hj'
        exact h.apart i j b hi' hj' h1' h2'
theorem TreeH.add_turn (h : TreeH w t l nd made cnt) {k : Int} {bk : Nat} (hg : w.grownBy w' (some l.bm)) {w0 : World} (h0 : Below w0.heap.size w0 w) (hbk : w0.heap.size ≤ bk) :
    Turn (l.foot t) (({ l with nb := upd l.nb k (some bk), kv := upd l.kv k (.slice none 0 0) } : Lay).foot t) w0 w' := by
  refine ⟨hg.os.trans h0.os, hg.tape.trans h0.tape, hg.output.trans h0.output, Nat.le_trans h0.size hg.size, fun i hi hn => ?_, fun i hi => ?_⟩
  · exact (hg.block i (Nat.lt_of_lt_of_le hi h0.size) (fun e => hn (.inr (.inl (by injection e)))) ).trans (h0.block i hi)
  · rcases hi with rfl | rfl | ⟨j, hj⟩ | ⟨j, hj, hr⟩
    · exact .inl (.inl rfl)
    · exact .inl (.inr (.inl rfl))
    · have hj' : upd l.nb k (some bk) j = some i := hj
      by_cases hjk : j = k
      · rw [hjk, upd_same] at hj'
        injection hj' with hj'
        exact .inr (hj' ▸ hbk)
      · rw [upd_other _ _ hjk] at hj'
        exact .inl (.inr (.inr (.inl ⟨j, hj'⟩)))
    · have hj' : (upd l.nb k (some bk) j).isSome = true := hj
      have hr' : (upd l.kv k (.slice none 0 0) j).ownBlock = some i := hr
      by_cases hjk : j = k
      · rw [hjk, upd_same] at hr'; cases hr'
      · rw [upd_other _ _ hjk] at hr' hj'
        exact .inl (.inr (.inr (.inr ⟨j, hj', hr'⟩)))
end
theorem create_f {w : World} {p : Value} (h : NoTree w p) {q x y a e : Int} : Calls Try.prog 26 #[p, .int .i64 q, .agg #[.int .i64 x, .int .i64 y, .int .i64 a, .int .i64 e]] w fun ex w' => ex = .returned (.tuple #[.int .i64 0, .int .i64 3]) ∧ Below w.heap.size w w' := by
  have H1 := Lib.hid (find_no (h.next ((Below.refl _ w).alloc (Nat.le_refl _) (.cells #[.int .i64 x, .int .i64 y, .int .i64 a, .int .i64 e] 23))) i64_0)
  clear h
  go_enter Try.func26, Try.ntmps26
  go_wp2_with (go_at_call 38; ((with_reducible refine (H1.out).mono ?_); rintro e w' ⟨rfl, rfl⟩))
  go_ret2
  exact ⟨rfl, (Below.refl _ w).alloc (Nat.le_refl _) _⟩
section
variable {w : World} {t : Nat} {l : Lay} {nd : Int → Option Nd} {made : Int} {cnt : Nat}
/-- What Create answers. -/
def CreateR (w : World) (t : Nat) (l : Lay) (nd : Int → Option Nd) (made : Int) (cnt : Nat) (q x y a e : Int) (ex : Ending) (w' : World) : Prop :=
  match nd q with
  | none => ex = .returned (.tuple #[.int .i64 0, .int .i64 6]) ∧ Below w.heap.size w w'
  | some dq => if rightB x y a e = false then ex = .returned (.tuple #[.int .i64 0, .int .i64 10]) ∧ Below w.heap.size w w'
    else if 1025 ≤ cnt then ex = .returned (.tuple #[.int .i64 0, .int .i64 2]) ∧ Below w.heap.size w w'
    else ex = .returned (.tuple #[.int .i64 (made + 1), .int .i64 0]) ∧ ∃ bk, TreeTo w t l (upd l.nb (made + 1) (some bk)) (upd (upd nd q (some ⟨dq.win, dq.kids ++ [made + 1]⟩)) (made + 1) (some ⟨⟨made + 1, q, x, y, a, e, false⟩, []⟩)) (made + 1) (cnt + 1) w'
set_option maxRecDepth 100000 in
set_option maxHeartbeats 4000000 in
theorem create_c (h : TreeH w t l nd made cnt) {r : Nat} (h0 : l.nb 0 = some r) {q x y a e : Int} (hq : I64 q) (hm : 0 ≤ made) (hm2 : made ≤ 4611686018427387904) (hfresh : nd (made + 1) = none) (hcnt : cnt ≤ 1048576) (hks : ∀ j dj, nd j = some dj → dj.kids.length ≤ 4096) :
    Calls Try.prog 26 #[treeP t, .int .i64 q, .agg #[.int .i64 x, .int .i64 y, .int .i64 a, .int .i64 e]] w fun ex w' => CreateR w t l nd made cnt q x y a e ex w' := by
  obtain ⟨wb, hwb⟩ : ∃ wb, wb = w.alloc (.cells #[.int .i64 x, .int .i64 y, .int .i64 a, .int .i64 e] 23) := ⟨_, rfl⟩
  have hbx : Blk wb w.heap.size 23 #[.int .i64 x, .int .i64 y, .int .i64 a, .int .i64 e] := by rw [hwb]; exact Blk.new w _ _
  have hbel : Below w.heap.size w wb := by rw [hwb]; exact (Below.refl _ _).alloc (Nat.le_refl _) _
  have hT := h.next hbel
  have H0 := Lib.hid (find_some hT i64_0 h0)
  have HR := Lib.hid (fun W => right_c x y a e W)
  have HB := Lib.hid hbel
  have HW := Lib.hid hwb
  obtain ⟨⟨x0, x1, x2, x3⟩, -⟩ := hbx.c4
  cases hd : nd q with
  | none =>
    have H1 := Lib.hid (find_none hT hq (h.none_ hd))
    have HD := Lib.hid hd
    clear h hT hbx hbel hq hfresh hcnt hks hd h0
    go_enter Try.func26, Try.ntmps26
    go_upto_region 1 with fail
    rw [← HW.out]
    clear hwb
    go_wp2_with (first
      | (go_at_call 38; ((with_reducible refine (H0.out).mono ?_); rintro e w' ⟨rfl, rfl⟩); clear H0)
      | (go_at_call 38; ((with_reducible refine (H1.out).mono ?_); rintro e w' ⟨rfl, rfl⟩)))
    go_ret2
    unfold CreateR
    rw [HD.out]
    exact ⟨rfl, HB.out⟩
  | some dq =>
    obtain ⟨bq, hbq⟩ := h.block hd
    have H1 := Lib.hid (find_some hT hq hbq)
    have HD := Lib.hid hd
    cases hri : rightB x y a e with
    | false =>
      rw [hri] at HR
      have HRI := Lib.hid hri
      clear h hT hbx hbel hq hfresh hcnt hks hd h0 hbq hri
      go_enter Try.func26, Try.ntmps26
      go_upto_region 1 with fail
      rw [← HW.out]
      clear hwb
      go_wp2_with (first
        | (go_at_call 38; ((with_reducible refine (H0.out).mono ?_); rintro e w' ⟨rfl, rfl⟩); clear H0)
        | (go_at_call 38; ((with_reducible refine (H1.out).mono ?_); rintro e w' ⟨rfl, rfl⟩))
        | (go_at_call 51; ((with_reducible refine (HR.out _).mono ?_); rintro e w' ⟨rfl, hb⟩)))
      go_ret2
      unfold CreateR
      rw [HD.out]
      dsimp only
      rw [if_pos HRI.out]
      exact ⟨rfl, hb.on HB.out HB.out.size⟩
    | true =>
      rw [hri] at HR
      have HRI := Lib.hid hri
      have HLN := Lib.hid (fun W (hW : Below wb.heap.size wb W) => len_c (hT.next hW) h0 (by omega))
      by_cases hc : 1025 ≤ cnt
      · have HC := Lib.hid hc
        have hc2 : (1024 : Int) ≤ (cnt : Int) - 1 := by omega
        clear h hT hbx hbel hq hfresh hks hd h0 hbq hri hc
        go_enter Try.func26, Try.ntmps26
        go_upto_region 1 with fail
        rw [← HW.out]
        clear hwb
        go_wp2_with (first
          | (go_at_call 38; ((with_reducible refine (H0.out).mono ?_); rintro e w' ⟨rfl, rfl⟩); clear H0)
          | (go_at_call 38; ((with_reducible refine (H1.out).mono ?_); rintro e w' ⟨rfl, rfl⟩))
          | (go_at_call 51; ((with_reducible refine (HR.out _).mono ?_); rintro e w' ⟨rfl, hb⟩); have HL := Lib.hid (HLN.out _ hb))
          | (go_at_call 13; ((with_reducible refine (HL.out).mono ?_); rintro e w' ⟨rfl, rfl⟩)))
        go_ret2
        unfold CreateR
        rw [HD.out]
        dsimp only
        rw [if_neg (by rw [HRI.out]; simp), if_pos HC.out]
        exact ⟨rfl, hb.on HB.out HB.out.size⟩
      · have HC := Lib.hid hc
        have hc2 : ¬ (1024 : Int) ≤ (cnt : Int) - 1 := by omega
        have htl : t < w.heap.size := h.tree.lt
        have HX := Lib.hid (fun (W : World) (hW : Below wb.heap.size wb W) => (show (TreeH (W.setCell ⟨t, 1, none⟩ (.int .i64 (made + 1))) t l nd (made + 1) cnt ∧ Turn (l.foot t) (l.foot t) w (W.setCell ⟨t, 1, none⟩ (.int .i64 (made + 1))) ∧
            Blk (W.setCell ⟨t, 1, none⟩ (.int .i64 (made + 1))) w.heap.size 23 #[.int .i64 x, .int .i64 y, .int .i64 a, .int .i64 e]) ∧ W.cell? ⟨t, 1, none⟩ = some (.int .i64 made) ∧ W.frozen? ⟨t, 1, none⟩ = false from by
          have h2 := hT.next hW
          have h3 := h2.count (made + 1)
          exact ⟨⟨h3.1, Turn.after_below (hW.on hbel hbel.size) h3.2, (hbx.next hW).far (by show w.heap.size ≠ t; omega) _⟩, h2.tree.c2.1.2, h2.tree.frozen 1⟩))
        have HY := Lib.hid (fun (W2 : World) (hT2 : TreeH W2 t l nd (made + 1) cnt) (hU2 : Turn (l.foot t) (l.foot t) w W2) (hB2 : Blk W2 w.heap.size 23 #[.int .i64 x, .int .i64 y, .int .i64 a, .int .i64 e]) =>
          (show ∃ W4, (Instr.mapUpdate 66 (.map (some l.bm)) (.int .i64 (made + 1)) (.pointer (some ⟨W2.heap.size, 0, none⟩))).run Try.prog (W2.alloc (.cells #[.int .i64 (made + 1), .int .i64 0, .int .i64 x, .int .i64 y, .int .i64 a, .int .i64 e, .bool false, .slice none 0 0] 77)).drew.drew = .ok () W4 ∧
              (TreeH W4 t { l with nb := upd l.nb (made + 1) (some W2.heap.size), kv := upd l.kv (made + 1) (.slice none 0 0) } (upd nd (made + 1) (some ⟨⟨made + 1, 0, x, y, a, e, false⟩, []⟩)) (made + 1) (cnt + 1) ∧
              Turn (l.foot t) (({ l with nb := upd l.nb (made + 1) (some W2.heap.size), kv := upd l.kv (made + 1) (.slice none 0 0) } : Lay).foot t) w W4) ∧ W4.cell? ⟨t, 0, none⟩ = some (.map (some l.bm)) ∧ W4.cell? ⟨W2.heap.size, 0, none⟩ = some (.int .i64 (made + 1)) from by
            have h3 := (hT2.alloc (.cells #[.int .i64 (made + 1), .int .i64 0, .int .i64 x, .int .i64 y, .int .i64 a, .int .i64 e, .bool false, .slice none 0 0] 77)).drew.drew
            have hnk : l.nb (made + 1) = none := h.none_ hfresh
            obtain ⟨W4, e1, e2, e3⟩ := h3.map.put (i := made + 1) ⟨by omega, by omega⟩ (by omega) hnk W2.heap.size
            have hbk : Blk (W2.alloc (.cells #[.int .i64 (made + 1), .int .i64 0, .int .i64 x, .int .i64 y, .int .i64 a, .int .i64 e, .bool false, .slice none 0 0] 77)).drew.drew W2.heap.size 77 (ndA ⟨⟨made + 1, 0, x, y, a, e, false⟩, []⟩ (.slice none 0 0)) := Blk.new W2 _ _
            have h4 := h3.add hnk (d := ⟨⟨made + 1, 0, x, y, a, e, false⟩, []⟩) rfl hbk (fun i hi => by
              have := hT2.foot_lt (.inr (.inr (.inl ⟨i, hi⟩))); omega) e2 e3
            have u4 := h3.add_turn (k := made + 1) (bk := W2.heap.size) e3 (w0 := W2) (((Below.refl _ W2).alloc (Nat.le_refl _) _).drew.drew) (Nat.le_refl _)
            have h5 := hbk.grown e3 (fun e => by injection e with e; exact blk_not_map hbk h3.map e)
            exact ⟨W4, e1, ⟨h4, hU2.trans u4⟩, h4.tree.c2.1.1, h5.at_ (i := 0) rfl⟩))
        have HEn := Lib.hid (fun (W : World) (bk : Nat) (T : TreeH W t { l with nb := upd l.nb (made + 1) (some bk), kv := upd l.kv (made + 1) (.slice none 0 0) } (upd nd (made + 1) (some ⟨⟨made + 1, 0, x, y, a, e, false⟩, []⟩)) (made + 1) (cnt + 1)) =>
          (show Calls Try.prog 52 #[treeP t, .pointer (some ⟨bk, 0, none⟩), .int .i64 q] W fun ex w' => (ex = .returned (.tuple #[]) ∧ TreeTo W t { l with nb := upd l.nb (made + 1) (some bk), kv := upd l.kv (made + 1) (.slice none 0 0) } (upd l.nb (made + 1) (some bk)) (upd (upd nd q (some ⟨dq.win, dq.kids ++ [made + 1]⟩)) (made + 1) (some ⟨⟨made + 1, q, x, y, a, e, false⟩, []⟩)) (made + 1) (cnt + 1) w') ∧ w'.cell? ⟨bk, 0, none⟩ = some (.int .i64 (made + 1)) from by
            have hqk : q ≠ made + 1 := fun e => by rw [e, hfresh] at hd; cases hd
            refine (enter_c T (p := q) (c := made + 1) (bp := bq) (bc := bk) (by show upd l.nb (made + 1) (some bk) q = _; rw [upd_other _ _ hqk]; exact hbq) (upd_same _ _ _) (by rw [upd_other _ _ hqk]; exact hd) (upd_same _ _ _) hqk hq (hks _ _ hd)).mono ?_
            rintro ex w' ⟨rfl, l', hl', T', U'⟩
            have hnn : upd (upd (upd nd (made + 1) (some ⟨⟨made + 1, 0, x, y, a, e, false⟩, []⟩)) q (some ⟨dq.win, dq.kids ++ [made + 1]⟩)) (made + 1) (some ⟨⟨made + 1, q, x, y, a, e, false⟩, []⟩) = upd (upd nd q (some ⟨dq.win, dq.kids ++ [made + 1]⟩)) (made + 1) (some ⟨⟨made + 1, q, x, y, a, e, false⟩, []⟩) := by
              rw [upd_comm _ _ _ hqk.symm, upd_twice]
            have T'' : TreeH w' t l' (upd (upd nd q (some ⟨dq.win, dq.kids ++ [made + 1]⟩)) (made + 1) (some ⟨⟨made + 1, q, x, y, a, e, false⟩, []⟩)) (made + 1) (cnt + 1) := by rw [← hnn]; exact T'
            have hbk' : l'.nb (made + 1) = some bk := by rw [hl']; exact upd_same _ _ _
            exact ⟨⟨rfl, l', hl', T'', U'⟩, (T''.cells hbk' (upd_same _ _ _)).1.1⟩))
        clear h hT hbx hbel hq hfresh hks hd h0 hbq hri hc
        go_enter Try.func26, Try.ntmps26
        go_upto_region 1 with fail
        rw [← HW.out]
        clear hwb
        go_upto_region 9 with (first
          | (go_at_call 38; ((with_reducible refine (H0.out).mono ?_); rintro e w' ⟨rfl, rfl⟩); clear H0)
          | (go_at_call 38; ((with_reducible refine (H1.out).mono ?_); rintro e w' ⟨rfl, rfl⟩))
          | (go_at_call 51; ((with_reducible refine (HR.out _).mono ?_); rintro e w1 ⟨rfl, hb⟩); have HL := Lib.hid (HLN.out _ hb))
          | (go_at_call 13; ((with_reducible refine (HL.out).mono ?_); rintro e w' ⟨rfl, rfl⟩)))
        obtain ⟨hx1, j1, j2⟩ := HX.out _ hb
        have HX1 := Lib.hid hx1
        clear hx1 hb
        go_upto_region 10 with fail
        generalize w1.setCell ⟨t, 1, none⟩ (.int .i64 (made + 1)) = W2 at HX1 ⊢
        clear j1 j2 x0 x1 x2 x3
        have k1 := HX1.out.1.tree.c2.1.2
        obtain ⟨⟨z0, z1, z2, z3⟩, -⟩ := HX1.out.2.2.c4
        have hT3 := (HX1.out.1.alloc (.cells #[.int .i64 (made + 1), .int .i64 0, .int .i64 x, .int .i64 y, .int .i64 a, .int .i64 e, .bool false, .slice none 0 0] 77)).drew
        have s1 := hT3.tree.c2.1.2
        obtain ⟨⟨u0, u1, u2, u3⟩, -⟩ := (HX1.out.2.2.alloc (.cells #[.int .i64 (made + 1), .int .i64 0, .int .i64 x, .int .i64 y, .int .i64 a, .int .i64 e, .bool false, .slice none 0 0] 77)).drew.c4
        have v0 := hT3.tree.c2.1.1
        have v1 := ((Blk.new W2 77 #[.int .i64 (made + 1), .int .i64 0, .int .i64 x, .int .i64 y, .int .i64 a, .int .i64 e, .bool false, .slice none 0 0]).drew.at_ (i := 0) rfl)
        obtain ⟨W4, hrun, hT4, y0, y1⟩ := HY.out W2 HX1.out.1 HX1.out.2.1 HX1.out.2.2
        have HT4 := Lib.hid hT4
        clear hT3 hT4
        refine wp_region_noPanic ?_
        refine wp_region_held_drew (S := fun wx => wx.cell? ⟨t, 1, none⟩ = some (.int .i64 (made + 1)) ∧ wx.cell? ⟨w.heap.size, 0, none⟩ = some (.int .i64 x) ∧ wx.cell? ⟨w.heap.size, 1, none⟩ = some (.int .i64 y) ∧ wx.cell? ⟨w.heap.size, 2, none⟩ = some (.int .i64 a) ∧ wx.cell? ⟨w.heap.size, 3, none⟩ = some (.int .i64 e)) (by kernel_rfl) (by exact ⟨k1, z0, z1, z2, z3⟩) (fun hHeld => ?_)
        refine wpAnyH_take (i := 0) (v := ?va0) rfl (by kernel_rfl) (by kernel_rfl) (by kernel_rfl) (fun _ _ _ h => h) (Or.inl ⟨by kernel_rfl, ?ya0⟩) (by assumption) ?ra0
        case ya0 => (intro wq hSw; (try dsimp only at hSw); go_simp; (try with_reducible rfl))
        (try simp only [Act.put, List.getElem_toArray, List.getElem_cons_zero, List.setIfInBounds_toArray, List.set_cons_zero, List.set_cons_succ])
        refine wpAnyH_take (i := 1) (v := ?va1) rfl (by kernel_rfl) (by kernel_rfl) (by kernel_rfl) (fun _ _ _ h => h) (Or.inl ⟨by kernel_rfl, ?ya1⟩) (by assumption) ?ra1
        case ya1 => (intro wq hSw; (try dsimp only at hSw); go_simp; (try with_reducible rfl))
        (try simp only [Act.put, List.getElem_toArray, List.getElem_cons_succ, List.getElem_cons_zero, List.setIfInBounds_toArray, List.set_cons_zero, List.set_cons_succ])
        refine wpAnyH_take (i := 2) (v := ?va2) rfl (by kernel_rfl) (by kernel_rfl) (by kernel_rfl) (fun _ _ _ h => h) (Or.inl ⟨by kernel_rfl, ?ya2⟩) (by assumption) ?ra2
        case ya2 => (intro wq hSw; (try dsimp only at hSw); go_simp; (try with_reducible rfl))
        (try simp only [Act.put, List.getElem_toArray, List.getElem_cons_succ, List.getElem_cons_zero, List.setIfInBounds_toArray, List.set_cons_zero, List.set_cons_succ])
        refine wpAnyH_take (i := 3) (v := ?va3) rfl (by kernel_rfl) (by kernel_rfl) (by kernel_rfl) (fun _ _ _ h => h) (Or.inl ⟨by kernel_rfl, ?ya3⟩) (by assumption) ?ra3
        case ya3 => (intro wq hSw; (try dsimp only at hSw); go_simp; (try with_reducible rfl))
        (try simp only [Act.put, List.getElem_toArray, List.getElem_cons_succ, List.getElem_cons_zero, List.setIfInBounds_toArray, List.set_cons_zero, List.set_cons_succ])
        refine wpAnyH_take (i := 4) (v := ?va4) rfl (by kernel_rfl) (by kernel_rfl) (by kernel_rfl) (fun _ _ _ h => h) (Or.inl ⟨by kernel_rfl, ?ya4⟩) (by assumption) ?ra4
        case ya4 => (intro wq hSw; (try dsimp only at hSw); go_simp; (try with_reducible rfl))
        (try simp only [Act.put, List.getElem_toArray, List.getElem_cons_succ, List.getElem_cons_zero, List.setIfInBounds_toArray, List.set_cons_zero, List.set_cons_succ])
        refine wpAnyH_take (i := 5) (v := ?va5) rfl (by kernel_rfl) (by kernel_rfl) (by kernel_rfl) (fun _ _ _ h => h) (Or.inl ⟨by kernel_rfl, ?ya5⟩) (by assumption) ?ra5
        case ya5 => (intro wq hSw; (try dsimp only at hSw); go_simp; (try with_reducible rfl))
        (try simp only [Act.put, List.getElem_toArray, List.getElem_cons_succ, List.getElem_cons_zero, List.setIfInBounds_toArray, List.set_cons_zero, List.set_cons_succ])
        refine wpAnyH_take (i := 6) (v := ?va6) rfl (by kernel_rfl) (by kernel_rfl) (by kernel_rfl) (fun _ _ _ h => h) (Or.inl ⟨by kernel_rfl, ?ya6⟩) (by assumption) ?ra6
        case ya6 => (intro wq hSw; (try dsimp only at hSw); go_simp; (try with_reducible rfl))
        (try simp only [Act.put, List.getElem_toArray, List.getElem_cons_succ, List.getElem_cons_zero, List.setIfInBounds_toArray, List.set_cons_zero, List.set_cons_succ])
        refine wpAnyH_ready (rs := [7]) (by kernel_rfl) (by simp) ?_
        refine AllReadyH.cons rfl (fun K hK => ?_) AllReadyH.nil
        go_simp
        refine hK.out _ _ (by exact ⟨s1, u0, u1, u2, u3⟩) (fun hHeld => ?_)
        clear hK K
        (try simp only [Act.put, List.getElem_toArray, List.getElem_cons_succ, List.getElem_cons_zero, List.setIfInBounds_toArray, List.set_cons_zero, List.set_cons_succ])
        refine wpAnyH_take (i := 8) (v := ?va8) rfl (by kernel_rfl) (by kernel_rfl) (by kernel_rfl) (fun _ _ _ h => h) (Or.inl ⟨by kernel_rfl, ?ya8⟩) (by assumption) ?ra8
        case ya8 => (intro wq hSw; (try dsimp only at hSw); go_simp; (try with_reducible rfl))
        (try simp only [Act.put, List.getElem_toArray, List.getElem_cons_succ, List.getElem_cons_zero, List.setIfInBounds_toArray, List.set_cons_zero, List.set_cons_succ])
        refine wpAnyH_done (by kernel_rfl) ?_ _
        refine NoPanic.normal ?_
        clear hHeld k1 s1 z0 z1 z2 z3 u0 u1 u2 u3
        go_upto_region 11 with fail
        generalize (W2.alloc (.cells #[.int .i64 (made + 1), .int .i64 0, .int .i64 x, .int .i64 y, .int .i64 a, .int .i64 e, .bool false, .slice none 0 0] 77)).drew = W3 at v0 v1 hrun ⊢
        refine wp_region_noPanic ?_
        refine wp_region_held_drew (S := fun wx => wx.cell? ⟨t, 0, none⟩ = some (.map (some l.bm)) ∧ wx.cell? ⟨W2.heap.size, 0, none⟩ = some (.int .i64 (made + 1))) (by kernel_rfl) (by exact ⟨v0, v1⟩) (fun hHeld => ?_)
        refine wpAnyH_take (i := 0) (v := ?vb0) rfl (by kernel_rfl) (by kernel_rfl) (by kernel_rfl) (fun _ _ _ h => h) (Or.inl ⟨by kernel_rfl, ?yb0⟩) (by assumption) ?rb0
        case yb0 => (intro wq hSw; (try dsimp only at hSw); go_simp; (try with_reducible rfl))
        (try simp only [Act.put, List.getElem_toArray, List.getElem_cons_zero, List.setIfInBounds_toArray, List.set_cons_zero, List.set_cons_succ])
        refine wpAnyH_take (i := 1) (v := ?vb1) rfl (by kernel_rfl) (by kernel_rfl) (by kernel_rfl) (fun _ _ _ h => h) (Or.inl ⟨by kernel_rfl, ?yb1⟩) (by assumption) ?rb1
        case yb1 => (intro wq hSw; (try dsimp only at hSw); go_simp; (try with_reducible rfl))
        (try simp only [Act.put, List.getElem_toArray, List.getElem_cons_succ, List.getElem_cons_zero, List.setIfInBounds_toArray, List.set_cons_zero, List.set_cons_succ])
        refine wpAnyH_take (i := 2) (v := ?vb2) rfl (by kernel_rfl) (by kernel_rfl) (by kernel_rfl) (fun _ _ _ h => h) (Or.inl ⟨by kernel_rfl, ?yb2⟩) (by assumption) ?rb2
        case yb2 => (intro wq hSw; (try dsimp only at hSw); go_simp; (try with_reducible rfl))
        (try simp only [Act.put, List.getElem_toArray, List.getElem_cons_succ, List.getElem_cons_zero, List.setIfInBounds_toArray, List.set_cons_zero, List.set_cons_succ])
        refine wpAnyH_take (i := 3) (v := ?vb3) rfl (by kernel_rfl) (by kernel_rfl) (by kernel_rfl) (fun _ _ _ h => h) (Or.inl ⟨by kernel_rfl, ?yb3⟩) (by assumption) ?rb3
        case yb3 => (intro wq hSw; (try dsimp only at hSw); go_simp; (try with_reducible rfl))
        (try simp only [Act.put, List.getElem_toArray, List.getElem_cons_succ, List.getElem_cons_zero, List.setIfInBounds_toArray, List.set_cons_zero, List.set_cons_succ])
        refine wpAnyH_take (i := 4) (v := ?vb4) rfl (by kernel_rfl) (by kernel_rfl) (by kernel_rfl) (fun _ _ _ h => h) (Or.inl ⟨by kernel_rfl, ?yb4⟩) (by assumption) ?rb4
        case yb4 => (intro wq hSw; (try dsimp only at hSw); go_simp; (try with_reducible rfl))
        (try simp only [Act.put, List.getElem_toArray, List.getElem_cons_succ, List.getElem_cons_zero, List.setIfInBounds_toArray, List.set_cons_zero, List.set_cons_succ])
        refine wpAnyH_take (i := 5) (v := ?vb5) rfl (by kernel_rfl) (by kernel_rfl) (by kernel_rfl) (fun _ _ _ h => h) (Or.inl ⟨by kernel_rfl, ?yb5⟩) (by assumption) ?rb5
        case yb5 => (intro wq hSw; (try dsimp only at hSw); go_simp; (try with_reducible rfl))
        (try simp only [Act.put, List.getElem_toArray, List.getElem_cons_succ, List.getElem_cons_zero, List.setIfInBounds_toArray, List.set_cons_zero, List.set_cons_succ])
        refine wpAnyH_take (i := 6) (v := ?vb6) rfl (by kernel_rfl) (by kernel_rfl) (by kernel_rfl) (fun _ _ _ h => h) (Or.inl ⟨by kernel_rfl, ?yb6⟩) (by assumption) ?rb6
        case yb6 => (intro wq hSw; (try dsimp only at hSw); go_simp; (try with_reducible rfl))
        (try simp only [Act.put, List.getElem_toArray, List.getElem_cons_succ, List.getElem_cons_zero, List.setIfInBounds_toArray, List.set_cons_zero, List.set_cons_succ])
        refine wpAnyH_take (i := 7) (v := ?vb7) rfl (by kernel_rfl) (by kernel_rfl) (by kernel_rfl) (fun _ _ _ h => h) (Or.inl ⟨by kernel_rfl, ?yb7⟩) (by assumption) ?rb7
        case yb7 => (intro wq hSw; (try dsimp only at hSw); go_simp; (try with_reducible rfl))
        (try simp only [Act.put, List.getElem_toArray, List.getElem_cons_succ, List.getElem_cons_zero, List.setIfInBounds_toArray, List.set_cons_zero, List.set_cons_succ])
        refine wpAnyH_take (i := 8) (v := ?vb8) rfl (by kernel_rfl) (by kernel_rfl) (by kernel_rfl) (fun _ _ _ h => h) (Or.inl ⟨by kernel_rfl, ?yb8⟩) (by assumption) ?rb8
        case yb8 => (intro wq hSw; (try dsimp only at hSw); go_simp; (try with_reducible rfl))
        (try simp only [Act.put, List.getElem_toArray, List.getElem_cons_succ, List.getElem_cons_zero, List.setIfInBounds_toArray, List.set_cons_zero, List.set_cons_succ])
        refine wpAnyH_take (i := 9) (v := ?vb9) rfl (by kernel_rfl) (by kernel_rfl) (by kernel_rfl) (fun _ _ _ h => h) (Or.inl ⟨by kernel_rfl, ?yb9⟩) (by assumption) ?rb9
        case yb9 => (intro wq hSw; (try dsimp only at hSw); go_simp; (try with_reducible rfl))
        (try simp only [Act.put, List.getElem_toArray, List.getElem_cons_succ, List.getElem_cons_zero, List.setIfInBounds_toArray, List.set_cons_zero, List.set_cons_succ])
        refine wpAnyH_ready (rs := [10]) (by kernel_rfl) (by simp) ?_
        refine AllReadyH.cons rfl (fun K hK => ?_) AllReadyH.nil
        go_simp
        refine hK.out _ _ (by exact ⟨y0, y1⟩) (fun hHeld => ?_)
        clear hK K
        (try simp only [Act.put, List.getElem_toArray, List.getElem_cons_succ, List.getElem_cons_zero, List.setIfInBounds_toArray, List.set_cons_zero, List.set_cons_succ])
        refine wpAnyH_done (by kernel_rfl) ?_ _
        refine NoPanic.normal ?_
        clear hHeld v0 v1 hrun y0 y1
        have HE1 := Lib.hid (HEn.out W4 W2.heap.size HT4.out.1)
        go_wp2_with (go_at_call 52; ((with_reducible refine (HE1.out).mono ?_); rintro ex w5 ⟨⟨rfl, T5⟩, y5⟩); have HT5 := Lib.hid T5; clear T5)
        go_ret2
        unfold CreateR
        rw [HD.out]
        dsimp only
        rw [if_neg (by rw [HRI.out]; simp), if_neg HC.out]
        exact ⟨rfl, W2.heap.size, TreeTo.trans HT4.out.2 HT5.out⟩
end
end Go.Proofs.Ytlbbjinkblgfiaa
