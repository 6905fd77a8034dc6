/- The document's shape. -/
import Derived.Test.YtjeabkcbaielhaaCoG
namespace Go.Proofs.Ytjeabkcbaielhaa.Co
open Go.RowKit
theorem shapeL_append (a b : List Con) (d : Nat) : shapeL (a ++ b) d = (shapeL a d && shapeL b d) := by
  induction a with
  | nil => simp [shapeL]
  | cons x r ih => simp [shapeL, ih, Bool.and_assoc]
theorem shapeL_snoc {ks : List Con} {i : Nat} {x : Con} (h : ks[i]? = some x) {d : Nat} (h1 : shapeL (ks.take i) d = true) (h2 : shape x d = true) : shapeL (ks.take (i + 1)) d = true := by
  obtain ⟨hl, rfl⟩ := List.getElem?_eq_some_iff.1 h
  rw [List.take_succ_eq_append_getElem hl, shapeL_append]
  simp [shapeL, h1, h2]
theorem shapeL_bad {ks : List Con} {i : Nat} {x : Con} (h : ks[i]? = some x) {d : Nat} (h2 : shape x d = false) : shapeL ks d = false := by
  cases hs : shapeL ks d
  · rfl
  · rw [shapeL_mem hs x (List.mem_of_getElem? h)] at h2; cases h2
set_option maxHeartbeats 4000000 in
set_option maxRecDepth 100000 in
theorem shape_c (Z : Nat → Prop) : ∀ (x : Con) (sv : Value) (deep : Nat) (w : World), KV w Z x.ks sv → deep ≤ 1000000 →
    Calls Try.prog 59 #[conV x.a sv, .int .i64 deep] w fun e w' => e = .returned (.bool (shape x deep)) ∧ Below w.heap.size w w' := by
  intro x
  induction x using Tr.ind with
  | h a ks ih =>
    intro sv deep w hK hd
    obtain ⟨k, wt, c, s⟩ := a
    obtain ⟨p, cap, rfl, hl⟩ : ∃ p cap, sv = .slice p ks.length cap ∧ ks.length ≤ 1152921504606846976 := hK.slice
    have hK : KV w Z ks (.slice p ks.length cap) := hK
    obtain ⟨r, hr⟩ : ∃ r, r = shape (.mk ⟨k, wt, c, s⟩ ks) deep := ⟨_, rfl⟩
    rw [← hr]
    show Calls Try.prog 59 #[.agg #[.int .i64 k, .int .i64 wt, .int .i64 c, .int .i64 s, .slice p ks.length cap], .int .i64 deep] w fun e w' => e = .returned (.bool r) ∧ Below w.heap.size w w'
    have hS : shape (.mk ⟨k, wt, c, s⟩ ks) deep = (soundB (.mk ⟨k, wt, c, s⟩ ks) deep && shapeL ks (deep + 1)) := rfl
    have hU : soundB (.mk ⟨k, wt, c, s⟩ ks) deep = if 8 < deep ∨ wt < 1 ∨ 1048576 < wt then false
      else if k = 0 then decide (0 < deep ∧ 1 ≤ c ∧ 0 ≤ s ∧ ks.length = 0)
      else decide (1 ≤ k ∧ k ≤ 4 ∧ c = 0 ∧ s = 0 ∧ ks.length ≤ 64 ∧ (deep = 0 ∨ 0 < ks.length)) := rfl
    obtain ⟨m, hm⟩ : ∃ m, m = ks.length := ⟨_, rfl⟩
    rw [← hm] at hl hK hU ⊢
    have HM := Lib.hid hm
    have HK := Lib.hid hK
    have IH := Lib.hid ih
    have hB := (Below.refl w.heap.size w).alloc (Nat.le_refl _) (.cells #[.int .i64 k, .int .i64 wt, .int .i64 c, .int .i64 s, .slice p m cap] 24)
    have hQ := Blk.new w 24 #[.int .i64 k, .int .i64 wt, .int .i64 c, .int .i64 s, .slice p m cap]
    clear hm hK ih
    by_cases hbad : (8 : Int) < deep ∨ wt < 1 ∨ 1048576 < wt ∨ 64 < (m : Int) ∨ k < 0 ∨ 4 < k
    · have HR : Hid (r = false) := by
        rw [hr, hS, hU]
        split
        · rfl
        · split
          · rw [decide_eq_false (by omega)]; rfl
          · rw [decide_eq_false (by omega)]; rfl
      clear hr hS hU hQ
      by_cases h1 : (8 : Int) < deep
      · clear hbad
        go_enter Try.func59, Try.ntmps59
        go_wp2_with fail
        go_ret
        exact ⟨ret_bool HR.out.symm, hB⟩
      by_cases h2 : wt < 1
      · clear hbad
        go_enter Try.func59, Try.ntmps59
        go_wp2_with fail
        go_ret
        exact ⟨ret_bool HR.out.symm, hB⟩
      by_cases h3 : 1048576 < wt
      · clear hbad
        go_enter Try.func59, Try.ntmps59
        go_wp2_with fail
        go_ret
        exact ⟨ret_bool HR.out.symm, hB⟩
      by_cases h4 : 64 < (m : Int)
      · clear hbad
        go_enter Try.func59, Try.ntmps59
        go_wp2_with fail
        go_ret
        exact ⟨ret_bool HR.out.symm, hB⟩
      by_cases h5 : k < 0
      · clear hbad
        go_enter Try.func59, Try.ntmps59
        go_wp2_with fail
        go_ret
        exact ⟨ret_bool HR.out.symm, hB⟩
      · have h6 : 4 < k := by omega
        clear hbad
        go_enter Try.func59, Try.ntmps59
        go_wp2_with fail
        go_ret
        exact ⟨ret_bool HR.out.symm, hB⟩
    have h1 : ¬ (8 : Int) < deep := by omega
    have h2 : ¬ wt < 1 := by omega
    have h3 : ¬ 1048576 < wt := by omega
    have h4 : ¬ 64 < (m : Int) := by omega
    have h5 : ¬ k < 0 := by omega
    have h6 : ¬ 4 < k := by omega
    clear hbad
    by_cases hk : k = 0
    · subst hk
      have HR : Hid (r = decide (0 < deep ∧ 1 ≤ c ∧ 0 ≤ s ∧ m = 0)) := by
        rw [hr, hS, hU, if_neg (by omega), if_pos rfl]
        by_cases h0 : 0 < deep ∧ 1 ≤ c ∧ 0 ≤ s ∧ m = 0
        · have : ks = [] := List.eq_nil_of_length_eq_zero (by have := HM.out; omega)
          subst this; rw [show shapeL [] (deep + 1) = true from rfl, Bool.and_true]; rfl
        · rw [decide_eq_false h0]; rfl
      clear hr hS hU hQ
      go_enter Try.func59, Try.ntmps59
      go_wp2_with fail
      all_goals (go_ret; refine ⟨ret_bool ?_, (Below.refl _ _).alloc (Nat.le_refl _) _⟩; rw [HR.out, Bool.eq_iff_iff]; simp; omega)
    have HR0 : Hid (r = (decide (c = 0 ∧ s = 0 ∧ (deep = 0 ∨ 0 < m)) && shapeL ks (deep + 1))) := by
      rw [hr, hS, hU, if_neg (by omega), if_neg hk]
      congr 1
      rw [Bool.eq_iff_iff, decide_eq_true_iff, decide_eq_true_iff]; omega
    clear hr hS hU
    by_cases hc : c = 0
    · by_cases hs : s = 0
      · by_cases hz : (0 : Int) < deep ∧ (m : Int) = 0
        · have HR : Hid (r = false) := by rw [HR0.out, decide_eq_false (by omega)]; rfl
          obtain ⟨hz1, hz2⟩ := hz
          have hz3 : m = 0 := by omega
          subst hc hs hz3
          clear hz2
          go_enter Try.func59, Try.ntmps59
          go_wp2_with fail
          go_ret
          exact ⟨ret_bool HR.out.symm, hB⟩
        · have HR : Hid (r = shapeL ks (deep + 1)) := by rw [HR0.out, decide_eq_true (by omega)]; rfl
          subst hc hs
          clear HR0
          have hcase : (¬ (0 : Int) < deep) ∨ ((0 : Int) < deep ∧ ¬ (m : Int) = 0) := by omega
          clear hz
          rcases hcase with hz | ⟨hz, hz'⟩
          all_goals
            go_enter Try.func59, Try.ntmps59
            go_wp2_with fail
            go_loopw [5] (fun z wr => ∃ i : Nat, i ≤ m ∧ z = .int .i64 i ∧ Below w.heap.size w wr ∧ Blk wr w.heap.size 24 #[.int .i64 k, .int .i64 wt, .int .i64 0, .int .i64 0, .slice p m cap] ∧ Asd (shapeL (ks.take i) (deep + 1) = true)) (fun z _ => m - (intOf z).toNat)
            case atStart => exact ⟨0, Nat.zero_le _, rfl, hB, hQ, rfl⟩
            case round =>
              obtain ⟨i, hi, rfl, hW, hq, hs0⟩ := hrel
              have HSo := Lib.hid (show shapeL (ks.take i) (deep + 1) = true from hs0)
              clear hs0
              obtain ⟨q4, qf⟩ : wr.cell? ⟨w.heap.size, 4, none⟩ = some (.slice p m cap) ∧ wr.frozen? ⟨w.heap.size, 4, none⟩ = false := ⟨hq.at_ (i := 4) rfl, hq.frozen 4⟩
              by_cases hlt : i < m
              · obtain ⟨x, hx⟩ : ∃ x, ks[i]? = some x := ⟨_, List.getElem?_eq_getElem (by rw [← HM.out]; exact hlt)⟩
                have hK1 := HK.out.same (Z' := Z) (w' := wr) (fun _ h => h) hW.size fun b _ hl => hW.block b hl
                obtain ⟨-, b, o, s', rfl, -, hb1, -, hk1, c0, c1, c2, c3, c4⟩ := hK1.kid hx
                have hI := IH.out x (List.mem_of_getElem? hx) s' (deep + 1) wr hk1 (by omega)
                rw [show ((deep + 1 : Nat) : Int) = (deep : Int) + 1 by omega] at hI
                have HX := Lib.hid hx
                obtain ⟨sb, hsb⟩ : ∃ sb, sb = shape x (deep + 1) := ⟨_, rfl⟩
                rw [← hsb] at hI
                have HI := Lib.hid hI
                have HSB := Lib.hid hsb
                clear hI hK1 hk1 hx hsb
                cases sb
                · have HE := Lib.hid (shapeL_bad HX.out HSB.out.symm)
                  go_wp2_with fail
                  refine HI.out.mono ?_
                  rintro e w1 ⟨rfl, hb⟩
                  have hW1 := hW.trans (hb.mono hW.size)
                  clear hb hW hq c0 c1 c2 c3 c4 q4 qf
                  go_wp2_with fail
                  go_ret
                  exact ⟨ret_bool (by rw [HR.out, HE.out]), hW1⟩
                · have HE := Lib.hid (shapeL_snoc HX.out HSo.out HSB.out.symm)
                  go_wp2_with fail
                  refine HI.out.mono ?_
                  rintro e w1 ⟨rfl, hb⟩
                  have hW1 := hW.trans (hb.mono hW.size)
                  have hq1 := hq.next hb
                  clear hb hW hq c0 c1 c2 c3 c4 q4 qf
                  go_wp2_with fail
                  go_roundw
                  case rel => exact ⟨i + 1, by omega, by go_num, hW1, hq1, HE.out⟩
                  case measure => simp [intOf]; omega
              · have HE : Hid (shapeL ks (deep + 1) = true) := by have := HSo.out; rwa [List.take_of_length_le (by have := HM.out; omega)] at this
                go_wp2_with fail
                go_ret
                exact ⟨ret_bool (by rw [HR.out, HE.out]), hW⟩
      · have HR : Hid (r = false) := by rw [HR0.out, decide_eq_false (by omega)]; rfl
        subst hc
        clear hQ
        go_enter Try.func59, Try.ntmps59
        go_wp2_with fail
        go_ret
        exact ⟨ret_bool HR.out.symm, hB⟩
    · have HR : Hid (r = false) := by rw [HR0.out, decide_eq_false (by omega)]; rfl
      clear hQ
      go_enter Try.func59, Try.ntmps59
      go_wp2_with fail
      go_ret
      exact ⟨ret_bool HR.out.symm, hB⟩
end Go.Proofs.Ytjeabkcbaielhaa.Co
