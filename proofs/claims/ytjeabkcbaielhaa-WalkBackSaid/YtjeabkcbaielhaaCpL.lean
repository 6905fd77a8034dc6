/- Does a split below the root hold but one (the document's word at Wrap). -/
import Derived.Test.YtjeabkcbaielhaaCpK
namespace Go.Proofs.Ytjeabkcbaielhaa.Co
open Go.RowKit
mutual
def singleC : Con → Nat → Bool
  | .mk _ ks, d => (decide (0 < d) && decide (ks.length = 1)) || singleL ks (d + 1)
def singleL : List Con → Nat → Bool
  | [], _ => false
  | x :: r, d => singleC x d || singleL r d
end
theorem singleL_append (a b : List Con) (d : Nat) : singleL (a ++ b) d = (singleL a d || singleL b d) := by
  induction a with
  | nil => simp [singleL]
  | cons x r ih => simp only [List.cons_append, singleL, ih, Bool.or_assoc]
theorem singleL_snoc {ks : List Con} {i : Nat} {x : Con} (h : ks[i]? = some x) (d : Nat) : singleL (ks.take (i + 1)) d = (singleL (ks.take i) d || singleC x d) := by
  obtain ⟨hl, rfl⟩ := List.getElem?_eq_some_iff.1 h
  rw [List.take_succ_eq_append_getElem hl, singleL_append]
  simp [singleL]
theorem singleL_past {ks : List Con} {i : Nat} {d : Nat} (h : singleL (ks.take i) d = true) : singleL ks d = true := by
  rw [← List.take_append_drop i ks, singleL_append, h]; rfl
set_option maxHeartbeats 1000000 in
theorem single_c (Z : Nat → Prop) : ∀ (x : Con) (sv : Value) (d : Nat) (w : World), KV w Z x.ks sv → d + ht x ≤ 1000000 →
    Calls Try.prog 45 #[conV x.a sv, .int .i64 d] w fun e w' => e = .returned (.bool (singleC x d)) ∧ Below w.heap.size w w' := by
  intro x
  induction x using Tr.ind with
  | h a ks ih =>
    intro sv d w hK hd
    obtain ⟨p, cap, rfl, hl⟩ : ∃ p cap, sv = .slice p ks.length cap ∧ ks.length ≤ 1152921504606846976 := hK.slice
    have hK : KV w Z ks (.slice p ks.length cap) := hK
    obtain ⟨r, hr⟩ : ∃ r, r = ((decide (0 < d) && decide (ks.length = 1)) || singleL ks (d + 1)) := ⟨_, rfl⟩
    show Calls Try.prog 45 #[.agg #[.int .i64 a.k, .int .i64 a.w, .int .i64 a.c, .int .i64 a.s, .slice p ks.length cap], .int .i64 d] w fun e w' => e = .returned (.bool ((decide (0 < d) && decide (ks.length = 1)) || singleL ks (d + 1))) ∧ Below w.heap.size w w'
    rw [← hr]
    simp only [ht] at hd
    obtain ⟨m, hm⟩ : ∃ m, m = ks.length := ⟨_, rfl⟩
    rw [← hm] at hl hK hr ⊢
    have HM := Lib.hid hm
    have HK := Lib.hid hK
    have IH := Lib.hid ih
    have HD := Lib.hid hd
    have hd2 : d ≤ 1000000 := by omega
    clear hm hK ih hd
    have hB := (Below.refl w.heap.size w).alloc (Nat.le_refl _) (.cells #[.int .i64 a.k, .int .i64 a.w, .int .i64 a.c, .int .i64 a.s, .slice p m cap] 24)
    have hQ := Blk.new w 24 #[.int .i64 a.k, .int .i64 a.w, .int .i64 a.c, .int .i64 a.s, .slice p m cap]
    by_cases h1 : (0 : Int) < d ∧ (m : Int) = 1
    · have HR : Hid (r = true) := by rw [hr, decide_eq_true (by omega), decide_eq_true (by omega)]; rfl
      obtain ⟨h2, h3⟩ := h1
      clear hr hQ
      go_enter Try.func45, Try.ntmps45
      go_wp2_with fail
      go_ret
      exact ⟨ret_bool HR.out.symm, hB⟩
    have HR : Hid (r = singleL ks (d + 1)) := by
      rw [hr]
      have : (decide (0 < d) && decide (m = 1)) = false := by
        rw [Bool.and_eq_false_iff, decide_eq_false_iff_not, decide_eq_false_iff_not]; omega
      rw [this]; rfl
    have hcase : (¬ (0 : Int) < d) ∨ ((0 : Int) < d ∧ ((m : Int) == 1) = false) := by
      by_cases h0 : (0 : Int) < d
      · exact .inr ⟨h0, by rw [beq_eq_false_iff_ne]; omega⟩
      · exact .inl h0
    clear hr h1
    rcases hcase with hz | ⟨hz, hz'⟩
    all_goals
      go_enter Try.func45, Try.ntmps45
      go_wp2_with fail
      go_loopw [5] (fun z wr => ∃ i : Nat, i ≤ m ∧ z = .int .i64 i ∧ Below w.heap.size w wr ∧ Blk wr w.heap.size 24 #[.int .i64 a.k, .int .i64 a.w, .int .i64 a.c, .int .i64 a.s, .slice p m cap] ∧ Asd (singleL (ks.take i) (d + 1) = false)) (fun z _ => m - (intOf z).toNat)
      case atStart => exact ⟨0, Nat.zero_le _, rfl, hB, hQ, rfl⟩
      case round =>
        obtain ⟨k, hk, rfl, hW, hq, hs0⟩ := hrel
        have HSo := Lib.hid (show singleL (ks.take k) (d + 1) = false from hs0)
        clear hs0
        by_cases hlt : k < m
        · obtain ⟨x, hx⟩ : ∃ x, ks[k]? = some x := ⟨_, List.getElem?_eq_getElem (by rw [← HM.out]; exact hlt)⟩
          have hK1 := HK.out.same (Z' := Z) (w' := wr) (fun _ h => h) hW.size fun b _ hl => hW.block b hl
          obtain ⟨-, b, o, s', rfl, -, hb1, -, hk1, c0, c1, c2, c3, c4⟩ := hK1.kid hx
          have HI := Lib.hid (IH.out x (List.mem_of_getElem? hx) s' (d + 1) wr hk1 (by have := htL_le hx; have := HD.out; omega))
          have HE := Lib.hid (singleL_snoc hx (d + 1))
          rw [HSo.out, Bool.false_or] at HE
          clear hK1 hk1 hx
          obtain ⟨q4, qf⟩ : wr.cell? ⟨w.heap.size, 4, none⟩ = some (.slice (some ⟨b, o, none⟩) m cap) ∧ wr.frozen? ⟨w.heap.size, 4, none⟩ = false := ⟨hq.at_ (i := 4) rfl, hq.frozen 4⟩
          obtain ⟨y, hy⟩ : ∃ y, y = singleC x (d + 1) := ⟨_, rfl⟩
          rw [← hy] at HI HE
          clear hy
          have HI2 : Hid (Calls Try.prog 45 #[conV x.a s', .int .i64 ((d : Int) + 1)] wr fun e w' => e = .returned (.bool y) ∧ Below wr.heap.size wr w') := HI.out
          cases y
          · go_wp2_with fail
            refine HI2.out.mono ?_
            rintro e w1 ⟨rfl, hb⟩
            have hW1 := hW.trans (hb.mono hW.size)
            have hq1 := hq.next hb
            clear hb hW hq c0 c1 c2 c3 c4 q4 qf HI
            go_wp2_with fail
            go_roundw
            case rel =>
              first
              | exact ⟨k + 1, by omega, by go_num, hW1, hq1, HE.out⟩
              | exact ⟨_, _, _, _, _, _, _, _, _, _, _, _, _, _, _, _, _, ⟨k + 1, by omega, by go_num, hW1, hq1, HE.out⟩, rfl⟩
            case measure => simp [intOf]; omega
          · have HR2 : Hid (r = true) := by rw [HR.out]; exact singleL_past HE.out
            go_wp2_with fail
            refine HI2.out.mono ?_
            rintro e w1 ⟨rfl, hb⟩
            have hW1 := hW.trans (hb.mono hW.size)
            clear hb hW hq c0 c1 c2 c3 c4 q4 qf HI
            go_wp2_with fail
            go_ret
            exact ⟨ret_bool HR2.out.symm, hW1⟩
        · have HR2 : Hid (r = false) := by
            have h := HSo.out
            rw [List.take_of_length_le (by have := HM.out; omega)] at h
            exact HR.out.trans h
          obtain ⟨q4, qf⟩ : wr.cell? ⟨w.heap.size, 4, none⟩ = some (.slice p m cap) ∧ wr.frozen? ⟨w.heap.size, 4, none⟩ = false := ⟨hq.at_ (i := 4) rfl, hq.frozen 4⟩
          clear hq
          go_wp2_with fail
          go_ret
          exact ⟨ret_bool HR2.out.symm, hW⟩
end Go.Proofs.Ytjeabkcbaielhaa.Co
