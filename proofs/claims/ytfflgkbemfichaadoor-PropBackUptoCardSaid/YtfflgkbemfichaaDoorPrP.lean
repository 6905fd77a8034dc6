/- PropNumbers, PropWords, walked. -/
import Derived.Test.YtfflgkbemfichaaDoorPrF
namespace Go.Proofs.YtfflgkbemfichaaDoor
open Go.RowKit Go.Maps
theorem numbers_both (s : ByteArray) (hs : s.size ≤ 1048576) : ∃ zs ok, zs.length ≤ 1048576 ∧
    (∀ W, Calls Tryd.prog 24 #[.string s] W fun e w' => ∃ v, e = .returned (.tuple #[v, .bool ok]) ∧ Rd w' v (ints zs) ∧ Below W.heap.size W w') ∧
    (∀ W, Calls Tryd.prog 25 #[.string s] W fun e w' => ∃ v, e = .returned (.tuple #[v, .bool ok]) ∧ Rd w' v (ints zs) ∧ Below W.heap.size W w') ∧
    (ok = true ∧ zs = numsL s ∧ s.size % 4 = 0 ∨ ok = false ∧ zs = []) := by
  by_cases h : s.size % 4 = 0
  · exact ⟨numsL s, true, by rw [numsL_len]; omega, fun W => numbers_yes s W (by omega) h, fun W => rnumbers_yes s W hs h, .inl ⟨rfl, rfl, h⟩⟩
  · exact ⟨[], false, by simp, fun W => (numbers_no s W hs h).mono fun e w' hh => ⟨_, hh.1, Rd.nil _, hh.2⟩, fun W => (rnumbers_no s W hs h).mono fun e w' hh => ⟨_, hh.1, Rd.nil _, hh.2⟩, .inr ⟨rfl, rfl⟩⟩
set_option maxRecDepth 100000 in
set_option maxHeartbeats 2000000 in
theorem pnumbers_t (s : ByteArray) (v : Value) (xs : List Int) (w : World) (hm : MaxL w) (hs : s.size ≤ 1048576) (hx : Rd w v (ints xs)) (hl : xs.length ≤ 1048576) : Calls Tryd.prog 4 #[.string s, v] w fun e w' => e = .returned (.bool true) ∧ Below w.heap.size w w' := by
  obtain ⟨zs, ok, hz, hc, hr, -⟩ := numbers_both s hs
  have HC := Lib.hid hc
  have HR := Lib.hid hr
  have HI := Lib.hid (fun W va vb (ha : Rd W va (ints zs)) (hb : Rd W vb (ints zs)) => (show Calls Tryd.prog 26 #[va, vb] W fun e w' => e = .returned (.bool true) ∧ Below W.heap.size W w' from by
    have h := ints_c va vb _ _ W ha hb hz hz
    rw [show decide (zs = zs) = true by simp] at h
    exact h))
  obtain ⟨txt0, htx⟩ : ∃ t, t = strOfNums (dataL xs) := ⟨_, rfl⟩
  have HD := Lib.hid (fun W (h : Rd W v (ints xs)) => data_c v xs W h hl)
  have HE := Lib.hid (fun W (h : Rd W v (ints xs)) => rdata_c v xs W h hl)
  rw [← htx] at HD HE
  have HX := Lib.hid hx
  have HM := Lib.hid hm
  have HA := Lib.hid (fun W (h : MaxL W) => awake_c W h)
  have e0 : (ok == ok) = true := by simp
  clear hz hc hr hx hl hs hm htx
  go_enter Tryd.func4, Tryd.ntmps4
  go_wp2_with (first
    | (go_at_call 24; go_loud ((with_reducible refine (HC.out _).mono ?_); rintro e w1 ⟨v1, rfl, hr1, hb1⟩; have HR1 := Lib.hid hr1; have HB1 := Lib.hid hb1; clear hr1 hb1))
    | (go_at_call 25; go_loud ((with_reducible refine (HR.out _).mono ?_); rintro e w2 ⟨v2, rfl, hr2, hb2⟩; have HR2 := Lib.hid hr2; have HR12 := Lib.hid (HR1.out.next hb2); have HB2 := Lib.hid (hb2.on HB1.out HB1.out.size); clear hr2 hb2))
    | (go_at_call 26; go_loud ((with_reducible refine (HI.out _ _ _ HR12.out HR2.out).mono ?_); rintro e w3 ⟨rfl, hb3⟩; have HB3 := Lib.hid (hb3.on HB2.out HB2.out.size); clear hb3))
    | (go_at_call 27; go_loud ((with_reducible refine (HD.out _ (HX.out.next HB3.out)).mono ?_); rintro e w4 ⟨rfl, hb4⟩; have HB4 := Lib.hid (hb4.on HB3.out HB3.out.size); clear hb4))
    | (go_at_call 28; go_loud ((with_reducible refine (HE.out _ (HX.out.next HB4.out)).mono ?_); rintro e w5 ⟨rfl, hb5⟩; have HB5 := Lib.hid (hb5.on HB4.out HB4.out.size); clear hb5))
    | (go_at_call 23; go_loud ((with_reducible refine (HA.out _ (HM.out.next HB5.out)).mono ?_); rintro e w6 ⟨rfl, hb6⟩; have HB6 := Lib.hid (hb6.on HB5.out HB5.out.size); clear hb6)))
  go_ret
  exact ⟨rfl, HB6.out⟩
set_option maxRecDepth 100000 in
set_option maxHeartbeats 2000000 in
theorem pwords_t (s : ByteArray) (w : World) (hm : MaxL w) (hs : s.size ≤ 1048576) : Calls Tryd.prog 5 #[.string s] w fun e w' => e = .returned (.bool true) ∧ Below w.heap.size w w' := by
  obtain ⟨ws, ok, hz, hc, hr⟩ : ∃ (ws : List ByteArray) (ok : Bool), ws.length ≤ 1048576 ∧
      (∀ W, MaxL W → Calls Tryd.prog 29 #[.string s] W fun e w' => ∃ v, e = .returned (.tuple #[v, .bool ok]) ∧ Rd w' v (strs ws) ∧ Below W.heap.size W w') ∧
      (∀ W, Calls Tryd.prog 30 #[.string s] W fun e w' => ∃ v, e = .returned (.tuple #[v, .bool ok]) ∧ Rd w' v (strs ws) ∧ Below W.heap.size W w') := by
    by_cases h : (cutAll s.data.toList).2 = []
    · refine ⟨(cutAll s.data.toList).1.map txt, true, by have := cut_len s.data.toList; rw [List.length_map]; rw [← Lib.size_eq] at this; omega, fun W hW => (words_c s W hs hW).mono fun e w' hh => ?_, fun W => (rwords_c s W hs).mono fun e w' hh => ?_⟩
      all_goals
        obtain ⟨h1, h2⟩ := hh
        rw [if_pos h] at h1
        obtain ⟨v, h3, h4⟩ := h1
        exact ⟨v, h3, h4, h2⟩
    · refine ⟨[], false, by simp, fun W hW => (words_c s W hs hW).mono fun e w' hh => ?_, fun W => (rwords_c s W hs).mono fun e w' hh => ?_⟩
      all_goals
        obtain ⟨h1, h2⟩ := hh
        rw [if_neg h] at h1
        exact ⟨_, h1, Rd.nil _, h2⟩
  have HC := Lib.hid hc
  have HR := Lib.hid hr
  have HI := Lib.hid (fun W va vb (ha : Rd W va (strs ws)) (hb : Rd W vb (strs ws)) => (show Calls Tryd.prog 31 #[va, vb] W fun e w' => e = .returned (.bool true) ∧ Below W.heap.size W w' from by
    have h := texts_c va vb _ _ W ha hb hz hz
    rw [show decide (ws = ws) = true by simp] at h
    exact h))
  have HM := Lib.hid hm
  have HA := Lib.hid (fun W (h : MaxL W) => awake_c W h)
  have e0 : (ok == ok) = true := by simp
  clear hz hc hr hs hm
  go_enter Tryd.func5, Tryd.ntmps5
  go_wp2_with (first
    | (go_at_call 29; go_loud ((with_reducible refine (HC.out _ HM.out).mono ?_); rintro e w1 ⟨v1, rfl, hr1, hb1⟩; have HR1 := Lib.hid hr1; have HB1 := Lib.hid hb1; clear hr1 hb1))
    | (go_at_call 30; go_loud ((with_reducible refine (HR.out _).mono ?_); rintro e w2 ⟨v2, rfl, hr2, hb2⟩; have HR2 := Lib.hid hr2; have HR12 := Lib.hid (HR1.out.next hb2); have HB2 := Lib.hid (hb2.on HB1.out HB1.out.size); clear hr2 hb2))
    | (go_at_call 31; go_loud ((with_reducible refine (HI.out _ _ _ HR12.out HR2.out).mono ?_); rintro e w3 ⟨rfl, hb3⟩; have HB3 := Lib.hid (hb3.on HB2.out HB2.out.size); clear hb3))
    | (go_at_call 23; go_loud ((with_reducible refine (HA.out _ (HM.out.next HB3.out)).mono ?_); rintro e w6 ⟨rfl, hb6⟩; have HB6 := Lib.hid (hb6.on HB3.out HB3.out.size); clear hb6)))
  go_ret
  exact ⟨rfl, HB6.out⟩
theorem pnumbers_u (s : ByteArray) (v : Value) (xs : List Int) (w : World) (hm : MaxL w) (hs : s.size ≤ 1048576) (hx : Rd w v (ints xs)) (hl : xs.length ≤ 1048576) (_ : ∀ n ∈ xs, (Lit.int .i64 n).wf = true) : Calls Tryd.prog 4 #[.string s, v] w fun e w' => e = .returned (.bool true) ∧ Below w.heap.size w w' := pnumbers_t s v xs w hm hs hx hl
end Go.Proofs.YtfflgkbemfichaaDoor
