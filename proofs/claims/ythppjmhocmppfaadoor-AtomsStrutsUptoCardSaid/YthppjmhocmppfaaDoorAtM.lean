/- The laws of atoms of one text, walked. -/
import Derived.Test.YthppjmhocmppfaaDoorAtL
namespace Go.Proofs.YthppjmhocmppfaaDoor
open Go.RowKit Go.Maps Go.Shelf Go.Sort Go.Lib
namespace At
theorem strL_shape (l : List Int) : ∃ a b c d, strL l = .agg #[.string ⟨#[]⟩, .int .i64 a, .int .i64 b, .int .i64 c, .int .i64 d] := by
  unfold strL
  split
  · split
    · exact ⟨_, _, _, _, rfl⟩
    · exact ⟨_, _, _, _, rfl⟩
  · exact ⟨_, _, _, _, rfl⟩
set_option maxRecDepth 100000 in
set_option maxHeartbeats 2000000 in
theorem owners_w (s : ByteArray) (w : World) (hm : MaxL w) (hs : s.size ≤ 1048576) : Calls Tryd.prog 3 #[.string s] w fun e w' => e = .returned (.bool true) ∧ Below w.heap.size w w' := by
  have H1 := Lib.hid (fun W : World => transient_c s W hs)
  have H2 := Lib.hid (fun W : World => rtransient_c s W hs)
  have HA := Lib.hid (fun (W : World) (h : MaxL W) => awake_c W h)
  have HM := Lib.hid hm
  generalize trL (NL s) = t at *
  have e0 : (t == t) = true := by simp
  have e1 : (decide (0 < t) == decide (0 < t)) = true := by simp
  clear hm hs
  go_enter Tryd.func3, Tryd.ntmps3
  go_wp2_with (first
    | (go_at_call 10; go_loud ((with_reducible refine (H1.out _).mono ?_); rintro e w1 ⟨rfl, hb1⟩))
    | (go_at_call 11; go_loud ((with_reducible refine (H2.out _).mono ?_); rintro e w2 ⟨rfl, hb2⟩; have B2 := hb2.on hb1 hb1.size))
    | (go_at_call 12; go_loud ((with_reducible refine (HA.out _ (HM.out.next B2)).mono ?_); rintro e w3 ⟨rfl, hb3⟩; have B3 := hb3.on B2 B2.size)))
  go_ret
  exact ⟨rfl, B3⟩
set_option maxRecDepth 100000 in
set_option maxHeartbeats 2000000 in
theorem wants_w (s : ByteArray) (w : World) (hm : MaxL w) (hs : s.size ≤ 1048576) : Calls Tryd.prog 4 #[.string s] w fun e w' => e = .returned (.bool true) ∧ Below w.heap.size w w' := by
  have H1 := Lib.hid (fun W : World => wants_c s W hs)
  have H2 := Lib.hid (fun W : World => rwants_c s W hs)
  have HA := Lib.hid (fun (W : World) (h : MaxL W) => awake_c W h)
  have HM := Lib.hid hm
  generalize wantA (NL s) = a at *
  generalize wantB (NL s) = b at *
  have e0 : (a == a) = true := by simp
  have e1 : (b == b) = true := by simp
  clear hm hs
  go_enter Tryd.func4, Tryd.ntmps4
  go_wp2_with (first
    | (go_at_call 13; go_loud ((with_reducible refine (H1.out _).mono ?_); rintro e w1 ⟨rfl, hb1⟩))
    | (go_at_call 14; go_loud ((with_reducible refine (H2.out _).mono ?_); rintro e w2 ⟨rfl, hb2⟩; have B2 := hb2.on hb1 hb1.size))
    | (go_at_call 12; go_loud ((with_reducible refine (HA.out _ (HM.out.next B2)).mono ?_); rintro e w3 ⟨rfl, hb3⟩; have B3 := hb3.on B2 B2.size)))
  go_ret
  exact ⟨rfl, B3⟩
set_option maxRecDepth 100000 in
set_option maxHeartbeats 2000000 in
theorem struts_w (s : ByteArray) (w : World) (hm : MaxL w) (hs : s.size ≤ 1048576) : Calls Tryd.prog 6 #[.string s] w fun e w' => e = .returned (.bool true) ∧ Below w.heap.size w w' := by
  have H1 := Lib.hid (fun W : World => strut_c s W hs)
  have H2 := Lib.hid (fun W : World => rstrut_c s W hs)
  have HA := Lib.hid (fun (W : World) (h : MaxL W) => awake_c W h)
  have HM := Lib.hid hm
  obtain ⟨a, b, c, d, hv⟩ := strL_shape (NL s)
  rw [hv] at H1 H2
  generalize strOk (NL s) = ok at *
  have e0 : (ok == ok) = true := by simp
  clear hm hs hv
  go_enter Tryd.func6, Tryd.ntmps6
  go_upto_region 2 with (go_at_call 22; ((with_reducible refine (H1.out _).mono ?_); rintro e w1 ⟨rfl, hb1⟩); skip)
  have T1 : TB (w1.alloc (.cells (stC a b c d) 34)) w1.heap.size a b c d := Blk.new _ _ _
  have W1 : Below w.heap.size w (w1.alloc (.cells (stC a b c d) 34)) := hb1.alloc hb1.size _
  clear hb1
  generalize w1.alloc (.cells (stC a b c d) 34) = w2 at *
  generalize w1.heap.size = g at *
  go_upto_region 3 with (go_at_call 23; ((with_reducible refine (H2.out _).mono ?_); rintro e w3 ⟨rfl, hb3⟩); skip)
  have T2 : TB (w3.alloc (.cells (stC a b c d) 34)) w3.heap.size a b c d := Blk.new _ _ _
  have W3 := hb3.on W1 W1.size
  have T3 := (T1.next hb3).next ((Below.refl _ _).alloc (Nat.le_refl _) (.cells (stC a b c d) 34))
  have W4 : Below w.heap.size w (w3.alloc (.cells (stC a b c d) 34)) := W3.alloc W3.size _
  clear hb3 T1 W1 W3
  generalize w3.alloc (.cells (stC a b c d) 34) = w4 at *
  generalize w3.heap.size = g2 at *
  obtain ⟨⟨k0, k1, k2, k3, k4⟩, -⟩ := T2.out
  obtain ⟨⟨j0, j1, j2, j3, j4⟩, -⟩ := T3.out
  clear T2 T3
  go_wp2_with (go_at_call 12; go_loud ((with_reducible refine (HA.out _ (HM.out.next W4)).mono ?_); rintro e w5 ⟨rfl, hb5⟩; have B5 := hb5.on W4 W4.size))
  go_ret
  exact ⟨rfl, B5⟩
set_option maxRecDepth 100000 in
set_option maxHeartbeats 2000000 in
theorem words_w (s : ByteArray) (w : World) (hm : MaxL w) (hs : s.size ≤ 1048576) : Calls Tryd.prog 5 #[.string s] w fun e w' => e = .returned (.bool true) ∧ Below w.heap.size w w' := by
  have HM := Lib.hid hm
  have H1 := Lib.hid (fun (W : World) (h : Below w.heap.size w W) => states_c s W hs (HM.out.next h))
  have H2 := Lib.hid (fun W : World => rstates_c s W hs)
  have H3 := Lib.hid (fun (W : World) (h : Below w.heap.size w W) => kind_c s W hs (HM.out.next h))
  have H4 := Lib.hid (fun W : World => rkind_c s W hs)
  have H5 := Lib.hid (fun (W : World) (h : Below w.heap.size w W) => protocols_c s W hs (HM.out.next h))
  have H6 := Lib.hid (fun W : World => rprotocols_c s W hs)
  have HA := Lib.hid (fun (W : World) (h : Below w.heap.size w W) => awake_c W (HM.out.next h))
  have HX := Lib.hid (fun (va vb : Value) (W : World) (ha : Rd W va (strs ((statesL (wordsL s)).map txt))) (hb : Rd W vb (strs ((statesL (wordsL s)).map txt))) => (show Calls Tryd.prog 15 #[va, vb] W fun e w' => e = .returned (.bool true) ∧ Below W.heap.size W w' from by
    have hl : ((statesL (wordsL s)).map txt).length ≤ 1048576 := by rw [List.length_map]; exact Nat.le_trans (states_len _) (by decide)
    have h := texts_c va vb _ _ W ha hb hl hl
    rw [decide_eq_true rfl] at h
    exact h))
  generalize decide (kDelete ∈ wordsL s) = pr at *
  obtain ⟨kd, hkd⟩ : ∃ k, txt (kindL (wordsL s)) = k := ⟨_, rfl⟩
  rw [hkd] at H3 H4
  have e0 : (pr == pr) = true := by simp
  have e1 : (kd.toList == kd.toList) = true := by simp
  generalize statesL (wordsL s) = L at *
  clear hm hs hkd
  go_enter Tryd.func5, Tryd.ntmps5
  go_wp2_with (first
    | (go_at_call 16; go_loud ((with_reducible refine (H1.out _ (Below.refl _ _)).mono ?_); rintro e w1 ⟨v1, rfl, hr1, hb1⟩; have HR1 := Lib.hid hr1.rd; have B1 := Lib.hid hb1; clear hr1 hb1))
    | (go_at_call 17; go_loud ((with_reducible refine (H2.out _).mono ?_); rintro e w2 ⟨v2, rfl, hr2, hb2⟩; have HR2 := Lib.hid hr2; have HR12 := Lib.hid (HR1.out.next hb2); have B2 := Lib.hid (hb2.on B1.out B1.out.size); clear hr2 hb2))
    | (go_at_call 15; go_loud ((with_reducible refine (HX.out _ _ _ HR12.out HR2.out).mono ?_); rintro e w3 ⟨rfl, hb3⟩; have B3 := Lib.hid (hb3.on B2.out B2.out.size); clear hb3))
    | (go_at_call 18; go_loud ((with_reducible refine (H3.out _ B3.out).mono ?_); rintro e w4 ⟨rfl, hb4⟩; have B4 := Lib.hid (hb4.on B3.out B3.out.size); clear hb4))
    | (go_at_call 19; go_loud ((with_reducible refine (H4.out _).mono ?_); rintro e w5 ⟨rfl, hb5⟩; have B5 := Lib.hid (hb5.on B4.out B4.out.size); clear hb5))
    | (go_at_call 20; go_loud ((with_reducible refine (H5.out _ B5.out).mono ?_); rintro e w6 ⟨rfl, hb6⟩; have B6 := Lib.hid (hb6.on B5.out B5.out.size); clear hb6))
    | (go_at_call 21; go_loud ((with_reducible refine (H6.out _).mono ?_); rintro e w7 ⟨rfl, hb7⟩; have B7 := Lib.hid (hb7.on B6.out B6.out.size); clear hb7))
    | (go_at_call 12; go_loud ((with_reducible refine (HA.out _ B7.out).mono ?_); rintro e w8 ⟨rfl, hb8⟩; have B8 := Lib.hid (hb8.on B7.out B7.out.size); clear hb8)))
  go_ret
  exact ⟨rfl, B8.out⟩
set_option maxRecDepth 100000 in
set_option maxHeartbeats 2000000 in
theorem titles_w (s : ByteArray) (w : World) (hm : MaxL w) (hs : s.size ≤ 140737488355328) : Calls Tryd.prog 7 #[.string s] w fun e w' => e = .returned (.bool true) ∧ Below w.heap.size w w' := by
  have HM := Lib.hid hm
  obtain ⟨t, ht⟩ : ∃ t, txt (titleL s.data.toList) = t := ⟨_, rfl⟩
  have htz : t.size ≤ 64 := by
    rw [← ht, Lib.size_eq]
    show (titleL s.data.toList).length ≤ 64
    rw [title_len]; omega
  have htt : txt (titleL t.data.toList) = t := by
    rw [← ht]
    show txt (titleL (titleL s.data.toList)) = _
    rw [title_title]
  have H1 := Lib.hid (fun W : World => title_c s W hs)
  have H2 := Lib.hid (fun W : World => rtitle_c s W hs)
  have H3 := Lib.hid (fun W : World => title_c t W (by omega))
  have HA := Lib.hid (fun (W : World) (h : Below w.heap.size w W) => awake_c W (HM.out.next h))
  rw [ht] at H1 H2
  rw [htt] at H3
  have e1 : (t.toList == t.toList) = true := by simp
  have e2 : (t.size : Int) ≤ 64 := by omega
  clear hm hs ht htt htz
  by_cases hst : s = t
  · subst hst
    clear H1
    go_enter Tryd.func7, Tryd.ntmps7
    go_upto_region 2 with (go_at_call 24; ((with_reducible refine (H3.out _).mono ?_); rintro e w1 ⟨rfl, hb1⟩); skip)
    go_wp2_with (first
      | (go_at_call 25; go_loud ((with_reducible refine (H2.out _).mono ?_); rintro e w2 ⟨rfl, rfl⟩))
      | (go_at_call 24; go_loud ((with_reducible refine (H3.out _).mono ?_); rintro e w3 ⟨rfl, hb3⟩; have B3 := hb3.on hb1 hb1.size))
      | (go_at_call 12; go_loud ((with_reducible refine (HA.out _ B3).mono ?_); rintro e w5 ⟨rfl, hb5⟩; have B5 := hb5.on B3 B3.size)))
    go_ret
    exact ⟨rfl, B5⟩
  · clear hst
    go_enter Tryd.func7, Tryd.ntmps7
    go_upto_region 2 with (go_at_call 24; ((with_reducible refine (H1.out _).mono ?_); rintro e w1 ⟨rfl, hb1⟩); skip)
    go_wp2_with (first
      | (go_at_call 25; go_loud ((with_reducible refine (H2.out _).mono ?_); rintro e w2 ⟨rfl, rfl⟩))
      | (go_at_call 24; go_loud ((with_reducible refine (H3.out _).mono ?_); rintro e w3 ⟨rfl, hb3⟩; have B3 := hb3.on hb1 hb1.size))
      | (go_at_call 12; go_loud ((with_reducible refine (HA.out _ B3).mono ?_); rintro e w5 ⟨rfl, hb5⟩; have B5 := hb5.on B3 B3.size)))
    go_ret
    exact ⟨rfl, B5⟩
end At
end Go.Proofs.YthppjmhocmppfaaDoor
