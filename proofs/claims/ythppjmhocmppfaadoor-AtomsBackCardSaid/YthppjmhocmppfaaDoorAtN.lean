/- AtomsBack, walked. -/
import Derived.Test.YthppjmhocmppfaaDoorAtL
import Derived.Test.YthppjmhocmppfaaDoorOpen
import Derived.Laws.IdiomArrays
namespace Go.Proofs.YthppjmhocmppfaaDoor
open Go.RowKit Go.Maps Go.Shelf Go.Sort Go.Lib Go.WideShapes Go.ChangeShapes Go.ChangeAt
namespace At
section
variable {H : Type} {enc : TypeId × Value → H} {w : World}
theorem okWide_arr {t e : TypeId} {n b0 : Nat} {v : Value} (ht : Tryd.prog.underlying t = some (.array n e)) (h : Value.okWide Tryd.prog w .any b0 t v) : ∃ cs, v = .agg cs ∧ cs.size = Tryd.prog.cellsOf t := by
  simp only [Value.okWide, ht] at h
  obtain ⟨cs, h1, h2, _⟩ := h
  exact ⟨cs, h1, h2⟩
theorem cs_arr : Tryd.prog.cellsOf 40 = 4 := by kernel_rfl
theorem cs_i16 : Tryd.prog.cellsOf 39 = 1 := by kernel_rfl
theorem arr_of {b0 : Nat} {v : Value} {d : DataW H} {q : List MemPlace} (hv : Value.okWide Tryd.prog w .any b0 40 v) (h : DataW.Trod enc Tryd.prog w 0 (fun _ => true) true 40 v d q) :
    ∃ a b c d, v = .agg #[.int .i16 a, .int .i16 b, .int .i16 c, .int .i16 d] ∧ ((Lit.int .i16 a).wf = true ∧ (Lit.int .i16 b).wf = true ∧ (Lit.int .i16 c).wf = true ∧ (Lit.int .i16 d).wf = true) := by
  obtain ⟨⟨l⟩, rfl, hsz⟩ := okWide_arr Tryd.underlying40 hv
  obtain ⟨fuel, h⟩ := h
  match l, hsz.trans cs_arr with
  | [c0, c1, c2, c3], _ =>
    obtain ⟨y0, y1, y2, y3, n, _, k0, k1, k2, k3⟩ := trod_array4 Tryd.underlying40 cs_i16 (by simpa [Value.cells] using h)
    obtain ⟨z0, q0, _, w0⟩ := DataW.trod_int Tryd.underlying39 k0
    obtain ⟨z1, q1, _, w1⟩ := DataW.trod_int Tryd.underlying39 k1
    obtain ⟨z2, q2, _, w2⟩ := DataW.trod_int Tryd.underlying39 k2
    obtain ⟨z3, q3, _, w3⟩ := DataW.trod_int Tryd.underlying39 k3
    simp only [List.cons.injEq, and_true] at q0 q1 q2 q3
    subst q0 q1 q2 q3
    exact ⟨z0, z1, z2, z3, rfl, w0, w1, w2, w3⟩
end
theorem i16_b {x : Int} (h : (Lit.int .i16 x).wf = true) : -32768 ≤ x ∧ x ≤ 32767 := by
  simp [Lit.wf] at h
  have h1 : IntKind.min .i16 = -32768 := rfl
  have h2 : IntKind.max .i16 = 32767 := rfl
  omega
theorem i32_b {x : Int} (h : (Lit.int .i32 x).wf = true) : -2147483648 ≤ x ∧ x ≤ 2147483647 := by
  simp [Lit.wf] at h
  have h1 : IntKind.min .i32 = -2147483648 := rfl
  have h2 : IntKind.max .i32 = 2147483647 := rfl
  omega
set_option maxRecDepth 100000 in
set_option maxHeartbeats 4000000 in
theorem back_w (o a b c d : Int) (w : World) (hm : MaxL w) (ho : (Lit.int .i32 o).wf = true) (hs : (Lit.int .i16 a).wf = true ∧ (Lit.int .i16 b).wf = true ∧ (Lit.int .i16 c).wf = true ∧ (Lit.int .i16 d).wf = true) :
    Calls Tryd.prog 9 #[.int .i32 o, .agg #[.int .i16 a, .int .i16 b, .int .i16 c, .int .i16 d]] w fun e w' => e = .returned (.bool true) ∧ Below w.heap.size w w' := by
  have hob := i32_b ho
  have hab := i16_b hs.1
  have hbb := i16_b hs.2.1
  have hcb := i16_b hs.2.2.1
  have hdb := i16_b hs.2.2.2
  obtain ⟨sO, hsO⟩ : ∃ s, strOfNums (dataL [o]) = s := ⟨_, rfl⟩
  obtain ⟨sR, hsR⟩ : ∃ s, strOfNums (dataL [a, b, c, d]) = s := ⟨_, rfl⟩
  have hnO : NL sO = [o] := by
    rw [← hsO]
    refine NL_data fun y hy => ?_
    simp at hy
    subst hy
    omega
  have hnR : NL sR = [a, b, c, d] := by
    rw [← hsR]
    refine NL_data fun y hy => ?_
    simp at hy
    rcases hy with rfl | rfl | rfl | rfl <;> omega
  have hzO : sO.size ≤ 1048576 := by rw [← hsO, data_size]; simp
  have hzR : sR.size ≤ 1048576 := by rw [← hsR, data_size]; simp
  have HD1 := Lib.hid (fun (va : Value) (W : World) (h : Rd W va (ints [o])) => data_c va [o] W h (by simp))
  have HD2 := Lib.hid (fun (va : Value) (W : World) (h : Rd W va (ints [a, b, c, d])) => data_c va [a, b, c, d] W h (by simp))
  rw [hsO] at HD1
  rw [hsR] at HD2
  have HT := Lib.hid (fun W : World => transient_c sO W hzO)
  have HS := Lib.hid (fun W : World => strut_c sR W hzR)
  rw [hnO] at HT
  rw [hnR] at HS
  have HA := Lib.hid (fun (W : World) (h : MaxL W) => awake_c W h)
  have HM := Lib.hid hm
  have f0 : IntKind.i64.wrap o = o := IntWalk.i64_in _ (by omega)
  have f1 : IntKind.i64.wrap a = a := IntWalk.i64_in _ (by omega)
  have f2 : IntKind.i64.wrap b = b := IntWalk.i64_in _ (by omega)
  have f3 : IntKind.i64.wrap c = c := IntWalk.i64_in _ (by omega)
  have f4 : IntKind.i64.wrap d = d := IntWalk.i64_in _ (by omega)
  clear hm ho hs hsO hsR hnO hnR hzO hzR
  have hcas : a < 0 ∨ (¬ a < 0 ∧ b < 0) ∨ (¬ a < 0 ∧ ¬ b < 0 ∧ c < 0) ∨ (¬ a < 0 ∧ ¬ b < 0 ∧ ¬ c < 0 ∧ d < 0) ∨ (¬ a < 0 ∧ ¬ b < 0 ∧ ¬ c < 0 ∧ ¬ d < 0) := by omega
  have hsg : (strOk [a, b, c, d] = false ∧ (a < 0 ∨ b < 0 ∨ c < 0 ∨ d < 0)) ∨ (strOk [a, b, c, d] = true ∧ 0 ≤ a ∧ 0 ≤ b ∧ 0 ≤ c ∧ 0 ≤ d) := by
    rw [strOk_eq a b c d (.inl rfl)]
    have ex : ∀ x : Int, x ≤ 32767 → okS x = decide (0 ≤ x) := fun x hx => by unfold okS; rw [decide_eq_true hx, Bool.and_true]
    rw [ex a hab.2, ex b hbb.2, ex c hcb.2, ex d hdb.2]
    by_cases h : 0 ≤ a ∧ 0 ≤ b ∧ 0 ≤ c ∧ 0 ≤ d
    · right; rw [decide_eq_true h.1, decide_eq_true h.2.1, decide_eq_true h.2.2.1, decide_eq_true h.2.2.2]; exact ⟨rfl, h⟩
    · left
      refine ⟨?_, by omega⟩
      rw [Bool.eq_false_iff]
      intro hh
      simp only [Bool.and_eq_true, decide_eq_true_eq] at hh
      exact h ⟨hh.1.1.1, hh.1.1.2, hh.1.2, hh.2⟩
  have HSG := Lib.hid hsg
  have e5 : (a == a) = true := by simp
  have e6 : (b == b) = true := by simp
  have e7 : (c == c) = true := by simp
  have e8 : (d == d) = true := by simp
  have e9 : (o == o) = true := by simp
  have HCAS := Lib.hid hcas
  clear hsg hcas
  go_enter Tryd.func9, Tryd.ntmps9
  go_upto_region 1 with fail
  have B0 := Blk.new w 40 #[.int .i16 a, .int .i16 b, .int .i16 c, .int .i16 d]
  have W0 : Below w.heap.size w (w.alloc (.cells #[.int .i16 a, .int .i16 b, .int .i16 c, .int .i16 d] 40)) := (Below.refl _ _).alloc (Nat.le_refl _) _
  generalize w.alloc (.cells #[.int .i16 a, .int .i16 b, .int .i16 c, .int .i16 d] 40) = w0 at *
  have hR1 : Rd (w0.alloc (.cells #[.int .i64 o] 3)) (.slice (some ⟨w0.heap.size, 0, none⟩) 1 1) (ints [o]) := rd_blk (zs := [o]) (Blk.new w0 3 #[.int .i64 o]) rfl
  have B1 := B0.alloc (.cells #[.int .i64 o] 3)
  have W1 : Below w.heap.size w (w0.alloc (.cells #[.int .i64 o] 3)) := W0.alloc W0.size _
  clear B0
  obtain ⟨tt, htt⟩ : ∃ x, trL [o] = x := ⟨_, rfl⟩
  have HTT := Lib.hid htt
  rw [htt] at HT
  obtain ⟨kk, hkk⟩ : ∃ x, decide (0 < tt) = x := ⟨_, rfl⟩
  have HKK := Lib.hid hkk
  rw [hkk] at HT
  clear htt hkk
  go_upto_region 2 with (first | (go_at_call 26; ((with_reducible refine (HD1.out _ _ hR1).mono ?_); rintro e w1 ⟨rfl, hb1⟩); skip) | (go_at_call 10; ((with_reducible refine (HT.out _).mono ?_); rintro e w2 ⟨rfl, hb2⟩); skip))
  have B2 := (B1.next hb1).next hb2
  have W2 := (hb2.on (hb1.on W1 W1.size) (hb1.on W1 W1.size).size)
  clear hb1 hb2 B1 W1 W0 hR1 HD1 HT
  go_cut [30] (fun v wx => v = .bool false ∧ wx = w2)
  case first =>
    by_cases h1 : o < 1
    · have h2 : tt = 0 := by rw [← HTT.out]; exact if_pos h1
      subst h2
      have h4 := HKK.out
      clear HKK
      rw [show decide ((0 : Int) < 0) = false from rfl] at h4
      subst h4
      have h3 : ¬ (0 : Int) < o := by omega
      go_wp2_with fail
      go_meet
      exact ⟨rfl, rfl⟩
    · have h2 : o = tt := by rw [← HTT.out]; exact (if_neg h1).symm
      subst h2
      have h3 : (0 : Int) < o := by omega
      have h4 := HKK.out
      clear HKK
      rw [decide_eq_true h3] at h4
      subst h4
      go_wp2_with fail
      go_meet
      exact ⟨by simp, rfl⟩
  case rest =>
    obtain ⟨rfl, rfl⟩ := hcut
    obtain ⟨w2, hw2⟩ : ∃ w2, w2 = wc := ⟨_, rfl⟩
    subst hw2
    have c0 := B2.at_ (i := 0) (v := .int .i16 a) rfl
    have c1 := B2.at_ (i := 1) (v := .int .i16 b) rfl
    have c2 := B2.at_ (i := 2) (v := .int .i16 c) rfl
    have c3 := B2.at_ (i := 3) (v := .int .i16 d) rfl
    have hR2 : Rd (w2.alloc (.cells #[.int .i64 a, .int .i64 b, .int .i64 c, .int .i64 d] 3)) (.slice (some ⟨w2.heap.size, 0, none⟩) 4 4) (ints [a, b, c, d]) := rd_blk (zs := [a, b, c, d]) (Blk.new w2 3 #[.int .i64 a, .int .i64 b, .int .i64 c, .int .i64 d]) rfl
    have B3 := B2.alloc (.cells #[.int .i64 a, .int .i64 b, .int .i64 c, .int .i64 d] 3)
    have W3 : Below w.heap.size w (w2.alloc (.cells #[.int .i64 a, .int .i64 b, .int .i64 c, .int .i64 d] 3)) := W2.alloc W2.size _
    clear HTT HKK
    rcases HCAS.out with h0 | h0 | h0 | h0 | h0
    · have hk : strOk [a, b, c, d] = false := by rcases HSG.out with h | h; exact h.1; omega
      have hv : strL [a, b, c, d] = .agg #[.string ⟨#[]⟩, .int .i64 0, .int .i64 0, .int .i64 0, .int .i64 0] := by exact strL_no hk
      rw [hk, hv] at HS
      clear hk hv HSG HCAS
      have n0 : ¬ 0 ≤ a := by omega
      clear h0
      go_upto_region 5 with (first | (go_at_call 26; ((with_reducible refine (HD2.out _ _ hR2).mono ?_); rintro e w3 ⟨rfl, hb3⟩); skip) | (go_at_call 22; ((with_reducible refine (HS.out _).mono ?_); rintro e w4 ⟨rfl, hb4⟩); skip))
      have B4 := (B3.next hb3).next hb4
      have W4 := (hb4.on (hb3.on W3 W3.size) (hb3.on W3 W3.size).size)
      have B5 := B4.alloc (.cells (stC 0 0 0 0) 34)
      have T5 : TB (w4.alloc (.cells (stC 0 0 0 0) 34)) w4.heap.size 0 0 0 0 := Blk.new _ _ _
      have W5 : Below w.heap.size w (w4.alloc (.cells (stC 0 0 0 0) 34)) := W4.alloc W4.size _
      clear hb3 hb4 B2 B3 W2 W3 B4 W4 hR2 HD2 HS c0 c1 c2 c3
      generalize w4.alloc (.cells (stC 0 0 0 0) 34) = w5 at *
      generalize w4.heap.size = g5 at *
      have c0 := B5.at_ (i := 0) (v := .int .i16 a) rfl
      have c1 := B5.at_ (i := 1) (v := .int .i16 b) rfl
      have c2 := B5.at_ (i := 2) (v := .int .i16 c) rfl
      have c3 := B5.at_ (i := 3) (v := .int .i16 d) rfl
      obtain ⟨⟨k0, k1, k2, k3, k4⟩, -⟩ := T5.out
      clear B5 T5
      have hmm := HM.out.next W5
      go_wp2_with (go_at_call 12; go_loud ((with_reducible refine (HA.out _ hmm).mono ?_); rintro e w6 ⟨rfl, hb6⟩; have B6 := hb6.on W5 W5.size))
      go_ret
      exact ⟨rfl, B6⟩
    · have hk : strOk [a, b, c, d] = false := by rcases HSG.out with h | h; exact h.1; omega
      have hv : strL [a, b, c, d] = .agg #[.string ⟨#[]⟩, .int .i64 0, .int .i64 0, .int .i64 0, .int .i64 0] := by exact strL_no hk
      rw [hk, hv] at HS
      clear hk hv HSG HCAS
      have n0 : 0 ≤ a := by omega
      have n1 : ¬ 0 ≤ b := by omega
      clear h0
      go_upto_region 5 with (first | (go_at_call 26; ((with_reducible refine (HD2.out _ _ hR2).mono ?_); rintro e w3 ⟨rfl, hb3⟩); skip) | (go_at_call 22; ((with_reducible refine (HS.out _).mono ?_); rintro e w4 ⟨rfl, hb4⟩); skip))
      have B4 := (B3.next hb3).next hb4
      have W4 := (hb4.on (hb3.on W3 W3.size) (hb3.on W3 W3.size).size)
      have B5 := B4.alloc (.cells (stC 0 0 0 0) 34)
      have T5 : TB (w4.alloc (.cells (stC 0 0 0 0) 34)) w4.heap.size 0 0 0 0 := Blk.new _ _ _
      have W5 : Below w.heap.size w (w4.alloc (.cells (stC 0 0 0 0) 34)) := W4.alloc W4.size _
      clear hb3 hb4 B2 B3 W2 W3 B4 W4 hR2 HD2 HS c0 c1 c2 c3
      generalize w4.alloc (.cells (stC 0 0 0 0) 34) = w5 at *
      generalize w4.heap.size = g5 at *
      have c0 := B5.at_ (i := 0) (v := .int .i16 a) rfl
      have c1 := B5.at_ (i := 1) (v := .int .i16 b) rfl
      have c2 := B5.at_ (i := 2) (v := .int .i16 c) rfl
      have c3 := B5.at_ (i := 3) (v := .int .i16 d) rfl
      obtain ⟨⟨k0, k1, k2, k3, k4⟩, -⟩ := T5.out
      clear B5 T5
      have hmm := HM.out.next W5
      go_wp2_with (go_at_call 12; go_loud ((with_reducible refine (HA.out _ hmm).mono ?_); rintro e w6 ⟨rfl, hb6⟩; have B6 := hb6.on W5 W5.size))
      go_ret
      exact ⟨rfl, B6⟩
    · have hk : strOk [a, b, c, d] = false := by rcases HSG.out with h | h; exact h.1; omega
      have hv : strL [a, b, c, d] = .agg #[.string ⟨#[]⟩, .int .i64 0, .int .i64 0, .int .i64 0, .int .i64 0] := by exact strL_no hk
      rw [hk, hv] at HS
      clear hk hv HSG HCAS
      have n0 : 0 ≤ a := by omega
      have n1 : 0 ≤ b := by omega
      have n2 : ¬ 0 ≤ c := by omega
      clear h0
      go_upto_region 5 with (first | (go_at_call 26; ((with_reducible refine (HD2.out _ _ hR2).mono ?_); rintro e w3 ⟨rfl, hb3⟩); skip) | (go_at_call 22; ((with_reducible refine (HS.out _).mono ?_); rintro e w4 ⟨rfl, hb4⟩); skip))
      have B4 := (B3.next hb3).next hb4
      have W4 := (hb4.on (hb3.on W3 W3.size) (hb3.on W3 W3.size).size)
      have B5 := B4.alloc (.cells (stC 0 0 0 0) 34)
      have T5 : TB (w4.alloc (.cells (stC 0 0 0 0) 34)) w4.heap.size 0 0 0 0 := Blk.new _ _ _
      have W5 : Below w.heap.size w (w4.alloc (.cells (stC 0 0 0 0) 34)) := W4.alloc W4.size _
      clear hb3 hb4 B2 B3 W2 W3 B4 W4 hR2 HD2 HS c0 c1 c2 c3
      generalize w4.alloc (.cells (stC 0 0 0 0) 34) = w5 at *
      generalize w4.heap.size = g5 at *
      have c0 := B5.at_ (i := 0) (v := .int .i16 a) rfl
      have c1 := B5.at_ (i := 1) (v := .int .i16 b) rfl
      have c2 := B5.at_ (i := 2) (v := .int .i16 c) rfl
      have c3 := B5.at_ (i := 3) (v := .int .i16 d) rfl
      obtain ⟨⟨k0, k1, k2, k3, k4⟩, -⟩ := T5.out
      clear B5 T5
      have hmm := HM.out.next W5
      go_wp2_with (go_at_call 12; go_loud ((with_reducible refine (HA.out _ hmm).mono ?_); rintro e w6 ⟨rfl, hb6⟩; have B6 := hb6.on W5 W5.size))
      go_ret
      exact ⟨rfl, B6⟩
    · have hk : strOk [a, b, c, d] = false := by rcases HSG.out with h | h; exact h.1; omega
      have hv : strL [a, b, c, d] = .agg #[.string ⟨#[]⟩, .int .i64 0, .int .i64 0, .int .i64 0, .int .i64 0] := by exact strL_no hk
      rw [hk, hv] at HS
      clear hk hv HSG HCAS
      have n0 : 0 ≤ a := by omega
      have n1 : 0 ≤ b := by omega
      have n2 : 0 ≤ c := by omega
      have n3 : ¬ 0 ≤ d := by omega
      clear h0
      go_upto_region 5 with (first | (go_at_call 26; ((with_reducible refine (HD2.out _ _ hR2).mono ?_); rintro e w3 ⟨rfl, hb3⟩); skip) | (go_at_call 22; ((with_reducible refine (HS.out _).mono ?_); rintro e w4 ⟨rfl, hb4⟩); skip))
      have B4 := (B3.next hb3).next hb4
      have W4 := (hb4.on (hb3.on W3 W3.size) (hb3.on W3 W3.size).size)
      have B5 := B4.alloc (.cells (stC 0 0 0 0) 34)
      have T5 : TB (w4.alloc (.cells (stC 0 0 0 0) 34)) w4.heap.size 0 0 0 0 := Blk.new _ _ _
      have W5 : Below w.heap.size w (w4.alloc (.cells (stC 0 0 0 0) 34)) := W4.alloc W4.size _
      clear hb3 hb4 B2 B3 W2 W3 B4 W4 hR2 HD2 HS c0 c1 c2 c3
      generalize w4.alloc (.cells (stC 0 0 0 0) 34) = w5 at *
      generalize w4.heap.size = g5 at *
      have c0 := B5.at_ (i := 0) (v := .int .i16 a) rfl
      have c1 := B5.at_ (i := 1) (v := .int .i16 b) rfl
      have c2 := B5.at_ (i := 2) (v := .int .i16 c) rfl
      have c3 := B5.at_ (i := 3) (v := .int .i16 d) rfl
      obtain ⟨⟨k0, k1, k2, k3, k4⟩, -⟩ := T5.out
      clear B5 T5
      have hmm := HM.out.next W5
      go_wp2_with (go_at_call 12; go_loud ((with_reducible refine (HA.out _ hmm).mono ?_); rintro e w6 ⟨rfl, hb6⟩; have B6 := hb6.on W5 W5.size))
      go_ret
      exact ⟨rfl, B6⟩
    · have hk : strOk [a, b, c, d] = true := by rcases HSG.out with h | h; omega; exact h.1
      have hv : strL [a, b, c, d] = .agg #[.string ⟨#[]⟩, .int .i64 a, .int .i64 b, .int .i64 c, .int .i64 d] := by exact strL_yes hk
      rw [hk, hv] at HS
      clear hk hv HSG HCAS
      have n0 : 0 ≤ a := by omega
      have n1 : 0 ≤ b := by omega
      have n2 : 0 ≤ c := by omega
      have n3 : 0 ≤ d := by omega
      clear h0
      go_upto_region 5 with (first | (go_at_call 26; ((with_reducible refine (HD2.out _ _ hR2).mono ?_); rintro e w3 ⟨rfl, hb3⟩); skip) | (go_at_call 22; ((with_reducible refine (HS.out _).mono ?_); rintro e w4 ⟨rfl, hb4⟩); skip))
      have B4 := (B3.next hb3).next hb4
      have W4 := (hb4.on (hb3.on W3 W3.size) (hb3.on W3 W3.size).size)
      have B5 := B4.alloc (.cells (stC a b c d) 34)
      have T5 : TB (w4.alloc (.cells (stC a b c d) 34)) w4.heap.size a b c d := Blk.new _ _ _
      have W5 : Below w.heap.size w (w4.alloc (.cells (stC a b c d) 34)) := W4.alloc W4.size _
      clear hb3 hb4 B2 B3 W2 W3 B4 W4 hR2 HD2 HS c0 c1 c2 c3
      generalize w4.alloc (.cells (stC a b c d) 34) = w5 at *
      generalize w4.heap.size = g5 at *
      have c0 := B5.at_ (i := 0) (v := .int .i16 a) rfl
      have c1 := B5.at_ (i := 1) (v := .int .i16 b) rfl
      have c2 := B5.at_ (i := 2) (v := .int .i16 c) rfl
      have c3 := B5.at_ (i := 3) (v := .int .i16 d) rfl
      obtain ⟨⟨k0, k1, k2, k3, k4⟩, -⟩ := T5.out
      clear B5 T5
      have hmm := HM.out.next W5
      go_wp2_with (go_at_call 12; go_loud ((with_reducible refine (HA.out _ hmm).mono ?_); rintro e w6 ⟨rfl, hb6⟩; have B6 := hb6.on W5 W5.size))
      go_ret
      exact ⟨rfl, B6⟩
end At
end Go.Proofs.YthppjmhocmppfaaDoor
