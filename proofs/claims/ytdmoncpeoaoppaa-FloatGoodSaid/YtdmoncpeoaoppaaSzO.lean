/- Hints as an argument, opened. -/
import Derived.Test.YtdmoncpeoaoppaaSzD
import Derived.Test.YtdmoncpeoaoppaaOpen
import Derived.Deep.Slices
import Derived.Deep.Fields
import Derived.SizedLaws
namespace Go.Proofs.Ytdmoncpeoaoppaa
open Go.RowKit Go.WideShapes Go.ChangeShapes Go.ChangeAt Go.Deep
namespace Sz
theorem cs_int : Try.prog.cellsOf 3 = 1 := by kernel_rfl
theorem cs_hints : Try.prog.cellsOf 25 = 12 := by kernel_rfl
section
variable { H : Type} {enc : TypeId × Value → H} {w : World}
theorem hints_of {b0 : Nat} {v : Value} {d : DataW H} {q : List MemPlace} (hv : Value.okWide Try.prog w .any b0 25 v) (h : DataW.Trod enc Try.prog w 0 (fun _ => true) true 25 v d q) : ∃ h : Hn, v = .agg #[.int .i64 h.minW, .int .i64 h.minH, .int .i64 h.maxW, .int .i64 h.maxH, .int .i64 h.baseW, .int .i64 h.baseH, .int .i64 h.incW, .int .i64 h.incH, .int .i64 h.lowX, .int .i64 h.lowY, .int .i64 h.highX, .int .i64 h.highY] := by
  obtain ⟨⟨l⟩, rfl, hsz⟩ := okWide_struct Try.underlying25 hv
  obtain ⟨fuel, h⟩ := h
  match l, hsz.trans cs_hints with
  | [c0, c1, c2, c3, c4, c5, c6, c7, c8, c9, c10, c11], _ =>
    obtain ⟨xs, n, _, hx, _, hlen, hg⟩ := DataW.trod_struct Try.underlying25 h
    obtain ⟨y0, e0⟩ : ∃ y, xs[0]? = some y := ⟨_, List.getElem?_eq_getElem (by rw [hlen]; decide)⟩
    have k0 : DataW.trod enc Try.prog w 0 (fun _ => true) true n 3 [c0] = some y0 := by
      have h := (hg 0 _ rfl).trans e0
      simpa [cs_int, Value.cells] using h
    obtain ⟨z0, q0, _, w0⟩ := DataW.trod_int Try.underlying3 k0
    obtain ⟨y1, e1⟩ : ∃ y, xs[1]? = some y := ⟨_, List.getElem?_eq_getElem (by rw [hlen]; decide)⟩
    have k1 : DataW.trod enc Try.prog w 0 (fun _ => true) true n 3 [c1] = some y1 := by
      have h := (hg 1 _ rfl).trans e1
      simpa [cs_int, Value.cells] using h
    obtain ⟨z1, q1, _, w1⟩ := DataW.trod_int Try.underlying3 k1
    obtain ⟨y2, e2⟩ : ∃ y, xs[2]? = some y := ⟨_, List.getElem?_eq_getElem (by rw [hlen]; decide)⟩
    have k2 : DataW.trod enc Try.prog w 0 (fun _ => true) true n 3 [c2] = some y2 := by
      have h := (hg 2 _ rfl).trans e2
      simpa [cs_int, Value.cells] using h
    obtain ⟨z2, q2, _, w2⟩ := DataW.trod_int Try.underlying3 k2
    obtain ⟨y3, e3⟩ : ∃ y, xs[3]? = some y := ⟨_, List.getElem?_eq_getElem (by rw [hlen]; decide)⟩
    have k3 : DataW.trod enc Try.prog w 0 (fun _ => true) true n 3 [c3] = some y3 := by
      have h := (hg 3 _ rfl).trans e3
      simpa [cs_int, Value.cells] using h
    obtain ⟨z3, q3, _, w3⟩ := DataW.trod_int Try.underlying3 k3
    obtain ⟨y4, e4⟩ : ∃ y, xs[4]? = some y := ⟨_, List.getElem?_eq_getElem (by rw [hlen]; decide)⟩
    have k4 : DataW.trod enc Try.prog w 0 (fun _ => true) true n 3 [c4] = some y4 := by
      have h := (hg 4 _ rfl).trans e4
      simpa [cs_int, Value.cells] using h
    obtain ⟨z4, q4, _, w4⟩ := DataW.trod_int Try.underlying3 k4
    obtain ⟨y5, e5⟩ : ∃ y, xs[5]? = some y := ⟨_, List.getElem?_eq_getElem (by rw [hlen]; decide)⟩
    have k5 : DataW.trod enc Try.prog w 0 (fun _ => true) true n 3 [c5] = some y5 := by
      have h := (hg 5 _ rfl).trans e5
      simpa [cs_int, Value.cells] using h
    obtain ⟨z5, q5, _, w5⟩ := DataW.trod_int Try.underlying3 k5
    obtain ⟨y6, e6⟩ : ∃ y, xs[6]? = some y := ⟨_, List.getElem?_eq_getElem (by rw [hlen]; decide)⟩
    have k6 : DataW.trod enc Try.prog w 0 (fun _ => true) true n 3 [c6] = some y6 := by
      have h := (hg 6 _ rfl).trans e6
      simpa [cs_int, Value.cells] using h
    obtain ⟨z6, q6, _, w6⟩ := DataW.trod_int Try.underlying3 k6
    obtain ⟨y7, e7⟩ : ∃ y, xs[7]? = some y := ⟨_, List.getElem?_eq_getElem (by rw [hlen]; decide)⟩
    have k7 : DataW.trod enc Try.prog w 0 (fun _ => true) true n 3 [c7] = some y7 := by
      have h := (hg 7 _ rfl).trans e7
      simpa [cs_int, Value.cells] using h
    obtain ⟨z7, q7, _, w7⟩ := DataW.trod_int Try.underlying3 k7
    obtain ⟨y8, e8⟩ : ∃ y, xs[8]? = some y := ⟨_, List.getElem?_eq_getElem (by rw [hlen]; decide)⟩
    have k8 : DataW.trod enc Try.prog w 0 (fun _ => true) true n 3 [c8] = some y8 := by
      have h := (hg 8 _ rfl).trans e8
      simpa [cs_int, Value.cells] using h
    obtain ⟨z8, q8, _, w8⟩ := DataW.trod_int Try.underlying3 k8
    obtain ⟨y9, e9⟩ : ∃ y, xs[9]? = some y := ⟨_, List.getElem?_eq_getElem (by rw [hlen]; decide)⟩
    have k9 : DataW.trod enc Try.prog w 0 (fun _ => true) true n 3 [c9] = some y9 := by
      have h := (hg 9 _ rfl).trans e9
      simpa [cs_int, Value.cells] using h
    obtain ⟨z9, q9, _, w9⟩ := DataW.trod_int Try.underlying3 k9
    obtain ⟨y10, e10⟩ : ∃ y, xs[10]? = some y := ⟨_, List.getElem?_eq_getElem (by rw [hlen]; decide)⟩
    have k10 : DataW.trod enc Try.prog w 0 (fun _ => true) true n 3 [c10] = some y10 := by
      have h := (hg 10 _ rfl).trans e10
      simpa [cs_int, Value.cells] using h
    obtain ⟨z10, q10, _, w10⟩ := DataW.trod_int Try.underlying3 k10
    obtain ⟨y11, e11⟩ : ∃ y, xs[11]? = some y := ⟨_, List.getElem?_eq_getElem (by rw [hlen]; decide)⟩
    have k11 : DataW.trod enc Try.prog w 0 (fun _ => true) true n 3 [c11] = some y11 := by
      have h := (hg 11 _ rfl).trans e11
      simpa [cs_int, Value.cells] using h
    obtain ⟨z11, q11, _, w11⟩ := DataW.trod_int Try.underlying3 k11
    simp only [List.cons.injEq, and_true] at q0 q1 q2 q3 q4 q5 q6 q7 q8 q9 q10 q11
    exact ⟨⟨z0, z1, z2, z3, z4, z5, z6, z7, z8, z9, z10, z11⟩, by rw [q0, q1, q2, q3, q4, q5, q6, q7, q8, q9, q10, q11]⟩
end
end Sz
end Go.Proofs.Ytdmoncpeoaoppaa
