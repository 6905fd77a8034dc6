/- Arguments opened: a rectangle, a style. -/
import Derived.Test.YtdmoncpeoaoppaaFlB
import Derived.Test.YtdmoncpeoaoppaaOpen
import Derived.Deep.Slices
import Derived.Deep.Fields
import Derived.SizedLaws
namespace Go.Proofs.Ytdmoncpeoaoppaa.Fl
open Go.RowKit Go.WideShapes Go.ChangeShapes Go.ChangeAt Go.Deep
theorem cs_int : Try.prog.cellsOf 3 = 1 := by kernel_rfl
theorem cs_rect : Try.prog.cellsOf 23 = 4 := by kernel_rfl
theorem cs_style : Try.prog.cellsOf 34 = 3 := by kernel_rfl
section
variable {H : Type} {enc : TypeId × Value → H} {w : World} {fuel : Nat} {x : DataW H × List MemPlace}
theorem open_rect {c0 c1 c2 c3 : Value} (h : DataW.trod enc Try.prog w 0 (fun _ => true) true fuel 23 [c0, c1, c2, c3] = some x) : ∃ x y a e : Int, c0 = .int .i64 x ∧ c1 = .int .i64 y ∧ c2 = .int .i64 a ∧ c3 = .int .i64 e := by
  obtain ⟨xs, n, _, hx, _, hlen, hg⟩ := DataW.trod_struct Try.underlying23 h
  obtain ⟨y0, e0⟩ : ∃ y, xs[0]? = some y := ⟨_, List.getElem?_eq_getElem (by rw [hlen]; decide)⟩
  have k0 : DataW.trod enc Try.prog w 0 (fun _ => true) true n 3 [c0] = some y0 := by
    have h := (hg 0 _ rfl).trans e0
    simpa [cs_int, Value.cells] using h
  obtain ⟨y1, e1⟩ : ∃ y, xs[1]? = some y := ⟨_, List.getElem?_eq_getElem (by rw [hlen]; decide)⟩
  have k1 : DataW.trod enc Try.prog w 0 (fun _ => true) true n 3 [c1] = some y1 := by
    have h := (hg 1 _ rfl).trans e1
    simpa [cs_int, Value.cells] using h
  obtain ⟨y2, e2⟩ : ∃ y, xs[2]? = some y := ⟨_, List.getElem?_eq_getElem (by rw [hlen]; decide)⟩
  have k2 : DataW.trod enc Try.prog w 0 (fun _ => true) true n 3 [c2] = some y2 := by
    have h := (hg 2 _ rfl).trans e2
    simpa [cs_int, Value.cells] using h
  obtain ⟨y3, e3⟩ : ∃ y, xs[3]? = some y := ⟨_, List.getElem?_eq_getElem (by rw [hlen]; decide)⟩
  have k3 : DataW.trod enc Try.prog w 0 (fun _ => true) true n 3 [c3] = some y3 := by
    have h := (hg 3 _ rfl).trans e3
    simpa [cs_int, Value.cells] using h
  obtain ⟨z0, q0, _, w0⟩ := DataW.trod_int Try.underlying3 k0
  simp only [List.cons.injEq, and_true] at q0
  obtain ⟨z1, q1, _, w1⟩ := DataW.trod_int Try.underlying3 k1
  simp only [List.cons.injEq, and_true] at q1
  obtain ⟨z2, q2, _, w2⟩ := DataW.trod_int Try.underlying3 k2
  simp only [List.cons.injEq, and_true] at q2
  obtain ⟨z3, q3, _, w3⟩ := DataW.trod_int Try.underlying3 k3
  simp only [List.cons.injEq, and_true] at q3
  exact ⟨z0, z1, z2, z3, q0, q1, q2, q3⟩
theorem open_style {c0 c1 c2 : Value} (h : DataW.trod enc Try.prog w 0 (fun _ => true) true fuel 34 [c0, c1, c2] = some x) : ∃ x y a : Int, c0 = .int .i64 x ∧ c1 = .int .i64 y ∧ c2 = .int .i64 a := by
  obtain ⟨xs, n, _, hx, _, hlen, hg⟩ := DataW.trod_struct Try.underlying34 h
  obtain ⟨y0, e0⟩ : ∃ y, xs[0]? = some y := ⟨_, List.getElem?_eq_getElem (by rw [hlen]; decide)⟩
  have k0 : DataW.trod enc Try.prog w 0 (fun _ => true) true n 3 [c0] = some y0 := by
    have h := (hg 0 _ rfl).trans e0
    simpa [cs_int, Value.cells] using h
  obtain ⟨y1, e1⟩ : ∃ y, xs[1]? = some y := ⟨_, List.getElem?_eq_getElem (by rw [hlen]; decide)⟩
  have k1 : DataW.trod enc Try.prog w 0 (fun _ => true) true n 3 [c1] = some y1 := by
    have h := (hg 1 _ rfl).trans e1
    simpa [cs_int, Value.cells] using h
  obtain ⟨y2, e2⟩ : ∃ y, xs[2]? = some y := ⟨_, List.getElem?_eq_getElem (by rw [hlen]; decide)⟩
  have k2 : DataW.trod enc Try.prog w 0 (fun _ => true) true n 3 [c2] = some y2 := by
    have h := (hg 2 _ rfl).trans e2
    simpa [cs_int, Value.cells] using h
  obtain ⟨z0, q0, _, w0⟩ := DataW.trod_int Try.underlying3 k0
  simp only [List.cons.injEq, and_true] at q0
  obtain ⟨z1, q1, _, w1⟩ := DataW.trod_int Try.underlying3 k1
  simp only [List.cons.injEq, and_true] at q1
  obtain ⟨z2, q2, _, w2⟩ := DataW.trod_int Try.underlying3 k2
  simp only [List.cons.injEq, and_true] at q2
  exact ⟨z0, z1, z2, q0, q1, q2⟩
end
section
variable {H : Type} {enc : TypeId × Value → H} {w : World}
set_option maxRecDepth 100000 in
theorem rect_of {b0 : Nat} {v : Value} {d : DataW H} {q : List MemPlace} (hv : Value.okWide Try.prog w .any b0 23 v) (h : DataW.Trod enc Try.prog w 0 (fun _ => true) true 23 v d q) : ∃ r : Rc, v = rcV r := by
  obtain ⟨⟨l⟩, rfl, hsz⟩ := okWide_struct Try.underlying23 hv
  obtain ⟨fuel, hf⟩ := h
  match l, hsz.trans cs_rect with
  | [c0, c1, c2, c3], _ =>
    obtain ⟨x, y, a, e, rfl, rfl, rfl, rfl⟩ := open_rect hf
    exact ⟨⟨x, y, a, e⟩, rfl⟩
set_option maxRecDepth 100000 in
theorem style_of {b0 : Nat} {v : Value} {d : DataW H} {q : List MemPlace} (hv : Value.okWide Try.prog w .any b0 34 v) (h : DataW.Trod enc Try.prog w 0 (fun _ => true) true 34 v d q) : ∃ g b t : Int, v = .agg #[.int .i64 g, .int .i64 b, .int .i64 t] := by
  obtain ⟨⟨l⟩, rfl, hsz⟩ := okWide_struct Try.underlying34 hv
  obtain ⟨fuel, hf⟩ := h
  match l, hsz.trans cs_style with
  | [c0, c1, c2], _ =>
    obtain ⟨x, y, a, rfl, rfl, rfl⟩ := open_style hf
    exact ⟨x, y, a, rfl⟩
end
end Go.Proofs.Ytdmoncpeoaoppaa.Fl
