import Derived.Test.YtedhgdjlcddchaaRaW
namespace Go.Proofs.Ytedhgdjlcddchaa
open Go.RowKit Go.WideShapes Go.ChangeShapes Go.ChangeAt Go.Deep
section
variable {H : Type} {enc : TypeId × Value → H} {w : World} {b0 : Nat} {v : Value} {d : DataW H} {q : List MemPlace}
set_option maxRecDepth 100000 in
theorem rect_of (hv : Value.okWide Try.prog w .any b0 40 v) (h : DataW.Trod enc Try.prog w 0 (fun _ => true) true 40 v d q) : ∃ x y a e : Int, v = .agg #[.int .i64 x, .int .i64 y, .int .i64 a, .int .i64 e] := by
  obtain ⟨⟨l⟩, rfl, hsz⟩ := okWide_struct Try.underlying40 hv
  obtain ⟨fuel, hf⟩ := h
  match l, hsz.trans cs_rect with
  | [c0, c1, c2, c3], _ =>
    obtain ⟨x, y, a, e, rfl, rfl, rfl, rfl⟩ := open_rect hf
    exact ⟨x, y, a, e, rfl⟩
set_option maxRecDepth 100000 in
theorem point_of (hv : Value.okWide Try.prog w .any b0 32 v) (h : DataW.Trod enc Try.prog w 0 (fun _ => true) true 32 v d q) : ∃ x y : Int, v = .agg #[.int .i64 x, .int .i64 y] := by
  obtain ⟨⟨l⟩, rfl, hsz⟩ := okWide_struct Try.underlying32 hv
  obtain ⟨fuel, h⟩ := h
  match l, hsz.trans cs_point with
  | [c0, c1], _ =>
    obtain ⟨xs, n, _, hx, _, hlen, hg⟩ := DataW.trod_struct Try.underlying32 h
    obtain ⟨y0, e0⟩ : ∃ y, xs[0]? = some y := ⟨_, List.getElem?_eq_getElem (by rw [hlen]; decide)⟩
    have k0 : DataW.trod enc Try.prog w 0 (fun _ => true) true n 3 [c0] = some y0 := by
      have h := (hg 0 _ rfl).trans e0
      simpa [cs_int, Value.cells] using h
    obtain ⟨y1, e1⟩ : ∃ y, xs[1]? = some y := ⟨_, List.getElem?_eq_getElem (by rw [hlen]; decide)⟩
    have k1 : DataW.trod enc Try.prog w 0 (fun _ => true) true n 3 [c1] = some y1 := by
      have h := (hg 1 _ rfl).trans e1
      simpa [cs_int, Value.cells] using h
    obtain ⟨z0, q0, _, w0⟩ := DataW.trod_int Try.underlying3 k0
    simp only [List.cons.injEq, and_true] at q0
    obtain ⟨z1, q1, _, w1⟩ := DataW.trod_int Try.underlying3 k1
    simp only [List.cons.injEq, and_true] at q1
    subst q0 q1
    exact ⟨z0, z1, rfl⟩
set_option maxRecDepth 100000 in
theorem paint_of (hv : Value.okWide Try.prog w .any b0 96 v) (h : DataW.Trod enc Try.prog w 0 (fun _ => true) true 96 v d q) : ∃ (t : Pt) (s : Value), v = t.val s ∧ RdB w.heap.size w s t.zs ∧ t.ok := by
  obtain ⟨⟨l⟩, rfl, hsz⟩ := okWide_struct Try.underlying96 hv
  obtain ⟨fuel, hf⟩ := h
  obtain ⟨t, s, hcs, h1, h2⟩ := open_paint hf
  have : l = _ := hcs
  subst this
  exact ⟨t, s, rfl, h1, h2⟩
end
end Go.Proofs.Ytedhgdjlcddchaa
