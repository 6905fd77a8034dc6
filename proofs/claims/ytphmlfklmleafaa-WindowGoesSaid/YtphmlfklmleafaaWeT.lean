/- Arguments opened: a rectangle; IsActs as the rows hand it on. -/
import Derived.Test.YtphmlfklmleafaaJay
namespace Go.Proofs.Ytphmlfklmleafaa
open Go.RowKit Go.WideShapes Go.ChangeShapes Go.ChangeAt Go.Deep
section
variable {H : Type} {enc : TypeId × Value → H} {w : World} {b0 : Nat} {v : Value} {d : DataW H} {q : List MemPlace}
set_option maxRecDepth 100000 in
theorem rect_of (hv : Value.okWide Try.prog w .any b0 23 v) (h : DataW.Trod enc Try.prog w 0 (fun _ => true) true 23 v d q) : ∃ x y a e : Int, v = .agg #[.int .i64 x, .int .i64 y, .int .i64 a, .int .i64 e] := by
  obtain ⟨⟨l⟩, rfl, hsz⟩ := okWide_struct Try.underlying23 hv
  obtain ⟨fuel, hf⟩ := h
  match l, hsz.trans cs_rect with
  | [c0, c1, c2, c3], _ =>
    obtain ⟨x, y, a, e, rfl, rfl, rfl, rfl⟩ := open_rect hf
    exact ⟨x, y, a, e, rfl⟩
end
end Go.Proofs.Ytphmlfklmleafaa
