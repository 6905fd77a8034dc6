/- Faults, and whether a place is in a set: of the code, and of the document. -/
import Derived.Test.YthppjmhocmppfaaDoorRhA
import Derived.Shelf.Abstract
namespace Go.Proofs.YthppjmhocmppfaaDoor
open Go.RowKit Go.Shelf
def badR (r : Rc) : Bool := !rightB r.x r.y r.w r.h
def hasP (x y : Int) (r : Rc) : Bool := hasB r.x r.y r.w r.h x y
def faultI (a b : List Rc) : Int := if 256 < a.length ∨ 256 < b.length then 2 else if a.any badR = true ∨ b.any badR = true then 10 else 0
theorem RdK.slice {α : Type} {enc : α → List Value} {k : Nat} {w : World} {v : Value} {xs : List α} (h : RdK enc k w v xs) : ∃ p c, v = .slice p xs.length c := by
  obtain ⟨p, c, h1, _⟩ := h
  exact ⟨p, c, h1⟩
end Go.Proofs.YthppjmhocmppfaaDoor
