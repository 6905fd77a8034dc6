/- Slices of structs: how their elements lie. -/
import Derived.Test.YteaeccmlibmmmaaGeoF
import Derived.Test.YteaeccmlibmmmaaMem
import Derived.LoopTactic
import Derived.Deep.QuietTactic
import Derived.BigQuiet
namespace Go.Proofs.Yteaeccmlibmmmaa
open Go.RowKit
abbrev rcV (r : Rc) : Value := .agg #[.int .i64 r.x, .int .i64 r.y, .int .i64 r.w, .int .i64 r.h]
def encR (r : Rc) : List Value := [.int .i64 r.x, .int .i64 r.y, .int .i64 r.w, .int .i64 r.h]
/-- A part of a relation that the walk is not to open. -/
def Asd (p : Prop) : Prop := p
/-- A slice value that reads as these structs, k cells each. -/
def RdK {α : Type} (enc : α → List Value) (k : Nat) (w : World) (v : Value) (xs : List α) : Prop :=
  ∃ p c, v = .slice p xs.length c ∧ ∀ (j : Nat) (x : α), xs[j]? = some x → ∃ b o, p = some ⟨b, o, none⟩ ∧ b < w.heap.size ∧ ∀ (i : Nat) (u : Value), (enc x)[i]? = some u → w.cell? ⟨b, o + j * k + i, none⟩ = some u
section
variable {α : Type} {enc : α → List Value} {k : Nat} {w w' : World} {v : Value} {xs : List α}
theorem RdK.below (h : RdK enc k w v xs) (hb : Below w.heap.size w w') : RdK enc k w' v xs := by
  obtain ⟨p, c, h1, h2⟩ := h
  refine ⟨p, c, h1, fun j x hx => ?_⟩
  obtain ⟨b, o, h3, h4, h5⟩ := h2 j x hx
  exact ⟨b, o, h3, Nat.lt_of_lt_of_le h4 hb.size, fun i u hu => (hb.cell (p := ⟨b, o + j * k + i, none⟩) h4).trans (h5 i u hu)⟩
theorem RdK.drewN (h : RdK enc k w v xs) (n : Nat) : RdK enc k (w.drewN n) v xs := h
theorem RdK.drew (h : RdK enc k w v xs) : RdK enc k w.drew v xs := h
theorem RdK.alloc (h : RdK enc k w v xs) (o : Obj) : RdK enc k (w.alloc o) v xs := h.below ((Below.refl _ _).alloc (Nat.le_refl _) o)
theorem RdK.nil (w : World) (c : Nat) : RdK enc k w (.slice none 0 c) [] := ⟨none, c, rfl, fun j x hx => by simp at hx⟩
end
theorem RdK.rect {w : World} {b o j : Nat} {r : Rc} (h : ∀ (i : Nat) (u : Value), (encR r)[i]? = some u → w.cell? ⟨b, o + j * 4 + i, none⟩ = some u) :
    w.cell? ⟨b, o + j * 4, none⟩ = some (.int .i64 r.x) ∧ w.cell? ⟨b, o + j * 4 + 1, none⟩ = some (.int .i64 r.y) ∧ w.cell? ⟨b, o + j * 4 + 2, none⟩ = some (.int .i64 r.w) ∧ w.cell? ⟨b, o + j * 4 + 3, none⟩ = some (.int .i64 r.h) :=
  ⟨h 0 _ rfl, h 1 _ rfl, h 2 _ rfl, h 3 _ rfl⟩
/-- What a function handed in tells of a rectangle, wherever memory has grown. -/
def Tells (g : Nat) (cb : Array Value) (f : Rc → Bool) (B : Nat) (w : World) : Prop :=
  ∀ (r : Rc) (W : World), Below B w W → Calls Try.prog g (#[rcV r] ++ cb) W fun e w' => e = .returned (.bool (f r)) ∧ Below W.heap.size W w'
theorem any_none {α : Type} {f : α → Bool} {xs : List α} (h : ∀ (j : Nat) (x : α), xs[j]? = some x → f x = false) : xs.any f = false := by
  rw [List.any_eq_false]
  intro x hx
  obtain ⟨j, hj⟩ := List.getElem?_of_mem hx
  rw [h j x hj]; simp
end Go.Proofs.Yteaeccmlibmmmaa
