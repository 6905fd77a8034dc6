/- Windows, and what a tree of them holds: no program. -/
import Derived.WalkKit
namespace Go.Proofs.Ytlbbjinkblgfiaa
/-- A window, as it is told. -/
structure Win where
  id : Int
  par : Int
  x : Int
  y : Int
  w : Int
  h : Int
  on : Bool
/-- A window, and the numbers of those in it. -/
structure Nd where
  win : Win
  kids : List Int
/-- f, but at i. -/
def upd {α : Type} (f : Int → α) (i : Int) (v : α) : Int → α := fun j => if j = i then v else f j
theorem upd_same {α : Type} (f : Int → α) (i : Int) (v : α) : upd f i v i = v := if_pos rfl
theorem upd_other {α : Type} (f : Int → α) {i j : Int} (v : α) (h : j ≠ i) : upd f i v j = f j := if_neg h
theorem upd_self {α : Type} {f : Int → α} {i : Int} {v : α} (h : f i = v) : upd f i v = f := by
  funext j
  unfold upd
  split
  · next e => rw [e, h]
  · rfl
theorem upd_twice {α : Type} (f : Int → α) (i : Int) (u v : α) : upd (upd f i u) i v = upd f i v := by
  funext j
  unfold upd
  split <;> simp_all
theorem upd_comm {α : Type} (f : Int → α) {i j : Int} (u v : α) (h : i ≠ j) : upd (upd f i u) j v = upd (upd f j v) i u := by
  funext k
  unfold upd
  by_cases h1 : k = i <;> by_cases h2 : k = j <;> simp_all
/-- A list without a number. -/
def strike (k : Int) (xs : List Int) : List Int := xs.filter (fun x => decide (x ≠ k))
def I64 (i : Int) : Prop := -9223372036854775808 ≤ i ∧ i ≤ 9223372036854775807
def zeroW : Win := ⟨0, 0, 0, 0, 0, 0, false⟩
end Go.Proofs.Ytlbbjinkblgfiaa
