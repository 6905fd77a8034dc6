/- The document's All. -/
import Derived.Test.YtjeabkcbaielhaaCpM
import Derived.Laws.AppendOwnNone
namespace Go.Proofs.Ytjeabkcbaielhaa.Co
open Go.RowKit Go.Shelf
/-- Containers in a row of cells; what is in them reads, in blocks of which Z holds. -/
def RZ (w : World) (Z : Nat → Prop) : List Con → List Value → Prop
  | [], vs => vs = []
  | y :: r, vs => ∃ sv rest, vs = encC y.a sv ++ rest ∧ KV w Z y.ks sv ∧ RZ w Z r rest
theorem RZ.app {w : World} {Z : Nat → Prop} : ∀ {a b : List Con} {u v : List Value}, RZ w Z a u → RZ w Z b v → RZ w Z (a ++ b) (u ++ v) := by
  intro a
  induction a with
  | nil => intro b u v h1 h2; subst h1; exact h2
  | cons y r ih => intro b u v ⟨sv, rest, h1, h3, h4⟩ h2; exact ⟨sv, rest ++ v, by rw [h1, List.append_assoc], h3, ih h4 h2⟩
theorem RZ.len {w : World} {Z : Nat → Prop} : ∀ {a : List Con} {u : List Value}, RZ w Z a u → u.length = a.length * 5 := by
  intro a
  induction a with
  | nil => intro u h1; subst h1; rfl
  | cons y r ih => intro u ⟨sv, rest, h1, _, h4⟩; have := ih h4; rw [h1, List.length_append, enc_len, List.length_cons]; omega
theorem RZ.next {w w' : World} {Z : Nat → Prop} {B : Nat} (hb : Below B w w') (hZ : ∀ b, Z b → b < B) : ∀ {a : List Con} {u : List Value}, RZ w Z a u → RZ w' Z a u := by
  intro a
  induction a with
  | nil => intro u h; exact h
  | cons y r ih => intro u ⟨sv, rest, h1, h3, h4⟩; exact ⟨sv, rest, h1, h3.same (fun _ h => h) hb.size (fun b h _ => hb.block b (hZ b h)), ih h4⟩
theorem RZ.one {w : World} {Z : Nat → Prop} : ∀ {a : List Con} {u : List Value}, RZ w Z a u → ∀ x ∈ u, x.oneCell' = true := by
  intro a
  induction a with
  | nil => intro u h x hx; rw [h] at hx; cases hx
  | cons y r ih =>
    intro u ⟨sv, rest, h1, h3, h4⟩ x hx
    rw [h1, List.mem_append] at hx
    rcases hx with hx | hx
    · obtain ⟨p, c, rfl, -⟩ := h3.slice
      simp [encC] at hx
      rcases hx with rfl | rfl | rfl | rfl | rfl <;> rfl
    · exact ih h4 x hx
theorem allL_append (a b : List Con) : allL (a ++ b) = allL a ++ allL b := by
  induction a with
  | nil => rfl
  | cons x r ih => simp only [List.cons_append, allL, ih, List.append_assoc]
theorem allL_snoc {ks : List Con} {i : Nat} {x : Con} (h : ks[i]? = some x) : allL (ks.take (i + 1)) = allL (ks.take i) ++ all x := by
  obtain ⟨hl, rfl⟩ := List.getElem?_eq_some_iff.1 h
  rw [List.take_succ_eq_append_getElem hl, allL_append]
  simp [allL]
theorem allL_take_le (ks : List Con) (i : Nat) : (allL (ks.take i)).length ≤ (allL ks).length := by
  conv => rhs; rw [← List.take_append_drop i ks, allL_append]
  simp
end Go.Proofs.Ytjeabkcbaielhaa.Co
