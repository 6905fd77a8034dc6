/- Slices of structs that a call made itself: what they hold, grown, written. -/
import Derived.Test.YtlbbjinkblgfiaaRhC
import Derived.Maps.AppendAt
import Derived.Laws.OwnMore
import Derived.OwnWalk
namespace Go.Proofs.Ytlbbjinkblgfiaa
open Go.RowKit Go.Shelf
/-- A slice of the call's own that holds these structs, k cells each. -/
def OwK {α : Type} (enc : α → List Value) (T : TypeId) (k : Nat) (w : World) (base : Nat) (v : Value) (xs : List α) : Prop := w.ownsRow base T k v xs.length (xs.flatMap enc)
section
variable {α : Type} {enc : α → List Value} {T : TypeId} {k : Nat} {w w' : World} {base : Nat} {v : Value} {xs : List α}
theorem OwK.nil (w : World) (base : Nat) : OwK enc T k w base (.slice none 0 0) [] := World.ownsRow_nil w base _ _
theorem OwK.grown {row : Option Nat} (h : OwK enc T k w base v xs) (hg : w.grownBy w' row) (hne : v.ownBlock = none ∨ v.ownBlock ≠ row) : OwK enc T k w' base v xs := World.ownsRow.kept h hg hne
theorem OwK.below (h : OwK enc T k w base v xs) (hb : Below w.heap.size w w') : OwK enc T k w' base v xs := by
  refine h.grown (only_of_below hb none) ?_
  cases v.ownBlock with
  | none => exact .inl rfl
  | some g => exact .inr (by simp)
theorem OwK.less {base' : Nat} (h : OwK enc T k w base v xs) (hb : base' ≤ base) : OwK enc T k w base' v xs := by
  obtain ⟨h1, h2⟩ := h
  refine ⟨h1, ?_⟩
  rcases h2 with h2 | ⟨g, cap, cur, a, b, c⟩
  · exact .inl h2
  · exact .inr ⟨g, cap, cur, a, Nat.le_trans hb b, c⟩
theorem OwK.lt (h : OwK enc T k w base v xs) {g : Nat} (hg : v.ownBlock = some g) : base ≤ g ∧ g < w.heap.size := World.ownsRow.lt h g hg
theorem flat_len (hk : ∀ x, (enc x).length = k) (xs : List α) : (xs.flatMap enc).length = xs.length * k := by
  induction xs with
  | nil => simp
  | cons x t ih => rw [List.flatMap_cons, List.length_append, hk, ih, List.length_cons, Nat.add_mul]; omega
theorem flat_get (hk : ∀ x, (enc x).length = k) : ∀ (xs : List α) (j : Nat) (x : α) (i : Nat) (u : Value), xs[j]? = some x → (enc x)[i]? = some u → (xs.flatMap enc)[j * k + i]? = some u
  | [], j, x, i, u, hx, _ => by simp at hx
  | y :: t, 0, x, i, u, hx, hu => by
    simp only [List.getElem?_cons_zero, Option.some.injEq] at hx
    subst hx
    have hi := (List.getElem?_eq_some_iff.1 hu).1
    rw [List.flatMap_cons, Nat.zero_mul, Nat.zero_add, List.getElem?_append_left hi]
    exact hu
  | y :: t, j + 1, x, i, u, hx, hu => by
    rw [List.getElem?_cons_succ] at hx
    have := flat_get hk t j x i u hx hu
    rw [List.flatMap_cons, List.getElem?_append_right (by rw [hk, Nat.add_mul]; omega), hk]
    rw [show (j + 1) * k + i - k = j * k + i by rw [Nat.add_mul]; omega]
    exact this
/-- Its elements, where there are any. -/
theorem OwK.form (hk : ∀ x, (enc x).length = k) (h : OwK enc T k w base v xs) (hne : xs ≠ []) : ∃ g cap, v = .slice (some ⟨g, 0, none⟩) xs.length cap ∧ base ≤ g ∧ g < w.heap.size ∧
    (∀ (j : Nat) (x : α) (i : Nat) (u : Value), xs[j]? = some x → (enc x)[i]? = some u → w.cell? ⟨g, j * k + i, none⟩ = some u) ∧ ∀ j, w.frozen? ⟨g, j, none⟩ = false := by
  have h0 := h
  obtain ⟨hlen, h1⟩ := h
  rcases h1 with ⟨_, hn⟩ | ⟨g, cap, cur, rfl, hb, hg, hnc, hm, hs, ht⟩
  · exact absurd (List.eq_nil_of_length_eq_zero hn) hne
  · refine ⟨g, cap, rfl, hb, (World.ownsRow.lt h0 g rfl).2, fun j x i u hx hu => ?_, fun j => World.ownsRow.frozenAt h0 j⟩
    have h2 := flat_get hk xs j x i u hx hu
    have h3 := (List.getElem?_eq_some_iff.1 h2).1
    rw [hlen] at h3
    exact (World.ownsRow.cellAt h0 _ h3).trans h2
theorem OwK.slice (h : OwK enc T k w base v xs) : ∃ p c, v = .slice p xs.length c := by
  obtain ⟨_, h1⟩ := h
  rcases h1 with ⟨rfl, hn⟩ | ⟨g, cap, cur, rfl, _⟩
  · rw [hn]; exact ⟨_, _, rfl⟩
  · exact ⟨_, _, rfl⟩
/-- What is owned reads. -/
theorem OwK.reads (hk : ∀ x, (enc x).length = k) (h : OwK enc T k w base v xs) : RdK enc k w v xs := by
  by_cases hne : xs = []
  · subst hne
    obtain ⟨p, c, rfl⟩ := h.slice
    exact ⟨p, c, rfl, fun j x hx => by simp at hx⟩
  · obtain ⟨g, cap, rfl, _, hl, hc, _⟩ := h.form hk hne
    exact ⟨_, cap, rfl, fun j x hx => ⟨g, 0, rfl, hl, fun i u hu => by rw [Nat.zero_add]; exact hc j x i u hx hu⟩⟩
end
theorem encR_len (r : Rc) : (encR r).length = 4 := rfl
theorem RdK.own_rect {w : World} {g j : Nat} {r : Rc} (h : ∀ (i : Nat) (u : Value), (encR r)[i]? = some u → w.cell? ⟨g, j * 4 + i, none⟩ = some u) :
    w.cell? ⟨g, j * 4, none⟩ = some (.int .i64 r.x) ∧ w.cell? ⟨g, j * 4 + 1, none⟩ = some (.int .i64 r.y) ∧ w.cell? ⟨g, j * 4 + 2, none⟩ = some (.int .i64 r.w) ∧ w.cell? ⟨g, j * 4 + 3, none⟩ = some (.int .i64 r.h) :=
  ⟨h 0 _ rfl, h 1 _ rfl, h 2 _ rfl, h 3 _ rfl⟩
theorem flat_set (rs : List Rc) (j : Nat) (r : Rc) (hj : j < rs.length) :
    ((((rs.flatMap encR).set (j * 4) (.int .i64 r.x)).set (j * 4 + 1) (.int .i64 r.y)).set (j * 4 + 2) (.int .i64 r.w)).set (j * 4 + 3) (.int .i64 r.h) = (rs.set j r).flatMap encR := by
  induction rs generalizing j with
  | nil => simp at hj
  | cons a t ih =>
    cases j with
    | zero => simp [List.flatMap_cons, encR]
    | succ j =>
      have h := ih j (by simpa using hj)
      rw [List.set_cons_succ, List.flatMap_cons, List.flatMap_cons, ← h]
      have e : ∀ (l : List Value) (m : Nat) (u : Value), (encR a ++ l).set (4 + m) u = encR a ++ l.set m u := fun l m u => by
        rw [List.set_append_right _ _ (by rw [encR_len]; omega), encR_len]; congr 2; omega
      rw [show (j + 1) * 4 = 4 + j * 4 by omega, e, show 4 + j * 4 + 1 = 4 + (j * 4 + 1) by omega, e, show 4 + j * 4 + 2 = 4 + (j * 4 + 2) by omega, e, show 4 + j * 4 + 3 = 4 + (j * 4 + 3) by omega, e]
/-- One of them written anew. -/
theorem OwK.rect_set {w : World} {base g cap : Nat} {rs : List Rc} {j : Nat} (r : Rc) (hj : j < rs.length) (h : OwK encR 23 4 w base (.slice (some ⟨g, 0, none⟩) rs.length cap) rs) :
    OwK encR 23 4 ((((w.setCell ⟨g, j * 4, none⟩ (.int .i64 r.x)).setCell ⟨g, j * 4 + 1, none⟩ (.int .i64 r.y)).setCell ⟨g, j * 4 + 2, none⟩ (.int .i64 r.w)).setCell ⟨g, j * 4 + 3, none⟩ (.int .i64 r.h)) base (.slice (some ⟨g, 0, none⟩) rs.length cap) (rs.set j r) ∧
      w.grownBy ((((w.setCell ⟨g, j * 4, none⟩ (.int .i64 r.x)).setCell ⟨g, j * 4 + 1, none⟩ (.int .i64 r.y)).setCell ⟨g, j * 4 + 2, none⟩ (.int .i64 r.w)).setCell ⟨g, j * 4 + 3, none⟩ (.int .i64 r.h)) (some g) := by
  obtain ⟨h1, g1⟩ := World.ownsRow.stored h (j * 4) (.int .i64 r.x)
  obtain ⟨h2, g2⟩ := World.ownsRow.stored h1 (j * 4 + 1) (.int .i64 r.y)
  obtain ⟨h3, g3⟩ := World.ownsRow.stored h2 (j * 4 + 2) (.int .i64 r.w)
  obtain ⟨h4, g4⟩ := World.ownsRow.stored h3 (j * 4 + 3) (.int .i64 r.h)
  refine ⟨?_, only_trans (only_trans (only_trans g1 g2) g3) g4⟩
  unfold OwK
  rw [List.length_set, ← flat_set rs j r hj]
  exact h4
theorem rectInfo : (Try.prog.info? 23).map (fun i => (i.zero, i.size, i.bytes)) = some (some (.agg #[.int .i64 0, .int .i64 0, .int .i64 0, .int .i64 0]), 4, 32) := by kernel_rfl
theorem flat_snoc (rs : List Rc) (r : Rc) : (rs ++ [r]).flatMap encR = rs.flatMap encR ++ [.int .i64 r.x, .int .i64 r.y, .int .i64 r.w, .int .i64 r.h] := by
  rw [List.flatMap_append]; rfl
theorem oneCell_encR (r : Rc) : ∀ u ∈ ([.int .i64 r.x, .int .i64 r.y, .int .i64 r.w, .int .i64 r.h] : List Value), u.oneCell' = true := by
  intro u hu
  simp only [List.mem_cons, List.not_mem_nil, or_false] at hu
  rcases hu with rfl | rfl | rfl | rfl <;> rfl
theorem cell_four (w : World) (t : TypeId) (v0 v1 v2 v3 : Value) : ∀ (j : Nat) (u : Value), [v0, v1, v2, v3][j]? = some u → (w.alloc (.cells #[v0, v1, v2, v3] t)).cell? ((⟨w.heap.size, 0, none⟩ : Addr).add j) = some u := by
  intro j u hu
  have h := (Blk.new w t #[v0, v1, v2, v3]).cell j
  rw [Addr.add_lit, Nat.zero_add, h]
  simpa using hu
end Go.Proofs.Ytlbbjinkblgfiaa
