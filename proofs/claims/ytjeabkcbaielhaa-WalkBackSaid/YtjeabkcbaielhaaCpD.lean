/- cons.Remove's closure: pure part. -/
import Derived.Test.YtjeabkcbaielhaaCpC
namespace Go.Proofs.Ytjeabkcbaielhaa.Co
open Go.RowKit Go.Shelf
theorem fine_get {x y : Con} {u : List Nat} (h : fine x) (hy : get x u = some y) : fine y := fun v z hz => h (u ++ v) z (by rw [get_append _ hy]; exact hz)
theorem fine_mk {a : D} {ks : List Con} (ha : a.wide) (hl : ks.length ≤ 100000) (hk : ∀ x ∈ ks, fine x) : fine (.mk a ks) := fun u y hy => by
  cases u with
  | nil => simp only [get] at hy; have hy := Option.some.inj hy; subst hy; exact ⟨ha, hl⟩
  | cons i r =>
    obtain ⟨x, hx, hr⟩ := get_cons hy
    exact hk x (List.mem_of_getElem? hx) r y hr
theorem fine_kids {a : D} {ks : List Con} (h : fine (.mk a ks)) : a.wide ∧ ks.length ≤ 100000 ∧ ∀ x ∈ ks, fine x := by
  obtain ⟨h1, h2⟩ := h [] _ rfl
  refine ⟨h1, h2, fun x hx => ?_⟩
  obtain ⟨i, hi⟩ := List.getElem?_of_mem hx
  exact fine_get h (u := [i]) (by simp only [get, hi])
theorem fine_put : ∀ {u : List Nat} {x s : Con}, fine x → fine s → fine (put x u s) := by
  intro u
  induction u with
  | nil => intro x s _ hs; exact hs
  | cons i r ih =>
    intro x s hx hs
    obtain ⟨a, ks⟩ := x
    simp only [put]
    cases hk : ks[i]? with
    | none => exact hx
    | some y =>
      obtain ⟨h1, h2, h3⟩ := fine_kids hx
      refine fine_mk h1 (by rw [List.length_set]; exact h2) fun z hz => ?_
      rcases List.mem_or_eq_of_mem_set hz with hz | rfl
      · exact h3 z hz
      · exact ih (h3 y (List.mem_of_getElem? hk)) hs
theorem fine_delK {x : Con} {u : List Nat} {i : Nat} (h : fine x) : fine (delK x u i) := by
  unfold delK
  split
  · next p hp =>
    have hf := fine_get h hp
    obtain ⟨a, ks⟩ := p
    obtain ⟨h1, h2, h3⟩ := fine_kids hf
    refine fine_put h (fine_mk h1 ?_ fun z hz => h3 z (List.mem_of_mem_eraseIdx hz))
    simp only [Tr.ks_mk, List.length_eraseIdx]
    split <;> omega
  · exact h
theorem fine_tidyK {x : Con} {u : List Nat} {i : Nat} (h : fine x) : fine (tidyK x u i) := by
  unfold tidyK
  split
  · next y hy =>
    split
    · exact fine_delK h
    · split
      · split
        · next z hz =>
          have hf := fine_get h hy
          obtain ⟨a, ks⟩ := y
          obtain ⟨h1, _, h3⟩ := fine_kids hf
          have hz' := h3 z (List.mem_of_getElem? hz)
          obtain ⟨b, ls⟩ := z
          obtain ⟨g1, g2, g3⟩ := fine_kids hz'
          exact fine_put h (fine_mk ⟨g1.1, h1.2.1, g1.2.2.1, g1.2.2.2⟩ g2 g3)
        · exact h
      · exact h
  · exact h
/-- Above where a container becomes another, containers stay. -/
theorem get_put : ∀ {v w : List Nat} {x p s : Con}, get x v = some p → get (put x (v ++ w) s) v = some (put p w s) := by
  intro v
  induction v with
  | nil => intro w x p s h; simp only [get] at h; have h := Option.some.inj h; subst h; rfl
  | cons i r ih =>
    intro w x p s h
    obtain ⟨a, ks⟩ := x
    obtain ⟨y, hy, hr⟩ := get_cons h
    rw [List.cons_append, put_cons hy]
    simp only [get, List.getElem?_set_self (List.getElem?_eq_some_iff.1 hy).1]
    exact ih hr
/-- A container is there. -/
def There (x : Con) (v : List Nat) : Prop := (get x v).isSome = true
theorem there_delK {x : Con} {v w : List Nat} {i : Nat} (h : There x v) : There (delK x (v ++ w) i) v := by
  unfold delK
  split
  · next p hp =>
    obtain ⟨q, hq, _⟩ := get_prefix hp
    unfold There
    rw [get_put hq]; rfl
  · exact h
theorem there_tidyK {x : Con} {v w : List Nat} {i : Nat} (h : There x v) : There (tidyK x (v ++ w) i) v := by
  unfold tidyK
  split
  · next y hy =>
    split
    · exact there_delK h
    · split
      · split
        · rw [List.append_assoc] at hy ⊢
          obtain ⟨q, hq, _⟩ := get_prefix hy
          unfold There
          rw [get_put hq]; rfl
        · exact h
      · exact h
  · exact h
/-- The splits around, from the lowest up to that k below the root. -/
def tds (way : List Nat) : Nat → Con → Con
  | 0, x => x
  | m + 1, x => tidyK (tds way m x) (way.take (way.length - 1 - m - 1)) ((way[way.length - 1 - m - 1]?).getD 0)
theorem fine_tds {way : List Nat} {x : Con} (h : fine x) : ∀ m, fine (tds way m x)
  | 0 => h
  | m + 1 => fine_tidyK (fine_tds h m)
theorem there_tds {way : List Nat} {x : Con} : ∀ m k, k + m + 1 ≤ way.length → There x (way.take k) → There (tds way m x) (way.take k)
  | 0, _, _, h => h
  | m + 1, k, hk, h => by
    have h1 := there_tds m k (by omega) h
    unfold tds
    have e : way.take (way.length - 1 - m - 1) = way.take k ++ (way.take (way.length - 1 - m - 1)).drop k := by
      have := List.take_append_drop k (way.take (way.length - 1 - m - 1))
      rw [List.take_take, Nat.min_eq_left (by omega)] at this
      exact this.symm
    rw [e]
    exact there_tidyK h1
def removeF (x : Con) (way : List Nat) : Con × Int := (tds way (way.length - 1) (delK x way.dropLast ((way[way.length - 1]?).getD 0)), 0)
end Go.Proofs.Ytjeabkcbaielhaa.Co
