/- What a call changes: cons.change, whatever the closure. -/
import Derived.Test.YtjeabkcbaielhaaCoU
namespace Go.Proofs.Ytjeabkcbaielhaa.Co
open Go.RowKit Go.Shelf
theorem era_get : ∀ {u : List Nat} {t : ATr}, get (era t) u = (get t u).map era := by
  intro u
  induction u with
  | nil => intro t; rfl
  | cons i r ih =>
    intro t
    obtain ⟨a, ks⟩ := t
    rw [era_mk]
    simp only [get, List.getElem?_map]
    cases hx : ks[i]? with
    | none => rfl
    | some x => exact ih
theorem era_put : ∀ {u : List Nat} {t s s' : ATr}, get t u = some s → era (put t u s') = put (era t) u (era s') := by
  intro u
  induction u with
  | nil => intro t s s' _; rfl
  | cons i r ih =>
    intro t s s' hs
    obtain ⟨a, ks⟩ := t
    obtain ⟨x, hx, hr⟩ := get_cons hs
    rw [put_cons hx, era_mk, era_mk, put_cons (x := era x) (by rw [List.getElem?_map, hx]; rfl), ← ih hr, List.map_set]
theorem pre_get : ∀ (t : Con) (w : List Nat) (x : Con) (v : List Nat), (x, v) ∈ pre t w → ∃ u, v = w ++ u ∧ get t u = some x := by
  intro t
  induction t using Tr.ind with
  | h a ks ih =>
    intro w x v hm
    simp only [pre, List.mem_cons] at hm
    rcases hm with hm | hm
    · obtain ⟨rfl, rfl⟩ := Prod.mk.inj hm
      exact ⟨[], by simp, rfl⟩
    · have key : ∀ (l : List Con) (i : Nat), (∀ (j : Nat) (y : Con), l[j]? = some y → ks[i + j]? = some y) → (x, v) ∈ preL l w i → ∃ u, v = w ++ u ∧ get (.mk a ks) u = some x := by
        intro l
        induction l with
        | nil => intro i _ h; cases h
        | cons y r ihr =>
          intro i hl h
          simp only [preL, List.mem_append] at h
          have hy : ks[i]? = some y := by have := hl 0 y rfl; simpa using this
          rcases h with h | h
          · obtain ⟨u, rfl, hu⟩ := ih y (List.mem_of_getElem? hy) (w ++ [i]) x v h
            exact ⟨i :: u, by simp, by simp only [get, hy]; exact hu⟩
          · exact ihr (i + 1) (fun j z hz => by have := hl (j + 1) z (by simpa using hz); rwa [show i + (j + 1) = i + 1 + j by omega] at this) h
      exact key ks 0 (fun j y h => by simpa using h) hm
/-- Each way that is found is a leaf's, of the client that was asked for. -/
theorem hitN_way {cs : List Int} {c : Int} {way : List Nat} {P : Int → List Nat → Prop} (hc : P c way) : ∀ (n : Nat) (s : Ways), (∀ (i : Nat) (u : List Nat) (x : Int), s.1[i]? = some (some u) → cs[i]? = some x → P x u) →
    ∀ (i : Nat) (u : List Nat) (x : Int), (hitN cs c way n s).1[i]? = some (some u) → cs[i]? = some x → P x u := by
  intro n s hs
  induction n with
  | zero => exact hs
  | succ n ih =>
    intro i u x h hx
    simp only [hitN] at h
    split at h
    · next hn =>
      simp only [List.getElem?_set] at h
      by_cases e : n = i
      · subst e
        rw [if_pos rfl] at h
        split at h
        · have h := Option.some.inj h
          have h := Option.some.inj h
          subst h
          rw [hn] at hx
          have hx := Option.some.inj hx
          subst hx; exact hc
        · cases h
      · rw [if_neg e] at h; exact ih i u x h hx
    · exact ih i u x h hx
theorem run_way {cs : List Int} {P : Int → List Nat → Prop} : ∀ (l : List (Con × List Nat)) (s : Ways), (∀ x v, (x, v) ∈ l → x.a.k = 0 → P x.a.c v) → (∀ (i : Nat) (u : List Nat) (x : Int), s.1[i]? = some (some u) → cs[i]? = some x → P x u) →
    ∀ (i : Nat) (u : List Nat) (x : Int), (run (fnd cs) s l).1.1[i]? = some (some u) → cs[i]? = some x → P x u := by
  intro l
  induction l with
  | nil => intro s _ hs; exact hs
  | cons y r ih =>
    obtain ⟨t, v⟩ := y
    intro s hl hs
    have hstep : ∀ (i : Nat) (u : List Nat) (x : Int), (fnd cs s t v).1.1[i]? = some (some u) → cs[i]? = some x → P x u := by
      unfold fnd
      split
      · exact hs
      · next hk => exact hitN_way (hl t v (by simp) (by simpa using hk)) _ s hs
    simp only [run]
    split
    · exact hstep
    · exact ih _ (fun x v h => hl x v (by simp [h])) hstep
theorem run_len {cs : List Int} : ∀ (l : List (Con × List Nat)) (s : Ways), (run (fnd cs) s l).1.1.length = s.1.length := by
  intro l
  induction l with
  | nil => intro s; rfl
  | cons y r ih =>
    obtain ⟨t, v⟩ := y
    intro s
    have hstep : (fnd cs s t v).1.1.length = s.1.length := by
      unfold fnd
      split
      · rfl
      · exact hitN_len _ _ _ _ _
    simp only [run]
    split
    · exact hstep
    · rw [ih]; exact hstep
theorem waysOf_len (x : Con) (cs : List Int) : (waysOf x cs).length = cs.length := by unfold waysOf; rw [run_len]; simp
theorem tree_root {x : Con} (h : treeB x = true) : x.a.k ≠ 0 := by
  unfold treeB at h
  simp only [Bool.and_eq_true] at h
  obtain ⟨a, ks⟩ := x
  have h1 := h.1.1
  simp only [shape, Bool.and_eq_true] at h1
  intro hk
  have h2 := h1.1
  unfold soundB at h2
  simp only [Tr.a_mk] at hk
  split at h2
  · cases h2
  · simp [hk] at h2
/-- Of a tree, each way that is found leads below the root, to the client's leaf. -/
theorem waysOf_get {x : Con} (h : treeB x = true) {cs : List Int} {i : Nat} {u : List Nat} {c : Int} (hu : (waysOf x cs)[i]? = some (some u)) (hc : cs[i]? = some c) :
    ∃ v j p y, u = v ++ [j] ∧ get x v = some p ∧ p.ks[j]? = some y ∧ y.a.k = 0 ∧ y.a.c = c ∧ get x u = some y := by
  have hP := run_way (cs := cs) (P := fun c v => ∃ y, get x v = some y ∧ y.a.k = 0 ∧ y.a.c = c) (pre x []) (List.replicate cs.length none, (cs.length : Int)) (fun y v hm hk => by
    obtain ⟨w, rfl, hg⟩ := pre_get x [] y v hm
    exact ⟨y, by simpa using hg, hk, rfl⟩) (fun i u z h _ => by simp only [List.getElem?_replicate] at h; split at h <;> simp at h) i u c hu hc
  obtain ⟨y, h1, h2, h3⟩ := hP
  rcases List.eq_nil_or_concat u with rfl | ⟨v, j, rfl⟩
  · simp only [get] at h1
    have h1 := Option.some.inj h1
    subst h1
    exact absurd h2 (tree_root h)
  · rw [List.concat_eq_append] at h1 ⊢
    obtain ⟨p, h4, h5⟩ := get_prefix h1
    obtain ⟨a, ks⟩ := p
    obtain ⟨z, hz, hz2⟩ := get_cons h5
    simp only [get] at hz2
    have hz2 := Option.some.inj hz2
    subst hz2
    exact ⟨v, j, _, z, rfl, h4, hz, h2, h3, h1⟩
end Go.Proofs.Ytjeabkcbaielhaa.Co
