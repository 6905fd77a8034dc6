/- Pure: Set of the document's list against the table's. -/
import Derived.Test.YtfflgkbemfichaaDoorPsE
import Derived.Test.YtfflgkbemfichaaDoorPrH
namespace Go.Proofs.YtfflgkbemfichaaDoor
section
variable {R : List Hd} {ms : Int → ByteArray → Option Pr} {ns : Int → Nat}
theorem Inv.found (h : Inv R ms ns) {i : Int} {s : ByteArray} {q : Pr} (hm : ms i s = some q) : R[placeN R i s]? = some ⟨i, q⟩ := by
  have h1 := h.get i s
  rw [hm] at h1
  unfold getL at h1
  obtain ⟨x, hx, rfl⟩ := Option.map_eq_some_iff.1 h1
  have hl := (List.getElem?_eq_some_iff.1 hx).1
  have hp : isP i s (R[placeN R i s]'hl) = true := List.findIdx_getElem (xs := R) (p := isP i s) (w := hl)
  rw [(List.getElem?_eq_some_iff.1 hx).2] at hp
  obtain ⟨e1, -⟩ := isP_iff.1 hp
  rw [hx, ← e1]
theorem Inv.place (h : Inv R ms ns) (i : Int) (s : ByteArray) : decide (0 ≤ placeI R i s) = (ms i s).isSome := by
  unfold placeI
  cases hm : ms i s with
  | some q =>
    have h1 := (List.getElem?_eq_some_iff.1 (h.found hm)).1
    rw [if_pos h1]; simp
  | none =>
    have h1 := h.get i s
    rw [hm] at h1
    unfold getL at h1
    have h2 : ¬ placeN R i s < R.length := fun hl => by
      rw [List.getElem?_eq_getElem hl] at h1; cases h1
    rw [if_neg h2]; simp
theorem Inv.setHas (h : Inv R ms ns) {i : Int} {p : Pr} (hm : (ms i p.name).isSome = true) :
    Inv (R.set (placeN R i p.name) ⟨i, p⟩) (upI ms i (upS (ms i) p.name (some p))) (upI ns i (ns i)) := by
  obtain ⟨q, hq⟩ := Option.isSome_iff_exists.1 hm
  have hf := h.found hq
  have hqn := ((h.mem i p.name q).1 hq).2
  obtain ⟨k, hk⟩ : ∃ k, k = placeN R i p.name := ⟨_, rfl⟩
  rw [← hk] at hf ⊢
  obtain ⟨hkl, hke⟩ := List.getElem?_eq_some_iff.1 hf
  have old : ∀ (j : Nat) (a : Hd), (R.set k ⟨i, p⟩)[j]? = some a → (j = k ∧ a = ⟨i, p⟩) ∨ (j ≠ k ∧ R[j]? = some a) := fun j a ha => by
    by_cases hj : k = j
    · subst hj
      rw [List.getElem?_set_self hkl] at ha
      exact .inl ⟨rfl, (Option.some.inj ha).symm⟩
    · rw [List.getElem?_set_ne hj] at ha
      exact .inr ⟨fun e => hj e.symm, ha⟩
  refine ⟨fun j j' a b ha hb e1 e2 => ?_, fun j s' p' => ?_, fun j => ?_⟩
  · rcases old j a ha with ⟨rfl, rfl⟩ | ⟨hj, ha'⟩
    · rcases old j' b hb with ⟨rfl, -⟩ | ⟨hj', hb'⟩
      · rfl
      · exact h.ok _ _ _ _ hf hb' e1 (by rw [hqn]; exact e2)
    · rcases old j' b hb with ⟨rfl, rfl⟩ | ⟨hj', hb'⟩
      · exact h.ok _ _ _ _ ha' hf e1 (by rw [hqn]; exact e2)
      · exact h.ok _ _ _ _ ha' hb' e1 e2
  · have hmem : (⟨j, p'⟩ : Hd) ∈ R.set k ⟨i, p⟩ ↔ (j = i ∧ p' = p) ∨ ((⟨j, p'⟩ : Hd) ∈ R ∧ ¬ (j = i ∧ p'.name = p.name)) := by
      constructor
      · intro hx
        obtain ⟨m, hm', he⟩ := List.getElem_of_mem hx
        rcases old m ⟨j, p'⟩ (by rw [List.getElem?_eq_getElem hm', he]) with ⟨-, e⟩ | ⟨hmk, hR⟩
        · injection e with e1 e2
          exact .inl ⟨e1, e2⟩
        · refine .inr ⟨List.mem_of_getElem? hR, fun e => hmk ?_⟩
          exact h.ok m k _ _ hR hf e.1 (by rw [hqn]; exact e.2)
      · rintro (⟨rfl, rfl⟩ | ⟨hx, hne⟩)
        · exact List.mem_of_getElem? (List.getElem?_set_self hkl)
        · obtain ⟨m, hm', he⟩ := List.getElem_of_mem hx
          have hmk : k ≠ m := fun e => by
            subst e
            rw [hke] at he
            injection he with e1 e2
            exact hne ⟨e1.symm, by rw [← e2, hqn]⟩
          exact List.mem_of_getElem? (i := m) (by rw [List.getElem?_set_ne hmk, List.getElem?_eq_getElem hm', he])
    rw [hmem]
    by_cases hji : j = i
    · subst hji
      rw [upI_same]
      by_cases hss : s' = p.name
      · rw [hss, upS_same]
        constructor
        · intro e; rw [← Option.some.inj e]; exact ⟨.inl ⟨rfl, rfl⟩, rfl⟩
        · rintro ⟨⟨-, e⟩ | ⟨-, e⟩, e2⟩
          · rw [e]
          · exact absurd ⟨rfl, e2⟩ e
      · rw [upS_other _ _ hss, h.mem j s' p']
        constructor
        · rintro ⟨e1, e2⟩
          exact ⟨.inr ⟨e1, fun e => hss (by rw [← e2, e.2])⟩, e2⟩
        · rintro ⟨⟨-, e⟩ | ⟨e, -⟩, e2⟩
          · exact absurd (by rw [← e2, e]) hss
          · exact ⟨e, e2⟩
    · rw [upI_other _ _ hji, h.mem j s' p']
      simp [hji]
  · rw [upI_self, ← h.cnt j]
    have hs1 : R.set k ⟨i, p⟩ = R.take k ++ ⟨i, p⟩ :: R.drop (k + 1) := List.set_eq_take_append_cons_drop .. |>.trans (by rw [if_pos hkl])
    have hs2 : R = R.take k ++ ⟨i, q⟩ :: R.drop (k + 1) := by
      rw [← hke, List.getElem_cons_drop, List.take_append_drop]
    rw [hs1]
    conv => rhs; rw [hs2]
    rw [List.filter_append, List.filter_append, List.filter_cons, List.filter_cons]
    by_cases hij : i = j <;> simp [hij]
theorem Inv.setNew (h : Inv R ms ns) {i : Int} {p : Pr} (hm : ms i p.name = none) :
    Inv (R ++ [⟨i, p⟩]) (upI ms i (upS (ms i) p.name (some p))) (upI ns i (ns i + 1)) := by
  have hno : ∀ (j : Nat) (a : Hd), R[j]? = some a → a.win = i → a.p.name = p.name → False := fun j a ha e1 e2 => by
    have := (h.mem i p.name a.p).2 ⟨by rw [← e1]; exact List.mem_of_getElem? ha, e2⟩
    rw [hm] at this; cases this
  have old : ∀ (j : Nat) (a : Hd), (R ++ [⟨i, p⟩])[j]? = some a → (j = R.length ∧ a = ⟨i, p⟩) ∨ (j < R.length ∧ R[j]? = some a) := fun j a ha => by
    by_cases hj : j < R.length
    · rw [List.getElem?_append_left hj] at ha; exact .inr ⟨hj, ha⟩
    · have h1 := (List.getElem?_eq_some_iff.1 ha).1
      simp at h1
      obtain rfl : j = R.length := by omega
      rw [List.getElem?_concat_length] at ha
      exact .inl ⟨rfl, (Option.some.inj ha).symm⟩
  refine ⟨fun j j' a b ha hb e1 e2 => ?_, fun j s' p' => ?_, fun j => ?_⟩
  · rcases old j a ha with ⟨rfl, rfl⟩ | ⟨hj, ha'⟩
    · rcases old j' b hb with ⟨rfl, -⟩ | ⟨hj', hb'⟩
      · rfl
      · exact (hno _ _ hb' e1.symm e2.symm).elim
    · rcases old j' b hb with ⟨rfl, rfl⟩ | ⟨hj', hb'⟩
      · exact (hno _ _ ha' e1 e2).elim
      · exact h.ok _ _ _ _ ha' hb' e1 e2
  · rw [List.mem_append, List.mem_singleton]
    by_cases hji : j = i
    · subst hji
      rw [upI_same]
      by_cases hss : s' = p.name
      · rw [hss, upS_same]
        constructor
        · intro e; rw [← Option.some.inj e]; exact ⟨.inr rfl, rfl⟩
        · rintro ⟨e | e, e2⟩
          · have := (h.mem j p.name p').2 ⟨e, e2⟩
            rw [hm] at this; cases this
          · injection e with _ e; rw [e]
      · rw [upS_other _ _ hss, h.mem j s' p']
        constructor
        · rintro ⟨e1, e2⟩; exact ⟨.inl e1, e2⟩
        · rintro ⟨e | e, e2⟩
          · exact ⟨e, e2⟩
          · injection e with _ e; exact absurd (by rw [← e2, e]) hss
    · rw [upI_other _ _ hji, h.mem j s' p']
      simp [hji]
  · rw [List.filter_append, List.length_append, h.cnt j]
    by_cases hji : j = i
    · rw [hji, upI_same]; simp
    · have : ¬ i = j := fun e => hji e.symm
      rw [upI_other _ _ hji]; simp [this]
/-- The document's list behind Set. -/
def setR (R : List Hd) (ms : Int → ByteArray → Option Pr) (ns : Int → Nat) (i : Int) (p : Pr) : List Hd :=
  if setE p (ms i) (ns i) = 0 then (if (ms i p.name).isSome then R.set (placeN R i p.name) ⟨i, p⟩ else R ++ [⟨i, p⟩]) else R
theorem Inv.set (h : Inv R ms ns) (i : Int) (p : Pr) : Inv (setR R ms ns i p) (setM ms ns i p) (setN ms ns i p) := by
  unfold setR setM setN
  split
  · cases hs : (ms i p.name).isSome with
    | true => exact h.setHas hs
    | false => exact h.setNew (by simpa using hs)
  · exact h
end
end Go.Proofs.YtfflgkbemfichaaDoor
