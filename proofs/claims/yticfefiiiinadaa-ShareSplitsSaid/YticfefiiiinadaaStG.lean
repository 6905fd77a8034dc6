/- Runs of a stable sort: ascending inside, the earlier before the later. No program. -/
import Derived.Test.YticfefiiiinadaaStA
import Derived.Test.YticfefiiiinadaaShH
namespace Go.Proofs.Yticfefiiiinadaa
open Go.Sort

section
variable {α : Type} [Inhabited α] {lt lex : α → α → Bool} {bef : α → α → Prop}

theorem asc_out {a b lo hi : Nat} {d d' : Array α} (hP : PermIn a b d d') (h : hi ≤ a ∨ b ≤ lo) (hA : Asc lex lo hi (at_ d)) : Asc lex lo hi (at_ d') := by
  intro i j h1 h2 h3
  show lex d'[i]! d'[j]! = true
  rw [hP.2.1 i (by omega), hP.2.1 j (by omega)]
  exact hA i j h1 h2 h3

/-- All that lies below x stood before all that lies from x on. -/
def Cross (bef : α → α → Prop) (n x : Nat) (d : Array α) : Prop := ∀ p q, p < x → x ≤ q → q < n → bef d[p]! d[q]!
theorem cross_keep {a b n x : Nat} {d d' : Array α} (hP : PermIn a b d d') (hx : x ≤ a ∨ b ≤ x) (hbn : b ≤ n) (hn : n ≤ d.size) (hX : Cross bef n x d) : Cross bef n x d' := by
  intro p q h1 h2 h3
  have k1 : ∀ q', x ≤ q' → q' < n → bef d'[p]! d[q']! := by
    intro q' g1 g2
    by_cases hp : a ≤ p ∧ p < b
    · exact permIn_all d d' a b (fun y => bef y d[q']!) (by omega) hP (fun p' k1 k2 => hX p' q' (by omega) g1 g2) p hp.1 hp.2
    · rw [hP.2.1 p (by omega)]; exact hX p q' h1 g1 g2
  by_cases hq : a ≤ q ∧ q < b
  · exact permIn_all d d' a b (fun y => bef d'[p]! y) (by omega) hP (fun q' g1 g2 => k1 q' (by omega) (by omega)) q hq.1 hq.2
  · rw [hP.2.1 q (by omega)]; exact k1 q h2 h3

/-- A block sorted by insertion. -/
theorem ins_block (S : Stable lt lex bef) (W : SWO lex) {a b : Nat} {d : Array α} (hab : a ≤ b) (hb : b ≤ d.size) (h : ∀ p q, a ≤ p → p < q → q < b → bef d[p]! d[q]!) :
    PermIn a b d (insertionSort lt d a b) ∧ Asc lex a b (at_ (insertionSort lt d a b)) := by
  rw [insertionSort_congr lt lex d a b hb fun p q h1 h2 h3 => S.agree _ _ (h q p h1 h2 h3)]
  obtain ⟨hP, hS⟩ := insertionSort_holds W d a b hab hb
  refine ⟨hP, fun i j h1 h2 h3 => ?_⟩
  show lex (insertionSort lex d a b)[i]! (insertionSort lex d a b)[j]! = true
  have hs := hS i j h1 h2 h3
  have hR : bef (insertionSort lex d a b)[i]! (insertionSort lex d a b)[j]! ∨ bef (insertionSort lex d a b)[j]! (insertionSort lex d a b)[i]! := by
    have hpw : ((d.extract a b).toList).Pairwise (fun x y => bef x y ∨ bef y x) := by
      rw [extract_toList d a b hb, List.pairwise_map, List.pairwise_iff_getElem]
      intro u v hu hv huv
      rw [List.length_range'] at hu hv
      rw [List.getElem_range', List.getElem_range']
      exact .inl (h _ _ (by omega) (by omega) (by omega))
    have hpw2 := (List.Perm.pairwise_iff (R := fun x y => bef x y ∨ bef y x) (fun h => h.symm) hP.2.2).2 hpw
    have hb' : b ≤ (insertionSort lex d a b).size := by rw [hP.1]; exact hb
    rw [extract_toList _ a b hb', List.pairwise_map, List.pairwise_iff_getElem] at hpw2
    have := hpw2 (i - a) (j - a) (by rw [List.length_range']; omega) (by rw [List.length_range']; omega) (by omega)
    rw [List.getElem_range', List.getElem_range'] at this
    rw [show a + 1 * (i - a) = i by omega, show a + 1 * (j - a) = j by omega] at this
    exact this
  rcases hR with hR | hR
  · exact S.total _ _ hR hs
  · cases he : lex (insertionSort lex d a b)[i]! (insertionSort lex d a b)[j]! with
    | true => rfl
    | false => have := S.total _ _ hR he; rw [hs] at this; cases this

/-- While the blocks of bs are sorted, j of them are. -/
structure InsRuns (lex : α → α → Bool) (bef : α → α → Prop) (bs n j : Nat) (d0 d : Array α) : Prop where
  perm : PermIn 0 n d0 d
  runs : ∀ k, k < j → Asc lex (k * bs) (k * bs + bs) (at_ d)
  cross : ∀ c, Cross bef n (c * bs) d
  rest : ∀ p q, j * bs ≤ p → p < q → q < n → bef d[p]! d[q]!
/-- All runs of bs. -/
structure Runs (lex : α → α → Bool) (bef : α → α → Prop) (bs n : Nat) (d0 d : Array α) : Prop where
  perm : PermIn 0 n d0 d
  runs : ∀ k, Asc lex (k * bs) (min (k * bs + bs) n) (at_ d)
  cross : ∀ c, Cross bef n (c * bs) d
/-- While runs are joined by two, j pairs are. -/
structure TwoRuns (lex : α → α → Bool) (bef : α → α → Prop) (bs n j : Nat) (d0 d : Array α) : Prop where
  perm : PermIn 0 n d0 d
  done : ∀ k, k < j → Asc lex (k * (2 * bs)) (k * (2 * bs) + 2 * bs) (at_ d)
  runs : ∀ k, 2 * j ≤ k → Asc lex (k * bs) (min (k * bs + bs) n) (at_ d)
  cross : ∀ c, 2 * j ≤ c → Cross bef n (c * bs) d
  cross2 : ∀ c, Cross bef n (c * (2 * bs)) d

theorem mul_lt_succ {k j bs : Nat} (h : k < j) : k * bs + bs ≤ j * bs := by
  have := Nat.mul_le_mul_right bs (show k + 1 ≤ j by omega)
  rwa [Nat.succ_mul] at this
theorem mult_side (c j bs : Nat) : c * bs ≤ j * bs ∨ j * bs + bs ≤ c * bs := by
  by_cases h : c ≤ j
  · exact .inl (Nat.mul_le_mul_right _ h)
  · exact .inr (mul_lt_succ (by omega))

theorem InsRuns.start (bs : Nat) {n : Nat} {d : Array α} (h : ∀ p q, p < q → q < n → bef d[p]! d[q]!) : InsRuns lex bef bs n 0 d d :=
  ⟨permIn_refl _ _ _, fun k hk => by omega, fun c p q h1 h2 h3 => h p q (by omega) h3, fun p q _ h2 h3 => h p q h2 h3⟩

theorem InsRuns.next (S : Stable lt lex bef) (W : SWO lex) {bs n j : Nat} {d0 d : Array α} (H : InsRuns lex bef bs n j d0 d) (hn : n ≤ d.size) (hb : j * bs + bs ≤ n) :
    InsRuns lex bef bs n (j + 1) d0 (insertionSort lt d (j * bs) (j * bs + bs)) := by
  obtain ⟨hP, hA⟩ := ins_block S W (a := j * bs) (b := j * bs + bs) (d := d) (by omega) (by omega) fun p q h1 h2 h3 => H.rest p q h1 h2 (by omega)
  refine ⟨permIn_trans _ _ _ _ _ H.perm (permIn_mono _ _ _ _ 0 n (by omega) hb hn hP), fun k hk => ?_, fun c => cross_keep hP (mult_side c j bs) hb hn (H.cross c), fun p q h1 h2 h3 => ?_⟩
  · by_cases he : k = j
    · subst he; exact hA
    · exact asc_out hP (.inl (mul_lt_succ (by omega))) (H.runs k (by omega))
  · rw [Nat.succ_mul] at h1
    rw [hP.2.1 p (by omega), hP.2.1 q (by omega)]
    exact H.rest p q (by omega) h2 h3
theorem InsRuns.last (S : Stable lt lex bef) (W : SWO lex) {bs n j : Nat} {d0 d : Array α} (H : InsRuns lex bef bs n j d0 d) (hn : n ≤ d.size) (ha : j * bs ≤ n) (hb : n < j * bs + bs) :
    Runs lex bef bs n d0 (insertionSort lt d (j * bs) n) := by
  obtain ⟨hP, hA⟩ := ins_block S W (a := j * bs) (b := n) (d := d) ha hn fun p q h1 h2 h3 => H.rest p q h1 h2 h3
  refine ⟨permIn_trans _ _ _ _ _ H.perm (permIn_mono _ _ _ _ 0 n (by omega) (Nat.le_refl _) hn hP), fun k => ?_, fun c => cross_keep hP (by rcases mult_side c j bs with h | h <;> omega) (Nat.le_refl _) hn (H.cross c)⟩
  rcases Nat.lt_trichotomy k j with h | h | h
  · have := mul_lt_succ (bs := bs) h
    rw [Nat.min_eq_left (by omega)]
    exact asc_out hP (.inl this) (H.runs k h)
  · subst h
    rw [Nat.min_eq_right (by omega)]
    exact hA
  · have := mul_lt_succ (bs := bs) h
    intro i j' g1 g2 g3
    omega

theorem TwoRuns.start {bs n : Nat} {d0 d : Array α} (H : Runs lex bef bs n d0 d) : TwoRuns lex bef bs n 0 d0 d :=
  ⟨H.perm, fun k hk => by omega, fun k _ => H.runs k, fun c _ => H.cross c, fun c => by have := H.cross (c * 2); rwa [Nat.mul_assoc] at this⟩

theorem two_idx (j bs : Nat) : (2 * j) * bs = j * (2 * bs) ∧ (2 * j + 1) * bs = j * (2 * bs) + bs := by
  have h : (2 * j) * bs = j * (2 * bs) := by rw [Nat.mul_comm 2 j, Nat.mul_assoc]
  exact ⟨h, by rw [Nat.succ_mul, h]⟩

theorem TwoRuns.halves {bs n j b : Nat} {d0 d : Array α} (H : TwoRuns lex bef bs n j d0 d) (hb : b = min (j * (2 * bs) + 2 * bs) n) (hm : j * (2 * bs) + bs < n) : Halves lex bef (j * (2 * bs)) (j * (2 * bs) + bs) b (at_ d) := by
  obtain ⟨e1, e2⟩ := two_idx j bs
  have h1 := H.runs (2 * j) (Nat.le_refl _)
  have h2 := H.runs (2 * j + 1) (by omega)
  rw [e1, Nat.min_eq_left (by omega)] at h1
  rw [e2] at h2
  refine ⟨h1, ?_, fun i k g1 g2 g3 g4 => ?_⟩
  · rw [hb, show j * (2 * bs) + 2 * bs = j * (2 * bs) + bs + bs by omega]; exact h2
  · have := H.cross (2 * j + 1) (by omega)
    rw [e2] at this
    exact this i k g2 g3 (by omega)

theorem TwoRuns.next {bs n j : Nat} {d0 d d' : Array α} (H : TwoRuns lex bef bs n j d0 d) (hn : n ≤ d.size) (hb : j * (2 * bs) + 2 * bs ≤ n) (hP : PermIn (j * (2 * bs)) (j * (2 * bs) + 2 * bs) d d') (hA : Asc lex (j * (2 * bs)) (j * (2 * bs) + 2 * bs) (at_ d')) :
    TwoRuns lex bef bs n (j + 1) d0 d' := by
  have far : ∀ k, 2 * (j + 1) ≤ k → j * (2 * bs) + 2 * bs ≤ k * bs := by
    intro k hk
    have := Nat.mul_le_mul_right bs hk
    rw [(two_idx (j + 1) bs).1, Nat.succ_mul] at this
    exact this
  refine ⟨permIn_trans _ _ _ _ _ H.perm (permIn_mono _ _ _ _ 0 n (by omega) hb hn hP), fun k hk => ?_, fun k hk => asc_out hP (.inr (far k hk)) (H.runs k (by omega)), fun c hc => cross_keep hP (.inr (far c hc)) hb hn (H.cross c (by omega)), fun c => cross_keep hP (mult_side c j (2 * bs)) hb hn (H.cross2 c)⟩
  by_cases he : k = j
  · subst he; exact hA
  · exact asc_out hP (.inl (mul_lt_succ (by omega))) (H.done k (by omega))

theorem TwoRuns.last {bs n j : Nat} {d0 d d' : Array α} (H : TwoRuns lex bef bs n j d0 d) (hn : n ≤ d.size) (ha : j * (2 * bs) ≤ n) (hb : n < j * (2 * bs) + 2 * bs) (hP : PermIn (j * (2 * bs)) n d d') (hA : Asc lex (j * (2 * bs)) n (at_ d')) :
    Runs lex bef (2 * bs) n d0 d' := by
  refine ⟨permIn_trans _ _ _ _ _ H.perm (permIn_mono _ _ _ _ 0 n (by omega) (Nat.le_refl _) hn hP), fun k => ?_, fun c => cross_keep hP (by rcases mult_side c j (2 * bs) with h | h <;> omega) (Nat.le_refl _) hn (H.cross2 c)⟩
  rcases Nat.lt_trichotomy k j with h | h | h
  · have := mul_lt_succ (bs := 2 * bs) h
    rw [Nat.min_eq_left (by omega)]
    exact asc_out hP (.inl this) (H.done k h)
  · subst h
    rw [Nat.min_eq_right (by omega)]
    exact hA
  · have := mul_lt_succ (bs := 2 * bs) h
    intro i j' g1 g2 g3
    omega
theorem TwoRuns.one {bs n j : Nat} {d0 d : Array α} (H : TwoRuns lex bef bs n j d0 d) (hm : n ≤ j * (2 * bs) + bs) : Asc lex (j * (2 * bs)) n (at_ d) := by
  have h1 := H.runs (2 * j) (Nat.le_refl _)
  rw [(two_idx j bs).1, Nat.min_eq_right hm] at h1
  exact h1
theorem Runs.whole {bs n : Nat} {d0 d : Array α} (H : Runs lex bef bs n d0 d) (h : n ≤ bs) : Asc lex 0 n (at_ d) := by
  have := H.runs 0
  rw [Nat.zero_mul, Nat.zero_add, Nat.min_eq_right h] at this
  exact this
end
end Go.Proofs.Yticfefiiiinadaa
