import Derived.Test.YticfefiiiinadaaShE
import Derived.Sort.LotA
namespace Go.Proofs.Yticfefiiiinadaa
open Go.RowKit Go.Lib Go.Sort

section
variable {m : Nat}
/-- Places, as the machine has them. -/
def encF (i : Fin (m + 1)) : Value := .int .i64 (i.val : Int)
def valF (d : Array (Fin (m + 1))) : List Int := d.toList.map fun i => (i.val : Int)
/-- What mostFirst's closure says. -/
def cmpF (l : List Int) (i j : Fin (m + 1)) : Int := Lib.compareInt (l.getD j.val 0) (l.getD i.val 0)
def allF (m : Nat) : Array (Fin (m + 1)) := Array.ofFn fun i => i
theorem size_allF : (allF m).size = m + 1 := by simp [allF]
theorem valF_allF : valF (allF m) = (List.range (m + 1)).map (Int.ofNat) := by
  apply List.ext_getElem
  · simp [valF, allF]
  · intro i h1 h2
    simp only [valF, allF, List.getElem_map, Array.getElem_toList, Array.getElem_ofFn, List.getElem_range]
    rfl
end
/-- The order of the places: greatest first, of numbers alike the earlier one. -/
def ranks (l : List Int) : List Int := match l with
  | [] => []
  | x :: t => valF (Sort.insertionSort (ltOf (cmpF (m := t.length) (x :: t))) (allF t.length) 0 (t.length + 1))


section
variable {α : Type} [Inhabited α]
theorem insInner_perm (lt : α → α → Bool) (a b : Nat) : ∀ (j : Nat) (d : Array α), a ≤ j → j < b → b ≤ d.size → PermIn a (j + 1) d (insInner lt a j d)
  | 0, d, _, _, _ => by unfold insInner; exact permIn_refl _ _ _
  | j + 1, d, haj, hjb, hb => by
    unfold insInner
    split
    · rename_i hc
      simp only [Bool.and_eq_true, decide_eq_true_eq] at hc
      have ih := insInner_perm lt a b j (swp d (j + 1) j) (by omega) (by omega) (by rw [swp_size]; exact hb)
      exact permIn_trans _ _ _ a _ (swp_permIn d a (j + 2) (j + 1) j (by omega) (by omega) (by omega) (by omega) (by omega)) (permIn_mono _ _ a (j + 1) a (j + 2) (Nat.le_refl _) (by omega) (by rw [swp_size]; omega) ih)
    · exact permIn_refl _ _ _

theorem insInner_congr (lt lt' : α → α → Bool) (a : Nat) : ∀ (j : Nat) (d : Array α), j < d.size → (∀ q, a ≤ q → q < j → lt d[j]! d[q]! = lt' d[j]! d[q]!) → insInner lt a j d = insInner lt' a j d
  | 0, d, _, _ => by unfold insInner; rfl
  | j + 1, d, hj, h => by
    unfold insInner
    by_cases hc : j + 1 > a
    · rw [h j (by omega) (by omega)]
      split
      · refine insInner_congr lt lt' a j _ (by rw [swp_size]; omega) fun q h1 h2 => ?_
        rw [swp_right d (j + 1) j (by omega), swp_other d (j + 1) j q (by omega) (by omega)]
        exact h q h1 (by omega)
      · rfl
    · simp [hc]

theorem insOuter_congr (lt lt' : α → α → Bool) (a b : Nat) : ∀ (n i : Nat) (d : Array α), b - i = n → a < i → b ≤ d.size → (∀ p q, a ≤ q → q < p → i ≤ p → p < b → lt d[p]! d[q]! = lt' d[p]! d[q]!) → insOuter lt a b i d = insOuter lt' a b i d
  | 0, i, d, hn, _, _, _ => by rw [insOuter, if_neg (by omega), insOuter, if_neg (by omega)]
  | n + 1, i, d, hn, hai, hb, h => by
    have hlt : i < b := by omega
    have e1 : insOuter lt a b i d = insOuter lt a b (i + 1) (insInner lt a i d) := by rw [insOuter, if_pos hlt]
    have e2 : insOuter lt' a b i d = insOuter lt' a b (i + 1) (insInner lt' a i d) := by rw [insOuter, if_pos hlt]
    rw [e1, e2, insInner_congr lt lt' a i d (by omega) fun q h1 h2 => h i q h1 h2 (Nat.le_refl _) hlt]
    have hP := insInner_perm lt' a b i d (by omega) hlt hb
    refine insOuter_congr lt lt' a b n (i + 1) _ (by omega) (by omega) (by rw [hP.1]; exact hb) fun p q h1 h2 h3 h4 => ?_
    rw [hP.2.1 p (.inr (by omega))]
    by_cases hq : q < i + 1
    · exact permIn_all d _ a (i + 1) (fun y => lt d[p]! y = lt' d[p]! y) (by omega) hP (fun q' h5 h6 => h p q' h5 (by omega) (by omega) h4) q h1 hq
    · rw [hP.2.1 q (.inr (by omega))]
      exact h p q h1 h2 (by omega) h4

theorem insertionSort_congr (lt lt' : α → α → Bool) (d : Array α) (a b : Nat) (hb : b ≤ d.size) (h : ∀ p q, a ≤ q → q < p → p < b → lt d[p]! d[q]! = lt' d[p]! d[q]!) : insertionSort lt d a b = insertionSort lt' d a b := by
  unfold insertionSort
  exact insOuter_congr lt lt' a b _ (a + 1) d rfl (by omega) hb fun p q h1 h2 _ h4 => h p q h1 h2 h4
end

section
variable {m : Nat}
/-- Greater first; of numbers alike the earlier place. -/
def lexF (l : List Int) (i j : Fin (m + 1)) : Bool := decide (l.getD j.val 0 < l.getD i.val 0) || (decide (l.getD i.val 0 = l.getD j.val 0) && decide (i.val < j.val))
theorem lexF_iff (l : List Int) (i j : Fin (m + 1)) : lexF l i j = true ↔ (l.getD j.val 0 < l.getD i.val 0 ∨ (l.getD i.val 0 = l.getD j.val 0 ∧ i.val < j.val)) := by
  simp [lexF]
theorem lexF_swo (l : List Int) : SWO (lexF (m := m) l) where
  irrefl x := by rw [Bool.eq_false_iff]; intro h; rw [lexF_iff] at h; omega
  trans x y z h1 h2 := by rw [lexF_iff] at *; omega
  ntrans x y z h1 h2 := by
    rw [Bool.eq_false_iff] at *
    intro h
    rw [ne_eq, lexF_iff] at h1 h2
    rw [lexF_iff] at h
    omega
theorem ltOf_cmpF (l : List Int) (i j : Fin (m + 1)) : ltOf (cmpF l) i j = decide (l.getD j.val 0 < l.getD i.val 0) := by
  unfold ltOf cmpF Lib.compareInt
  generalize l.getD j.val 0 = y
  generalize l.getD i.val 0 = x
  by_cases h1 : y < x
  · simp [h1]
  · by_cases h2 : x < y <;> simp [h1, h2]
theorem ltOf_swo (l : List Int) : SWO (ltOf (cmpF (m := m) l)) where
  irrefl x := by rw [ltOf_cmpF]; simp
  trans x y z h1 h2 := by rw [ltOf_cmpF] at *; simp only [decide_eq_true_eq] at *; omega
  ntrans x y z h1 h2 := by rw [ltOf_cmpF] at *; simp only [decide_eq_false_iff_not] at *; omega
theorem sortF_length (l : List Int) (n : Nat) (hn : n ≤ m + 1) : (valF (Sort.insertionSort (ltOf (cmpF (m := m) l)) (allF m) 0 n)).length = m + 1 := by
  have := (insertionSort_holds (ltOf_swo (m := m) l) (allF m) 0 n (by omega) (by rw [size_allF]; exact hn)).1.1
  simp [valF, this, size_allF]
/-- Where the one compared stood behind the other, both orders say the same. -/
theorem agree (l : List Int) (i j : Fin (m + 1)) (h : j.val < i.val) : ltOf (cmpF l) i j = lexF l i j := by
  rw [ltOf_cmpF]
  unfold lexF
  generalize l.getD j.val 0 = y
  generalize l.getD i.val 0 = x
  have : ¬ i.val < j.val := by omega
  simp [this]
theorem allF_get (j : Nat) (h : j < m + 1) : (allF m)[j]! = ⟨j, h⟩ := by
  rw [getElem!_pos _ j (by rw [size_allF]; exact h)]; simp [allF]

/-- The places by their rank. -/
structure MF (l : List Int) (p : Nat → Nat) : Prop where
  lt : ∀ k, k < l.length → p k < l.length
  onto : ∀ x, x < l.length → ∃ k, k < l.length ∧ p k = x
  inj : ∀ i j, i < j → j < l.length → p i ≠ p j
  ord : ∀ i j, i < j → j < l.length → l.getD (p j) 0 < l.getD (p i) 0 ∨ (l.getD (p i) 0 = l.getD (p j) 0 ∧ p i < p j)

theorem mf_of (l : List Int) (hl : l.length = m + 1) (d : Array (Fin (m + 1))) (hP : PermIn 0 (m + 1) (allF m) d) (hS : SortedIn (lexF l) 0 (m + 1) d) :
    ∃ p, MF l p ∧ valF d = (List.range l.length).map (fun k => ((p k : Nat) : Int)) := by
  have hsz : d.size = m + 1 := by rw [hP.1, size_allF]
  have hperm : d.toList.Perm (allF m).toList := by
    have h := hP.2.2
    have e1 : d.extract 0 (m + 1) = d := by have := Array.extract_size (xs := d); rwa [hsz] at this
    have e2 : (allF m).extract 0 (m + 1) = allF m := by have := Array.extract_size (xs := allF m); rwa [size_allF] at this
    rwa [e1, e2] at h
  have hnd : d.toList.Nodup := by
    refine hperm.nodup_iff.2 ?_
    show List.Pairwise _ _
    rw [List.pairwise_iff_getElem]
    intro i j hi hj hij he
    have := congrArg Fin.val he
    simp only [allF, Array.getElem_toList, Array.getElem_ofFn] at this
    omega
  have hne : ∀ i j, i < j → j < l.length → (d[i]!).val ≠ (d[j]!).val := by
    intro i j hij hj he
    have h1 : i < d.size := by omega
    have h2 : j < d.size := by omega
    rw [getElem!_pos _ i h1, getElem!_pos _ j h2] at he
    exact (List.pairwise_iff_getElem.1 hnd) i j (by simpa using h1) (by simpa using h2) hij (by simpa using Fin.ext he)
  refine ⟨fun k => (d[k]!).val, ⟨?_, ?_, ?_, ?_⟩, ?_⟩
  · intro k _; have := (d[k]!).isLt; omega
  · intro x hx
    have hm : (⟨x, by omega⟩ : Fin (m + 1)) ∈ d.toList := hperm.mem_iff.2 (by rw [Array.mem_toList_iff]; simp [allF])
    obtain ⟨k, hk, he⟩ := List.getElem_of_mem hm
    have hk' : k < d.size := by simpa using hk
    refine ⟨k, by omega, ?_⟩
    rw [getElem!_pos _ k hk', ← Array.getElem_toList, he]
  · exact hne
  · intro i j hij hj
    have h0 := hS i j (by omega) hij (by omega)
    rw [Bool.eq_false_iff, ne_eq, lexF_iff] at h0
    have h1 := hne i j hij hj
    omega
  · apply List.ext_getElem
    · simp [valF, hsz, hl]
    · intro i h1 h2
      have hi : i < d.size := by simpa [valF] using h1
      simp [valF, getElem!_pos d i hi]
end

theorem ranks_mf (l : List Int) (h : l.length ≠ 0) : ∃ p, MF l p ∧ ranks l = (List.range l.length).map (fun k => ((p k : Nat) : Int)) := by
  cases l with
  | nil => exact absurd rfl h
  | cons x t =>
    have hc : Sort.insertionSort (ltOf (cmpF (m := t.length) (x :: t))) (allF t.length) 0 (t.length + 1) = Sort.insertionSort (lexF (m := t.length) (x :: t)) (allF t.length) 0 (t.length + 1) :=
      insertionSort_congr _ _ _ _ _ (by rw [size_allF]; exact Nat.le_refl _) fun p q _ h2 h3 => by
        rw [allF_get p (by omega), allF_get q (by omega)]
        exact agree _ _ _ h2
    have hs := insertionSort_holds (lexF_swo (m := t.length) (x :: t)) (allF t.length) 0 (t.length + 1) (by omega) (by rw [size_allF]; exact Nat.le_refl _)
    have hr : ranks (x :: t) = valF (Sort.insertionSort (ltOf (cmpF (m := t.length) (x :: t))) (allF t.length) 0 (t.length + 1)) := rfl
    rw [hr, hc]
    exact mf_of (x :: t) rfl _ hs.1 hs.2
end Go.Proofs.Yticfefiiiinadaa
