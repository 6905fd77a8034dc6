import Derived.Test.YticfefiiiinadaaShG
namespace Go.Proofs.Yticfefiiiinadaa
open Go.RowKit Go.Lib Go.Sort

def addAt (l : List Int) (x : Nat) : List Int := l.set x (l.getD x 0 + 1)
def addAll (ps : List Nat) (l : List Int) : List Int := ps.foldl addAt l
theorem addAt_length (l : List Int) (x : Nat) : (addAt l x).length = l.length := by simp [addAt]
theorem addAll_length (ps : List Nat) (l : List Int) : (addAll ps l).length = l.length := by
  induction ps generalizing l with
  | nil => rfl
  | cons x t ih => simp only [addAll, List.foldl_cons] at *; rw [ih, addAt_length]
theorem addAll_snoc (ps : List Nat) (x : Nat) (l : List Int) : addAll (ps ++ [x]) l = addAt (addAll ps l) x := by simp [addAll, List.foldl_append]

/-- The place of the greatest of the first k + 1, the first of them. -/
def bestUpto (rest : List Int) : Nat → Nat
  | 0 => 0
  | k + 1 => if rest.getD (k + 1) 0 > rest.getD (bestUpto rest k) 0 then k + 1 else bestUpto rest k
theorem bestUpto_le (rest : List Int) : ∀ k, bestUpto rest k ≤ k
  | 0 => Nat.le_refl _
  | k + 1 => by
    have := bestUpto_le rest k
    unfold bestUpto
    split <;> omega
theorem bestUpto_spec (rest : List Int) : ∀ k, (∀ x, x ≤ k → rest.getD x 0 ≤ rest.getD (bestUpto rest k) 0) ∧ (∀ x, x < bestUpto rest k → rest.getD x 0 < rest.getD (bestUpto rest k) 0)
  | 0 => ⟨fun x hx => by obtain rfl : x = 0 := by omega
                         exact Int.le_refl _, fun x hx => by unfold bestUpto at hx; omega⟩
  | k + 1 => by
    obtain ⟨h1, h2⟩ := bestUpto_spec rest k
    have h3 := bestUpto_le rest k
    unfold bestUpto
    split
    · rename_i hg
      refine ⟨fun x hx => ?_, fun x hx => ?_⟩
      · by_cases h : x = k + 1
        · subst h; exact Int.le_refl _
        · have := h1 x (by omega); omega
      · have := h1 x (by omega); omega
    · rename_i hg
      refine ⟨fun x hx => ?_, h2⟩
      by_cases h : x = k + 1
      · subst h; omega
      · exact h1 x (by omega)
theorem best_unique (rest : List Int) (k b : Nat) (hb : b ≤ k) (h1 : ∀ x, x ≤ k → rest.getD x 0 ≤ rest.getD b 0) (h2 : ∀ x, x < b → rest.getD x 0 < rest.getD b 0) : bestUpto rest k = b := by
  obtain ⟨g1, g2⟩ := bestUpto_spec rest k
  have h3 := bestUpto_le rest k
  rcases Nat.lt_trichotomy (bestUpto rest k) b with h | h | h
  · have := h2 _ h; have := g1 b hb; omega
  · exact h
  · have := g2 _ h; have := h1 _ h3; omega

/-- The reference's way: one place more at a time to the one of which most is left over. -/
def stepR (s : List Int × List Int) : List Int × List Int := (addAt s.1 (bestUpto s.2 (s.2.length - 1)), s.2.set (bestUpto s.2 (s.2.length - 1)) (-1))
def loopR : Nat → List Int × List Int → List Int × List Int
  | 0, s => s
  | k + 1, s => stepR (loopR k s)
theorem stepR_length (s : List Int × List Int) : (stepR s).1.length = s.1.length ∧ (stepR s).2.length = s.2.length := by simp [stepR, addAt_length]
theorem loopR_length (k : Nat) (s : List Int × List Int) : (loopR k s).1.length = s.1.length ∧ (loopR k s).2.length = s.2.length := by
  induction k with
  | zero => exact ⟨rfl, rfl⟩
  | succ k ih => have := stepR_length (loopR k s); simp only [loopR]; omega

theorem getD_set (l : List Int) (i j : Nat) (v : Int) (hi : i < l.length) : (l.set i v).getD j 0 = if i = j then v else l.getD j 0 := by
  simp only [List.getD_eq_getElem?_getD, List.getElem?_set]
  by_cases h : i = j
  · subst h; simp [hi]
  · simp [h]

theorem loopR_eq {l : List Int} {p : Nat → Nat} (hM : MF l p) (h0 : ∀ x, 0 ≤ l.getD x 0) (parts : List Int) :
    ∀ k, k ≤ l.length → (loopR k (parts, l)).1 = addAll ((List.range k).map p) parts ∧ (loopR k (parts, l)).2.length = l.length ∧
      ∀ x, x < l.length → ((∃ j, j < k ∧ p j = x) → (loopR k (parts, l)).2.getD x 0 = -1) ∧ ((∀ j, j < k → p j ≠ x) → (loopR k (parts, l)).2.getD x 0 = l.getD x 0)
  | 0, _ => ⟨rfl, rfl, fun x _ => ⟨fun ⟨j, hj, _⟩ => by omega, fun _ => rfl⟩⟩
  | k + 1, hk => by
    obtain ⟨h1, h2, h3⟩ := loopR_eq hM h0 parts k (by omega)
    have hpk := hM.lt k (by omega)
    have hown : (loopR k (parts, l)).2.getD (p k) 0 = l.getD (p k) 0 := (h3 (p k) hpk).2 fun j hj => hM.inj j k hj (by omega)
    have hbest : bestUpto (loopR k (parts, l)).2 ((loopR k (parts, l)).2.length - 1) = p k := by
      refine best_unique _ _ _ (by omega) (fun x hx => ?_) (fun x hx => ?_)
      · rw [hown]
        obtain ⟨j, hj, rfl⟩ := hM.onto x (by omega)
        by_cases hjk : j < k
        · rw [(h3 (p j) (by omega)).1 ⟨j, hjk, rfl⟩]; have := h0 (p k); omega
        · rw [(h3 (p j) (by omega)).2 fun i hi => hM.inj i j (by omega) hj]
          by_cases he : j = k
          · subst he; exact Int.le_refl _
          · have := hM.ord k j (by omega) hj; omega
      · rw [hown]
        obtain ⟨j, hj, rfl⟩ := hM.onto x (by omega)
        by_cases hjk : j < k
        · rw [(h3 (p j) (by omega)).1 ⟨j, hjk, rfl⟩]; have := h0 (p k); omega
        · rw [(h3 (p j) (by omega)).2 fun i hi => hM.inj i j (by omega) hj]
          by_cases he : j = k
          · subst he; omega
          · have := hM.ord k j (by omega) hj; omega
    refine ⟨?_, ?_, fun x hx => ?_⟩
    · simp only [loopR, stepR, hbest]
      rw [h1, List.range_succ, List.map_append, List.map_cons, List.map_nil, addAll_snoc]
    · simp only [loopR, stepR, List.length_set]; exact h2
    · simp only [loopR, stepR, hbest]
      rw [getD_set _ _ _ _ (by omega)]
      constructor
      · rintro ⟨j, hj, hx'⟩
        by_cases he : p k = x
        · rw [if_pos he]
        · rw [if_neg he]
          exact (h3 x hx).1 ⟨j, by rcases Nat.lt_or_ge j k with h | h
                                   · exact h
                                   · have : j = k := by omega
                                     subst this; exact absurd hx' he, hx'⟩
      · intro hn
        rw [if_neg (hn k (by omega))]
        exact (h3 x hx).2 fun j hj => hn j (by omega)

/-- How many are missing. -/
def missing (total : Int) (zs : List Int) : Int := total - sumI (partsL total zs)
theorem missing_bounds (total : Int) (zs : List Int) (hS : 1 ≤ sumI zs) (hn0 : zs.length ≠ 0) : 0 ≤ missing total zs ∧ missing total zs < zs.length := by
  have key : ∀ (t : List Int) (S : Int), sumI (t.map fun n => total * n) = S * sumI (t.map fun n => total * n / S) + sumI (t.map fun n => total * n % S) := by
    intro t S
    induction t with
    | nil => simp [sumI]
    | cons x t ih =>
      simp only [List.map_cons, sumI_cons]
      rw [ih]
      have := Int.mul_ediv_add_emod (total * x) S
      rw [Int.mul_add]
      omega
  have lin : ∀ t : List Int, sumI (t.map fun n => total * n) = total * sumI t := by
    intro t
    induction t with
    | nil => simp [sumI]
    | cons x t ih => simp only [List.map_cons, sumI_cons, ih, Int.mul_add]
  have rem : ∀ t : List Int, 0 ≤ sumI (t.map fun n => total * n % sumI zs) ∧ (t.length ≠ 0 → sumI (t.map fun n => total * n % sumI zs) < sumI zs * t.length) ∧ sumI (t.map fun n => total * n % sumI zs) ≤ sumI zs * t.length := by
    intro t
    induction t with
    | nil => simp [sumI]
    | cons x t ih =>
      have h1 := Int.emod_nonneg (total * x) (show sumI zs ≠ 0 by omega)
      have h2 := Int.emod_lt_of_pos (total * x) (show 0 < sumI zs by omega)
      simp only [List.map_cons, sumI_cons, List.length_cons, Int.natCast_add, Int.mul_add]
      omega
  have h1 := key zs (sumI zs)
  rw [lin] at h1
  obtain ⟨h2, h3, _⟩ := rem zs
  have h3 := h3 hn0
  have e : sumI zs * missing total zs = sumI (zs.map fun n => total * n % sumI zs) := by
    unfold missing partsL
    rw [Int.mul_sub, Int.mul_comm _ total]
    omega
  constructor
  · refine Int.not_lt.1 fun h => ?_
    have : sumI zs * missing total zs < 0 := Int.mul_neg_of_pos_of_neg (by omega) h
    omega
  · refine Int.not_le.1 fun h => ?_
    have : sumI zs * (zs.length : Int) ≤ sumI zs * missing total zs := Int.mul_le_mul_of_nonneg_left h (by omega)
    omega

/-- Split's answer. -/
def splitL (total : Int) (zs : List Int) : List Int := (loopR (missing total zs).toNat (partsL total zs, overL total zs)).1
theorem overL_nonneg (total : Int) (zs : List Int) (hS : 1 ≤ sumI zs) (x : Nat) : 0 ≤ (overL total zs).getD x 0 := by
  by_cases h : x < (overL total zs).length
  · have := getD_mem (overL total zs) x h
    unfold overL at this
    obtain ⟨n, _, hn⟩ := List.mem_map.1 this
    unfold overL
    rw [← hn]; exact Int.emod_nonneg _ (by omega)
  · rw [List.getD_eq_getElem?_getD, List.getElem?_eq_none (by omega)]; exact Int.le_refl _
theorem overL_length (total : Int) (zs : List Int) : (overL total zs).length = zs.length := by simp [overL]
theorem partsL_length (total : Int) (zs : List Int) : (partsL total zs).length = zs.length := by simp [partsL]
theorem splitL_length (total : Int) (zs : List Int) : (splitL total zs).length = zs.length := by unfold splitL; rw [(loopR_length _ _).1, partsL_length]
/-- By the ranks. -/
theorem splitL_eq (total : Int) (zs : List Int) (hS : 1 ≤ sumI zs) (hn0 : zs.length ≠ 0) :
    ∃ p, MF (overL total zs) p ∧ ranks (overL total zs) = (List.range zs.length).map (fun k => ((p k : Nat) : Int)) ∧ splitL total zs = addAll ((List.range (missing total zs).toNat).map p) (partsL total zs) := by
  obtain ⟨p, h1, h2⟩ := ranks_mf (overL total zs) (by rw [overL_length]; exact hn0)
  have hm := missing_bounds total zs hS hn0
  exact ⟨p, h1, by rw [h2, overL_length], (loopR_eq h1 (overL_nonneg total zs hS) (partsL total zs) _ (by rw [overL_length]; omega)).1⟩
end Go.Proofs.Yticfefiiiinadaa
