/- A text cut at its bytes 0 (pure). -/
import Derived.Lib.SplitLaws
import Derived.Lib.IndexBytes
import Derived.Lib.Strings
namespace Go.Proofs.YthppjmhocmppfaaDoor
open Go.Lib
def cutF (a : List (List UInt8) × List UInt8) (b : UInt8) : List (List UInt8) × List UInt8 := if b = 0 then (a.1 ++ [a.2], []) else (a.1, a.2 ++ [b])
/-- What stands ahead of each byte 0, and what is left. -/
def cutAll (l : List UInt8) : List (List UInt8) × List UInt8 := l.foldl cutF ([], [])
theorem cutAll_snoc (l : List UInt8) (b : UInt8) : cutAll (l ++ [b]) = cutF (cutAll l) b := by unfold cutAll; rw [List.foldl_append]; rfl
theorem cut_split : ∀ (l : List UInt8) (i : List (List UInt8)) (c : List UInt8), ∃ p ps, splitK [0] 0 (count l [0]) l = p :: ps ∧ (l.foldl cutF (i, c)).1 ++ [(l.foldl cutF (i, c)).2] = i ++ (c ++ p) :: ps
  | [], i, c => ⟨[], [], by rw [count_one]; rfl, by simp⟩
  | b :: t, i, c => by
    by_cases hb : b = 0
    · subst hb
      obtain ⟨p, ps, h1, h2⟩ := cut_split t (i ++ [c]) []
      refine ⟨[], p :: ps, ?_, ?_⟩
      · have hix : index (0 :: t) [0] = 0 := by rw [index]; simp [List.isPrefixOf]
        rw [count_cons_eq, Nat.add_comm, splitK, hix]
        simp [h1]
      · rw [List.foldl_cons, show cutF (i, c) 0 = (i ++ [c], []) from rfl, h2]
        simp
    · obtain ⟨p, ps, h1, h2⟩ := cut_split t i (c ++ [b])
      have hf : cutF (i, c) b = (i, c ++ [b]) := if_neg hb
      have hp : ([0] : List UInt8).isPrefixOf (b :: t) = false := by simp [List.isPrefixOf, Ne.symm hb]
      have hix : index (b :: t) [0] = if index t [0] == -1 then -1 else index t [0] + 1 := by rw [index, hp]; simp
      refine ⟨b :: p, ps, ?_, ?_⟩
      · rw [count_cons_ne b 0 t hb]
        by_cases hm : index t [0] = -1
        · have hc : count t [0] = 0 := count_miss hm
          rw [hc] at h1 ⊢
          simp only [splitK] at h1 ⊢
          injection h1 with e1 e2
          rw [← e1, ← e2]
        · have hge := index_ge t [0]
          obtain ⟨j, hj⟩ : ∃ j : Nat, index t [0] = j := ⟨(index t [0]).toNat, by omega⟩
          have hc := count_hit (sub := [0]) (by simp) hj
          obtain ⟨k, hk⟩ : ∃ k, count t [0] = k + 1 := ⟨_, by rw [hc, Nat.add_comm]⟩
          have hix' : index (b :: t) [0] = ((j + 1 : Nat) : Int) := by rw [hix, if_neg (fun e => hm (beq_iff_eq.1 e)), hj]; omega
          rw [hk] at h1 ⊢
          rw [splitK, hj] at h1
          rw [splitK, hix']
          have e1 : ¬ (((j : Nat) : Int) == -1) = true := fun e => by have := beq_iff_eq.1 e; omega
          have e2 : ¬ (((j + 1 : Nat) : Int) == -1) = true := fun e => by have := beq_iff_eq.1 e; omega
          rw [if_neg e1] at h1
          rw [if_neg e2]
          simp only [Int.toNat_natCast, Nat.add_zero, List.cons.injEq] at h1 ⊢
          obtain ⟨h3, h4⟩ := h1
          exact ⟨by rw [List.take_succ_cons, h3], by rw [← h4]; rfl⟩
      · rw [List.foldl_cons, hf, h2]
        simp
/-- Split at the byte 0. -/
theorem split_cut (l : List UInt8) : split l [0] = (cutAll l).1 ++ [(cutAll l).2] := by
  obtain ⟨p, ps, h1, h2⟩ := cut_split l [] []
  unfold split cutAll
  rw [h1, h2]
  simp
theorem cut_len' : ∀ (l : List UInt8) (a : List (List UInt8) × List UInt8), (l.foldl cutF a).1.length ≤ a.1.length + l.length
  | [], a => Nat.le_refl _
  | b :: t, a => by
    have h := cut_len' t (cutF a b)
    have h2 : (cutF a b).1.length ≤ a.1.length + 1 := by unfold cutF; split <;> simp
    simp only [List.foldl_cons, List.length_cons]; omega
theorem cut_len (l : List UInt8) : (cutAll l).1.length ≤ l.length := by have h := cut_len' l ([], []); simpa [cutAll] using h
abbrev txt (l : List UInt8) : ByteArray := ⟨l.toArray⟩
theorem txt_of (s : ByteArray) : txt s.data.toList = s := rfl
theorem splitB_cut (s : ByteArray) : splitB ⟨#[0]⟩ 0 (countB s ⟨#[0]⟩) s = ((cutAll s.data.toList).1 ++ [(cutAll s.data.toList).2]).map txt := by
  have h1 := splitB_data ⟨#[0]⟩ 0 (countB s ⟨#[0]⟩) s
  have h2 := split_cut s.data.toList
  rw [← h2]
  unfold split
  have h3 : (splitB ⟨#[0]⟩ 0 (countB s ⟨#[0]⟩) s).map (·.data.toList) = splitK [0] 0 (count s.data.toList [0]) s.data.toList := h1
  rw [← h3, List.map_map]
  exact (List.map_id _).symm
/-- What a last byte 0 leaves. -/
theorem cut_end (t : List UInt8) : cutAll (t ++ [0]) = ((cutAll t).1 ++ [(cutAll t).2], []) := by rw [cutAll_snoc]; rfl
theorem cut_other (t : List UInt8) {b : UInt8} (hb : b ≠ 0) : (cutAll (t ++ [b])).2 ≠ [] := by
  rw [cutAll_snoc]
  unfold cutF
  rw [if_neg hb]
  simp
end Go.Proofs.YthppjmhocmppfaaDoor
