/- cuts: the rows at which rectangles begin or end, rising. -/
import Derived.Test.YtfabknabkcfpjaaRhJ
import Derived.Lib.SlicesCompact
namespace Go.Proofs.Ytfabknabkcfpjaa
open Go.RowKit Go.Shelf Go.Sort
/-! ### A sorted list, compacted -/
theorem compact_inv (d : Array Int) (hs : ∀ i j, i < j → j < d.size → d[i]! ≤ d[j]!) : ∀ m, m ≤ d.size →
    (Lib.compactUpTo d m).Pairwise (· < ·) ∧ (∀ y, y ∈ Lib.compactUpTo d m ↔ ∃ i, i < m ∧ d[i]! = y)
  | 0, _ => ⟨by simp [Lib.compactUpTo], fun y => by simp [Lib.compactUpTo]⟩
  | m + 1, hm => by
    obtain ⟨h1, h2⟩ := compact_inv d hs m (by omega)
    rw [Lib.compactUpTo_succ]
    by_cases hk : Lib.keeps d m = true
    · rw [if_pos hk]
      refine ⟨?_, fun y => ?_⟩
      · rw [List.pairwise_append]
        refine ⟨h1, by simp, fun a ha b hb => ?_⟩
        rw [List.mem_singleton.1 hb]
        obtain ⟨i, hi, rfl⟩ := (h2 a).1 ha
        have hm0 : m ≠ 0 := by omega
        have h3 : d[m - 1]! ≠ d[m]! := by
          unfold Lib.keeps at hk
          simp at hk
          rcases hk with h | h
          · exact absurd h hm0
          · exact fun e => h e.symm
        have h4 := hs (m - 1) m (by omega) (by omega)
        rcases Nat.lt_or_ge i (m - 1) with h5 | h5
        · have := hs i (m - 1) h5 (by omega); omega
        · obtain rfl : i = m - 1 := by omega
          omega
      · rw [List.mem_append, h2 y, List.mem_singleton]
        constructor
        · rintro (⟨i, hi, rfl⟩ | rfl)
          · exact ⟨i, by omega, rfl⟩
          · exact ⟨m, by omega, rfl⟩
        · rintro ⟨i, hi, rfl⟩
          rcases Nat.lt_or_ge i m with h | h
          · exact .inl ⟨i, h, rfl⟩
          · obtain rfl : i = m := by omega
            exact .inr rfl
    · rw [if_neg hk, List.append_nil]
      refine ⟨h1, fun y => ?_⟩
      rw [h2 y]
      have hm0 : m ≠ 0 := by
        rintro rfl
        exact hk (by simp [Lib.keeps])
      have h3 : d[m]! = d[m - 1]! := by
        unfold Lib.keeps at hk
        simp at hk
        exact hk.2
      constructor
      · rintro ⟨i, hi, rfl⟩; exact ⟨i, by omega, rfl⟩
      · rintro ⟨i, hi, rfl⟩
        rcases Nat.lt_or_ge i m with h | h
        · exact ⟨i, h, rfl⟩
        · obtain rfl : i = m := by omega
          exact ⟨i - 1, by omega, h3.symm⟩
theorem compact_sorted {zs : List Int} (hs : zs.Pairwise (· ≤ ·)) : (Lib.compact zs).Pairwise (· < ·) ∧ ∀ y, y ∈ Lib.compact zs ↔ y ∈ zs := by
  have h := compact_inv zs.toArray (fun i j hij hj => by
    have hj' : j < zs.length := by simpa using hj
    rw [getElem!_pos zs.toArray i (by simp; omega), getElem!_pos zs.toArray j (by simpa using hj)]
    simpa using (List.pairwise_iff_getElem.1 hs) i j (by omega) hj' hij) zs.length (by simp)
  refine ⟨h.1, fun y => ?_⟩
  unfold Lib.compact
  rw [h.2 y]
  constructor
  · rintro ⟨i, hi, rfl⟩
    rw [getElem!_pos zs.toArray i (by simpa using hi)]
    simp
  · intro hy
    obtain ⟨i, hi, rfl⟩ := List.mem_iff_getElem.1 hy
    exact ⟨i, hi, by rw [getElem!_pos zs.toArray i (by simpa using hi)]; simp⟩
end Go.Proofs.Ytfabknabkcfpjaa
