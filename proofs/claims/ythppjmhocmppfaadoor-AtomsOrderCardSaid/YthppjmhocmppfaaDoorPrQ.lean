/- What is written is read as it was, and what is read is written as it was (pure). -/
import Derived.Test.YthppjmhocmppfaaDoorPrD
namespace Go.Proofs.YthppjmhocmppfaaDoor
open Go.RowKit
theorem data_at {xs : List Int} : ∀ {k : Nat} {x : Int}, xs[k]? = some x → ∀ i, i < 4 → (dataL xs)[4 * k + i]? = (byt4 x)[i]? := by
  induction xs with
  | nil => intro k x h; simp at h
  | cons y t ih =>
    intro k x h i hi
    unfold dataL at ih ⊢
    rw [List.flatMap_cons]
    cases k with
    | zero =>
      simp at h
      subst h
      rw [List.getElem?_append_left (by rw [show (byt4 y).length = 4 from rfl]; omega), Nat.mul_zero, Nat.zero_add]
    | succ k =>
      rw [List.getElem?_append_right (by rw [show (byt4 y).length = 4 from rfl]; omega), show 4 * (k + 1) + i - (byt4 y).length = 4 * k + i by rw [show (byt4 y).length = 4 from rfl]; omega]
      exact ih (by simpa using h) i hi
theorem byt_str {ds : List Int} {j : Nat} {d : Int} (h : ds[j]? = some d) (h0 : 0 ≤ d) (h1 : d ≤ 255) : byt (strOfNums ds) j = d := by
  have hj := (List.getElem?_eq_some_iff.1 h).1
  have hs : j < (strOfNums ds).size := by rw [strOfNums_size]; exact hj
  rw [byt_at hs]
  have h2 : (strOfNums ds).data.toList[j]? = some (strOfNums ds)[j] := by
    rw [List.getElem?_eq_getElem (by rw [strOfNums_data]; simpa using hj)]; rfl
  rw [strOfNums_data, List.getElem?_map, h] at h2
  simp only [Option.map_some, Option.some.injEq] at h2
  rw [← h2]
  obtain ⟨n, rfl⟩ := Int.eq_ofNat_of_zero_le h0
  simp only [Int.toNat_natCast, UInt8.toNat_ofNat']
  omega
theorem num4_byt4 {x : Int} (h0 : -2147483648 ≤ x) (h1 : x < 2147483648) : num4 (x % 256) (x / 256 % 256) (x / 65536 % 256) (x / 16777216 % 256) = x := by
  unfold num4
  split <;> omega
theorem nums_data {xs : List Int} (hx : ∀ x ∈ xs, -2147483648 ≤ x ∧ x < 2147483648) : numsL (strOfNums (dataL xs)) = xs := by
  have hsz : (strOfNums (dataL xs)).size = 4 * xs.length := by rw [strOfNums_size, dataL_len]
  have hl : (numsL (strOfNums (dataL xs))).length = xs.length := by rw [numsL_len, hsz]; omega
  apply list_same hl
  intro k hk
  rw [hl] at hk
  obtain ⟨x, hxk⟩ : ∃ x, xs[k]? = some x := ⟨_, List.getElem?_eq_getElem hk⟩
  obtain ⟨h0, h1⟩ := hx x (List.mem_of_getElem? hxk)
  rw [numsL_at (by rw [hsz]; omega), hxk]
  unfold numAt
  have e0 := data_at hxk 0 (by omega)
  have e1 := data_at hxk 1 (by omega)
  have e2 := data_at hxk 2 (by omega)
  have e3 := data_at hxk 3 (by omega)
  rw [Nat.add_zero] at e0
  rw [byt_str (e0.trans rfl) (by omega) (by omega), byt_str (e1.trans rfl) (by omega) (by omega), byt_str (e2.trans rfl) (by omega) (by omega), byt_str (e3.trans rfl) (by omega) (by omega), num4_byt4 h0 h1]
theorem byt4_num4 {a b c d : Int} (ha : 0 ≤ a ∧ a ≤ 255) (hb : 0 ≤ b ∧ b ≤ 255) (hc : 0 ≤ c ∧ c ≤ 255) (hd : 0 ≤ d ∧ d ≤ 255) : byt4 (num4 a b c d) = [a, b, c, d] := by
  unfold byt4 num4
  split <;> (simp only [List.cons.injEq, and_true]; refine ⟨?_, ?_, ?_, ?_⟩ <;> omega)
theorem data_nums {s : ByteArray} (h4 : s.size % 4 = 0) : strOfNums (dataL (numsL s)) = s := by
  have hln : (dataL (numsL s)).length = s.size := by rw [dataL_len, numsL_len]; omega
  apply ByteArray.ext
  apply Array.toList_inj.1
  rw [strOfNums_data]
  apply list_same
  · rw [List.length_map, hln]; simp
  · intro j hj
    rw [List.length_map, hln] at hj
    have hb : (dataL (numsL s))[j]? = some (byt s j) := by
      obtain ⟨q, r, hr, rfl⟩ : ∃ q r, r < 4 ∧ j = 4 * q + r := ⟨j / 4, j % 4, Nat.mod_lt _ (by omega), by omega⟩
      have hat := data_at (numsL_at (s := s) (k := q) (by omega)) r hr
      unfold numAt at hat
      rw [byt4_num4 (byt_in ..) (byt_in ..) (byt_in ..) (byt_in ..)] at hat
      rw [hat]
      match r, hr with
      | 0, _ => rfl
      | 1, _ => rfl
      | 2, _ => rfl
      | 3, _ => rfl
    rw [List.getElem?_map, hb, List.getElem?_eq_getElem (by simpa using hj)]
    rw [byt_at hj]
    simp
    rfl
end Go.Proofs.YthppjmhocmppfaaDoor
