/- The signs' rows: as the code makes them, and as the document does; what a byte's places are. -/
namespace Go.Proofs.Ytedhgdjlcddchaa
/-- What is added up for a row of a sign. -/
def sumN (c r : Nat) : Nat := c * 31 + r * 53 + r * (c / 8)
def mixN (c r : Nat) : Nat := sumN c r &&& 126 ||| 2 ^ (1 + (c + r) % 6)
def boxN (r : Nat) : Nat := if r = 2 ∨ r = 13 then 126 else if 2 < r ∧ r < 13 then 66 else 0
def bitN (c r : Nat) : Nat :=
  if 15 < r ∨ c = 32 then 0 else if 32 < c ∧ c ≤ 126 then (if r = 0 ∨ r = 15 then 0 else mixN c r) else boxN r
def bitI (c row : Int) : Int := if row < 0 then 0 else bitN c.toNat row.toNat
/-- The document's sum, up to the k-th place. -/
def refS (c r : Nat) : Nat → Nat
  | 0 => 0
  | k + 1 => if sumN c r / 2 ^ (k + 1) % 2 = 1 ∨ k + 1 = 1 + (c + r) % 6 then refS c r k + 2 ^ (k + 1) else refS c r k
def allB (n : Nat) (p : Nat → Bool) : Bool := (List.range n).all p
theorem allB_of {n : Nat} {p : Nat → Bool} (h : allB n p = true) {i : Nat} (hi : i < n) : p i = true := by
  unfold allB at h
  rw [List.all_eq_true] at h
  exact h i (List.mem_range.2 hi)
theorem ref_all : allB 127 (fun c => allB 16 fun r => decide (refS c r 6 = mixN c r)) = true := by decide +kernel
theorem ref_mix {c r : Nat} (hc : c ≤ 126) (hr : r ≤ 15) : refS c r 6 = mixN c r := by
  have h := allB_of (allB_of ref_all (i := c) (by omega)) (i := r) (by omega)
  simpa using h
theorem mix_all : allB 127 (fun c => allB 16 fun r => decide (mixN c r < 127 ∧ 0 < mixN c r ∧ mixN c r % 2 = 0)) = true := by decide +kernel
theorem mix_lt {c r : Nat} (hc : c ≤ 126) (hr : r ≤ 15) : mixN c r < 127 ∧ 0 < mixN c r ∧ mixN c r % 2 = 0 := by
  have h := allB_of (allB_of mix_all (i := c) (by omega)) (i := r) (by omega)
  simpa using h
theorem refS_le (c r k : Nat) : refS c r k < 2 ^ (k + 1) := by
  induction k with
  | zero => simp [refS]
  | succ k ih =>
    unfold refS
    have : (2 : Nat) ^ (k + 1 + 1) = 2 * 2 ^ (k + 1) := by rw [Nat.pow_succ]; omega
    split <;> omega
theorem bit_lt (c r : Nat) : bitN c r < 127 ∧ bitN c r % 2 = 0 := by
  unfold bitN boxN
  split
  · omega
  · split
    · split
      · omega
      · have := mix_lt (c := c) (r := r) (by omega) (by omega); omega
    · split
      · omega
      · split <;> omega
/-- Has a row's place its bit? -/
def onB (b x : Nat) : Bool := b / 2 ^ (7 - x) % 2 == 1
theorem on_all : allB 256 (fun b => allB 8 fun x => decide (((b &&& (128 / 2 ^ x)) = 0) = (onB b x = false))) = true := by decide +kernel
theorem on_and {b x : Nat} (hb : b < 256) (hx : x < 8) : ((b &&& (128 / 2 ^ x)) = 0) ↔ (onB b x = false) := by
  have h := allB_of (allB_of on_all (i := b) (by omega)) (i := x) (by omega)
  have e := of_decide_eq_true h
  rw [e]
theorem edge_all : allB 127 (fun b => decide (b % 2 = 1 ∨ (b &&& 129) = 0)) = true := by decide +kernel
theorem edge_none {b : Nat} (hb : b < 127) (h2 : b % 2 = 0) : (b &&& 129) = 0 := by
  have h := allB_of edge_all (i := b) (by omega)
  simp at h
  rcases h with h | h
  · omega
  · exact h
/-- How many rows of a sign, of the first k, have a place. -/
def rowsN (c : Nat) : Nat → Nat
  | 0 => 0
  | k + 1 => if bitN c k = 0 then rowsN c k else rowsN c k + 1
theorem seen_all : allB 256 (fun c => decide (decide (0 < rowsN c 16) = !(c == 32))) = true := by decide +kernel
theorem seen_of {c : Nat} (hc : c < 256) : decide (0 < rowsN c 16) = !(c == 32) := by
  have h := allB_of seen_all (i := c) (by omega)
  simpa using h
theorem rows_le (c k : Nat) : rowsN c k ≤ k := by
  induction k with
  | zero => simp [rowsN]
  | succ k ih => unfold rowsN; split <;> omega
end Go.Proofs.Ytedhgdjlcddchaa
