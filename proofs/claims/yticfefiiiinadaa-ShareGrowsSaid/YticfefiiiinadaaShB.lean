import Derived.Test.YticfefiiiinadaaShA
import Derived.Below
import Derived.Laws.AppendOwn
import Derived.Laws.OwnMore
import Derived.Deep.AppendLies
namespace Go.Proofs.Yticfefiiiinadaa
open Go.RowKit

theorem own_below {B : Nat} {e : TypeId} {k : Nat} {v : Value} {n : Nat} {xs : List Value} {w w' : World} (h : w.ownsRow B e k v n xs) (hb : Below w.heap.size w w') : w'.ownsRow B e k v n xs :=
  h.kept (row := none) ⟨hb.os, hb.tape, hb.output, hb.size, fun j hj _ => hb.block j hj⟩ (by cases hv : v.ownBlock <;> simp)

/-- A row of ints at a place. -/
def SI (w : World) (b off : Nat) (zs : List Int) : Prop := ∀ j, j < zs.length → w.cell? ⟨b, off + j, none⟩ = some (.int .i64 (zs.getD j 0))

def sumI (l : List Int) : Int := l.foldl (· + ·) 0
theorem sumI_append (l : List Int) (x : Int) : sumI (l ++ [x]) = sumI l + x := by simp [sumI, List.foldl_append]
theorem foldl_add (l : List Int) (a : Int) : l.foldl (· + ·) a = a + sumI l := by
  induction l generalizing a with
  | nil => simp [sumI]
  | cons x t ih => simp only [sumI, List.foldl_cons]; rw [ih, ih (0 + x)]; omega
theorem sumI_cons (x : Int) (l : List Int) : sumI (x :: l) = x + sumI l := by simp only [sumI, List.foldl_cons]; rw [foldl_add]; unfold sumI; omega
theorem take_next (zs : List Int) (k : Nat) (hk : k < zs.length) : zs.take (k + 1) = zs.take k ++ [zs.getD k 0] := by
  rw [List.take_add_one, List.getElem?_eq_getElem hk, List.getD_eq_getElem?_getD, List.getElem?_eq_getElem hk]; rfl
theorem sumI_next (zs : List Int) (k : Nat) (hk : k < zs.length) : sumI (zs.take (k + 1)) = sumI (zs.take k) + zs.getD k 0 := by rw [take_next zs k hk, sumI_append]
theorem sumI_bound (l : List Int) (M : Int) (h : ∀ z ∈ l, 0 ≤ z ∧ z ≤ M) : 0 ≤ sumI l ∧ sumI l ≤ M * l.length := by
  induction l with
  | nil => simp [sumI]
  | cons x t ih =>
    have h1 := h x (by simp)
    have h2 := ih (fun z hz => h z (by simp [hz]))
    rw [sumI_cons, List.length_cons, Int.natCast_add, Int.mul_add]
    omega
theorem getD_mem (l : List Int) (k : Nat) (h : k < l.length) : l.getD k 0 ∈ l := by
  rw [List.getD_eq_getElem?_getD, List.getElem?_eq_getElem h]; exact List.getElem_mem h

set_option maxHeartbeats 1000000 in
theorem sum_c (b off cap : Nat) (zs : List Int) (w : World) (M : Int) (hM : ∀ z ∈ zs, 0 ≤ z ∧ z ≤ M) (hM0 : 0 ≤ M) (hMM : M ≤ 1099511627776) (hn : zs.length ≤ 64) (hc : SI w b off zs) :
    Calls Try.prog 26 #[.slice (some ⟨b, off, none⟩) zs.length cap] w fun e w' => e = .returned (.int .i64 (sumI zs)) ∧ w = w' := by
  have hsum : ∀ k : Nat, 0 ≤ sumI (zs.take k) ∧ sumI (zs.take k) ≤ M * 64 := by
    intro k
    have h1 := sumI_bound (zs.take k) M (fun z hz => hM z (List.mem_of_mem_take hz))
    have h2 : (zs.take k).length ≤ 64 := by simp; omega
    refine ⟨h1.1, Int.le_trans h1.2 ?_⟩
    exact Int.mul_le_mul_of_nonneg_left (by omega) hM0
  have hs := Lib.hid hsum
  have hm := Lib.hid hM
  have hC := Lib.hid hc
  clear hsum hM hc
  go_enter Try.func26, Try.ntmps26
  go_wp2
  go_loop [3, 8] (fun t i => ∃ k : Nat, k ≤ zs.length ∧ i = .int .i64 k ∧ t = .int .i64 (sumI (zs.take k))) (fun _ i => zs.length - (intOf i).toNat)
  case atStart => exact ⟨0, Nat.zero_le _, rfl, rfl⟩
  case round =>
    obtain ⟨k, hk, rfl, rfl⟩ := hrel
    by_cases hlt : k < zs.length
    · have hcell := hC.out k hlt
      have h1 := hs.out k
      have h2 := hm.out _ (getD_mem zs k hlt)
      have h3 := sumI_next zs k hlt
      have hlt' : (k : Int) < (zs.length : Int) := by omega
      generalize hz : zs.getD k 0 = z at hcell h2 h3
      generalize hS : sumI (zs.take k) = s at h1 h3 ⊢
      clear hz
      go_wp2
      go_round
      case rel => exact ⟨k + 1, by omega, by go_num, by rw [h3]⟩
      case measure => simp [intOf]; omega
    · have hlt' : ¬ (k : Int) < (zs.length : Int) := by omega
      have : k = zs.length := by omega
      subst this
      rw [List.take_length]
      go_wp2
      go_ret
      exact ⟨rfl, rfl⟩
end Go.Proofs.Yticfefiiiinadaa
