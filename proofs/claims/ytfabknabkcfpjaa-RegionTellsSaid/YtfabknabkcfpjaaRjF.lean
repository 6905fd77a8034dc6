/- The reference's same: two rows of numbers compared. -/
import Derived.Test.YtfabknabkcfpjaaRjE
namespace Go.Proofs.Ytfabknabkcfpjaa
open Go.RowKit Go.Shelf
def sameI (xs ys : List Int) : Bool := decide (xs = ys)
theorem sameI_no {xs ys : List Int} (h : xs ≠ ys) : sameI xs ys = false := by unfold sameI; simpa using h
theorem sameI_yes {xs ys : List Int} (h : xs = ys) : sameI xs ys = true := by unfold sameI; simpa using h
set_option maxHeartbeats 2000000 in
theorem rsame_c (va vb : Value) (xs ys : List Int) (w : World) (ha : RdK encI 1 w va xs) (hb : RdK encI 1 w vb ys) (hl : xs.length ≤ 1073741824) :
    Calls Try.prog 27 #[va, vb] w fun e w' => e = .returned (.bool (sameI xs ys)) ∧ Below w.heap.size w w' := by
  obtain ⟨p, c, rfl, -⟩ := id ha
  obtain ⟨p', c', rfl, -⟩ := id hb
  have HA := Lib.hid (fun j x hx => rdI ha (j := j) (x := x) hx)
  have HB := Lib.hid (fun j x hx => rdI hb (j := j) (x := x) hx)
  obtain ⟨n, hn⟩ : ∃ n, n = xs.length := ⟨_, rfl⟩
  obtain ⟨m, hm⟩ : ∃ m, m = ys.length := ⟨_, rfl⟩
  rw [← hn] at hl ⊢
  rw [← hm]
  have HN := Lib.hid hn
  have HM := Lib.hid hm
  clear ha hb hn hm
  go_enter Try.func27, Try.ntmps27
  by_cases hnm : n = m
  · subst hnm
    go_wp2_with fail
    go_loopw [5] (fun v wr => ∃ k q : Nat, k ≤ n ∧ v = .int .i64 k ∧ xs.take k = ys.take k ∧ wr = w.drewN q) (fun v _ => n - (intOf v).toNat)
    case atStart => exact ⟨0, 0, Nat.zero_le _, rfl, rfl, rfl⟩
    case round =>
      obtain ⟨k, q, hk, rfl, ht, rfl⟩ := hrel
      have HT := Lib.hid ht
      clear ht
      by_cases hlt : k < n
      · obtain ⟨r, hr⟩ : ∃ r, xs[k]? = some r := ⟨_, List.getElem?_eq_getElem (by rw [← HN.out]; exact hlt)⟩
        obtain ⟨s, hs⟩ : ∃ s, ys[k]? = some s := ⟨_, List.getElem?_eq_getElem (by rw [← HM.out]; exact hlt)⟩
        obtain ⟨b, o, rfl, hb1, r0⟩ := HA.out k r hr
        obtain ⟨b', o', rfl, hc1, s0⟩ := HB.out k s hs
        have HR := Lib.hid hr
        have HS := Lib.hid hs
        clear hr hs hb1 hc1
        have hi0 : (0 : Int) ≤ (k : Int) := by omega
        have hi1 : (k : Int) < (n : Int) := by omega
        by_cases he : r = s
        · subst he
          go_wp2_with fail
          go_quiet (fail)
          go_wp2_with fail
          go_roundw
          case rel => exact ⟨k + 1, _, by omega, by go_num, by rw [take_snoc_get HR.out, take_snoc_get HS.out, HT.out], rfl⟩
          case measure => simp [intOf]; omega
        · have HE2 := Lib.hid (show sameI xs ys = false from sameI_no fun e => he (by have h1 := HR.out; have h2 := HS.out; rw [e, h2] at h1; injection h1 with h1; exact h1.symm))
          go_wp2_with fail
          go_quiet (fail)
          go_wp2_with fail
          go_ret
          exact ⟨by rw [HE2.out]; rfl, below_drewN (below_drewN (Below.refl _ _) _) _⟩
      · have HE2 := Lib.hid (show sameI xs ys = true from sameI_yes (by have := HT.out; rwa [List.take_of_length_le (by rw [← HN.out]; omega), List.take_of_length_le (by rw [← HM.out]; omega)] at this))
        go_wp2_with fail
        go_ret
        exact ⟨by rw [HE2.out]; rfl, below_drewN (Below.refl _ _) _⟩
  · have HE := Lib.hid (show sameI xs ys = false from sameI_no fun e => hnm (by rw [HN.out, HM.out, e]))
    have hnm' : (n : Int) ≠ (m : Int) := by omega
    go_wp2_with fail
    go_ret
    exact ⟨by rw [HE.out]; rfl, Below.refl _ _⟩
end Go.Proofs.Ytfabknabkcfpjaa
