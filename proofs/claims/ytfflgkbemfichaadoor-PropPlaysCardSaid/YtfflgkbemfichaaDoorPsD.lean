/- The document's Name, walked. -/
import Derived.Test.YtfflgkbemfichaaDoorPsC
namespace Go.Proofs.YtfflgkbemfichaaDoor
open Go.RowKit Go.Maps
def sgnL : Array UInt8 := #[97, 98, 99, 100, 101, 102, 103, 104, 105, 106, 107, 108, 109, 110, 111, 112, 113, 114, 115, 116, 117, 118, 119, 120, 121, 122, 65, 66, 67, 68, 69, 70, 71, 72, 73, 74, 75, 76, 77, 78, 79, 80, 81, 82, 83, 84, 85, 86, 87, 88, 89, 90, 48, 49, 50, 51, 52, 53, 54, 55, 56, 57, 95]
abbrev sgnB : ByteArray := ⟨#[97, 98, 99, 100, 101, 102, 103, 104, 105, 106, 107, 108, 109, 110, 111, 112, 113, 114, 115, 116, 117, 118, 119, 120, 121, 122, 65, 66, 67, 68, 69, 70, 71, 72, 73, 74, 75, 76, 77, 78, 79, 80, 81, 82, 83, 84, 85, 86, 87, 88, 89, 90, 48, 49, 50, 51, 52, 53, 54, 55, 56, 57, 95]⟩
def sgn (j : Nat) : Int := ((sgnL[j]?.getD 0).toNat : Int)
def anyB (x : Int) (m : Nat) : Bool := (List.range m).any fun j => sgn j == x
theorem any_all (x : Nat) (hx : x < 256) : anyB (x : Int) 63 = inN (x : Int) := by
  have h : ∀ y : Fin 256, anyB (y.val : Int) 63 = inN (y.val : Int) := by decide +kernel
  exact h ⟨x, hx⟩
theorem any_succ (x : Int) (m : Nat) : anyB x (m + 1) = (anyB x m || (sgn m == x)) := by
  unfold anyB
  rw [List.range_succ, List.any_append]
  simp
theorem sgn_at {j : Nat} (hj : j < sgnB.size) : sgn j = ((sgnB[j]'hj).toNat : Int) := by
  have h : j < sgnL.size := hj
  unfold sgn
  rw [Array.getElem?_eq_getElem h]
  rfl
set_option maxRecDepth 100000 in
set_option maxHeartbeats 4000000 in
theorem rname_c (s : ByteArray) (w : World) (hs : s.size ≤ 9223372036854775807) : Calls Tryd.prog 22 #[.string s] w fun e w' => e = .returned (.bool (nameB s)) ∧ Below w.heap.size w w' := by
  obtain ⟨n, hn⟩ : ∃ n, n = s.size := ⟨_, rfl⟩
  have HN := Lib.hid hn
  have HS := Lib.hid hs
  clear hn hs
  go_enter Tryd.func22, Tryd.ntmps22
  go_wp2_with fail
  go_loopw [3] (fun z wr => ∃ k q : Nat, k ≤ s.size ∧ z = .int .i64 k ∧ wr = w.drewN q ∧ Asd (∀ j, j < k → inN (byt s j) = true)) (fun z _ => s.size - (intOf z).toNat)
  case atStart => exact ⟨0, 0, Nat.zero_le _, rfl, rfl, fun j hj => absurd hj (Nat.not_lt_zero _)⟩
  case round =>
    obtain ⟨k, q, hk, rfl, rfl, hA⟩ := hrel
    have HA := Lib.hid (show ∀ j, j < k → inN (byt s j) = true from hA)
    have hk0 : (0 : Int) ≤ (k : Int) := by omega
    clear hA
    by_cases hlt : k < s.size
    · have hk1 : (k : Int) < (s.size : Int) := by omega
      obtain ⟨x, hx⟩ : ∃ x, x = (s[k]'hlt).toNat := ⟨_, rfl⟩
      have HX := Lib.hid hx
      have HLT := Lib.hid hlt
      clear hx
      go_wp2_with fail
      go_loopw [4, 5] (fun f z wr => ∃ m r : Nat, m ≤ 63 ∧ z = .int .i64 m ∧ f = .bool (anyB (x : Int) m) ∧ wr = w.drewN r) (fun _ z _ => 63 - (intOf z).toNat)
      case atStart => exact ⟨0, q, by omega, rfl, rfl, rfl⟩
      case round =>
        obtain ⟨m, r, hm, rfl, rfl, rfl⟩ := hrel
        have hm0 : (0 : Int) ≤ (m : Int) := by omega
        by_cases hm3 : m < 63
        · have hm1 : (m : Int) < 63 := by omega
          cases hf : anyB (x : Int) m with
          | true =>
            go_wp2_with fail
            go_quiet (fail)
            go_wp2_with fail
            go_roundw
            case rel => exact ⟨m + 1, _, by omega, by go_num, by rw [any_succ, hf]; rfl, rfl⟩
            case measure => simp [intOf]; omega
          | false =>
            have hsz : m < sgnB.size := hm3
            go_wp2_with fail
            go_quiet (fail)
            go_wp2_with fail
            go_roundw
            case rel => exact ⟨m + 1, _, by omega, by go_num, by rw [any_succ, hf, sgn_at hsz, HX.out]; rfl, rfl⟩
            case measure => simp [intOf]; omega
        · obtain rfl : m = 63 := by omega
          have HIN := Lib.hid (show inN (byt s k) = anyB (x : Int) 63 by
            rw [any_all x (by rw [HX.out]; exact UInt8.toNat_lt _), HX.out, byt_at HLT.out])
          cases hf : anyB (x : Int) 63 with
          | true =>
            have HF := Lib.hid hf
            have hs9 : (k : Int) + 1 ≤ 9223372036854775807 := by have := HS.out; have := HLT.out; omega
            have hwr : wrap64 ((k : Int) + 1) = (k : Int) + 1 := by unfold wrap64; omega
            go_wp2_with fail
            go_roundw
            case rel => exact ⟨k + 1, _, by omega, by go_num, rfl, fun j hj => by
              rcases Nat.lt_or_ge j k with h | h
              · exact HA.out j h
              · obtain rfl : j = k := by omega
                rw [HIN.out, HF.out]⟩
            case measure => simp [intOf]; omega
          | false =>
            have HR := Lib.hid (show nameB s = false from decide_eq_false (fun h => by
              have := h.2 k HLT.out
              rw [HIN.out, hf] at this
              cases this))
            go_wp2_with fail
            go_ret
            exact ⟨ret_bool HR.out.symm, below_drewN (Below.refl _ _) _⟩
    · obtain rfl : k = s.size := by omega
      by_cases h1 : 1 ≤ s.size
      · by_cases h2 : s.size ≤ 32
        · have g1 : (1 : Int) ≤ (s.size : Int) := by omega
          have g2 : (s.size : Int) ≤ 32 := by omega
          have HR := Lib.hid (show nameB s = true from decide_eq_true ⟨⟨h1, h2⟩, HA.out⟩)
          go_wp2_with fail
          go_ret
          exact ⟨ret_bool HR.out.symm, below_drewN (Below.refl _ _) _⟩
        · have g1 : (1 : Int) ≤ (s.size : Int) := by omega
          have g2 : ¬ (s.size : Int) ≤ 32 := by omega
          have HR := Lib.hid (show nameB s = false from decide_eq_false (fun h => h2 h.1.2))
          go_wp2_with fail
          go_ret
          exact ⟨ret_bool HR.out.symm, below_drewN (Below.refl _ _) _⟩
      · have g1 : ¬ (1 : Int) ≤ (s.size : Int) := by omega
        have HR := Lib.hid (show nameB s = false from decide_eq_false (fun h => h1 h.1.1))
        go_wp2_with fail
        go_ret
        exact ⟨ret_bool HR.out.symm, below_drewN (Below.refl _ _) _⟩
end Go.Proofs.YtfflgkbemfichaaDoor
