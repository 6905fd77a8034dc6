/- Names, walked: the code's and the document's. -/
import Derived.Test.YteaeccmlibmmmaaRhA
import Derived.Laws.RangeAny
import Derived.IntWalk
import Derived.Maps.AppendAt
namespace Go.Proofs.Yteaeccmlibmmmaa
open Go.RowKit Go.Maps
/-- A byte of a text; 0 behind its end. -/
def byt (s : ByteArray) (k : Nat) : Int := if h : k < s.size then (s[k].toNat : Int) else 0
theorem byt_at {s : ByteArray} {k : Nat} (h : k < s.size) : byt s k = (s[k].toNat : Int) := dif_pos h
theorem byt_in (s : ByteArray) (k : Nat) : 0 ≤ byt s k ∧ byt s k ≤ 255 := by
  unfold byt
  split
  · have := s[k].toNat_lt; omega
  · omega
def inN (r : Int) : Bool := decide (97 ≤ r ∧ r ≤ 122 ∨ 65 ≤ r ∧ r ≤ 90 ∨ 48 ≤ r ∧ r ≤ 57 ∨ r = 95)
/-- May a text be a name? -/
def nameB (s : ByteArray) : Bool := decide ((1 ≤ s.size ∧ s.size ≤ 32) ∧ ∀ k, k < s.size → inN (byt s k) = true)
theorem inName_c (r : Int) (w : World) : Calls Try.prog 53 #[.int .i32 r] w fun e w' => e = .returned (.bool (inN r)) ∧ w = w' := by
  have hq : (97 ≤ r ∧ r ≤ 122) ∨ (65 ≤ r ∧ r ≤ 90) ∨ (48 ≤ r ∧ r ≤ 57) ∨ r = 95 ∨ (¬ 48 ≤ r) ∨ (58 ≤ r ∧ r ≤ 64) ∨ (91 ≤ r ∧ r ≤ 94) ∨ r = 96 ∨ 123 ≤ r := by omega
  have HB : ∀ b : Bool, (b = true ↔ (97 ≤ r ∧ r ≤ 122 ∨ 65 ≤ r ∧ r ≤ 90 ∨ 48 ≤ r ∧ r ≤ 57 ∨ r = 95)) → b = inN r := fun b hb => by
    unfold inN
    rw [Bool.eq_iff_iff, hb, decide_eq_true_iff]
  have HH := Lib.hid HB
  clear HB
  rcases hq with ⟨h1, h2⟩ | ⟨h1, h2⟩ | ⟨h1, h2⟩ | h1 | h1 | ⟨h1, h2⟩ | ⟨h1, h2⟩ | h1 | h1
  all_goals
    (try subst h1)
    go_enter Try.func53, Try.ntmps53
    go_wp2_with fail
    go_ret
    exact ⟨ret_bool (HH.out _ (by simp <;> omega)), rfl⟩
theorem iter_below (w : World) (s : ByteArray) (k : Nat) : Below w.heap.size w (w.iter s k) := (Below.refl _ _).alloc (Nat.le_refl _) _
set_option maxRecDepth 100000 in
set_option maxHeartbeats 2000000 in
theorem name_c (s : ByteArray) (w : World) (hs : s.size ≤ 9223372036854775807) : Calls Try.prog 26 #[.string s] w fun e w' => e = .returned (.bool (nameB s)) ∧ Below w.heap.size w w' := by
  by_cases h0 : s.size = 0
  · have hE : s.toList.isEmpty = true := by rw [ByteArray.toList_eq, show s.data.toList = [] from List.eq_nil_of_length_eq_zero (by simpa using h0)]; rfl
    have HR := Lib.hid (show nameB s = false from decide_eq_false (fun h => by omega))
    clear h0 hs
    go_enter Try.func26, Try.ntmps26
    go_wp2_with fail
    go_ret
    exact ⟨ret_bool HR.out.symm, Below.refl _ _⟩
  · have hE : s.toList.isEmpty = false := by
      rw [ByteArray.toList_eq]
      cases hl : s.data.toList with
      | nil => exact absurd (by simpa using congrArg List.length hl) h0
      | cons a t => rfl
    by_cases h32 : 32 < s.size
    · have HR := Lib.hid (show nameB s = false from decide_eq_false (fun h => by omega))
      have h33 : (32 : Int) < (s.size : Int) := by omega
      clear h0
      go_enter Try.func26, Try.ntmps26
      go_wp2_with fail
      go_ret
      exact ⟨ret_bool HR.out.symm, Below.refl _ _⟩
    · have h33 : ¬ (32 : Int) < (s.size : Int) := by omega
      have HSZ := Lib.hid (show 1 ≤ s.size ∧ s.size ≤ 32 by omega)
      clear h0 h32 hs
      go_enter Try.func26, Try.ntmps26
      go_wp2_with fail
      go_loopw [] (fun wr => ∃ k : Nat, k ≤ s.size ∧ wr = w.iter s k ∧ Asd (∀ j, j < k → inN (byt s j) = true)) (fun wr => s.size - wr.iterPos w.heap.size)
      case atStart => exact ⟨0, Nat.zero_le _, rfl, fun j hj => absurd hj (Nat.not_lt_zero _)⟩
      case round =>
        obtain ⟨k, hk, rfl, hA⟩ := hrel
        have HA := Lib.hid (show ∀ j, j < k → inN (byt s j) = true from hA)
        clear hA
        by_cases hlt : k < s.size
        · by_cases ha : (s[k]'hlt).toNat < 128
          · have hnx : ∀ ty, (Instr.next (.pointer (some ⟨w.heap.size, 0, none⟩)) true ty).run Try.prog (w.iter s k) = _ := fun ty => run_next_ascii w s k ty hlt ha
            have HBY := Lib.hid (byt_at hlt)
            obtain ⟨bz, hbz⟩ : ∃ bz : Bool, bz = inN ((s[k]'hlt).toNat : Int) := ⟨_, rfl⟩
            have HN := Lib.hid (fun W => (show Calls Try.prog 53 #[.int .i32 ((s[k]'hlt).toNat : Int)] W fun e w' => e = .returned (.bool bz) ∧ W = w' from hbz ▸ inName_c _ W))
            have HBZ := Lib.hid hbz
            clear hbz
            cases bz with
            | true =>
              go_wp2_with (go_at_call 53; ((with_reducible refine (HN.out _).mono ?_); rintro e w1 ⟨rfl, rfl⟩))
              go_roundw
              case rel => exact ⟨k + 1, by omega, rfl, fun j hj => by
                rcases Nat.lt_or_ge j k with h | h
                · exact HA.out j h
                · obtain rfl : j = k := by omega
                  rw [HBY.out]; exact HBZ.out.symm⟩
              case measure => simp; omega
            | false =>
              have HR := Lib.hid (show nameB s = false from decide_eq_false (fun h => by
                have h1 := h.2 k hlt
                rw [HBY.out, ← HBZ.out] at h1
                cases h1))
              go_wp2_with (go_at_call 53; ((with_reducible refine (HN.out _).mono ?_); rintro e w1 ⟨rfl, rfl⟩))
              go_ret
              exact ⟨ret_bool HR.out.symm, iter_below w s _⟩
          · have hnx : ∀ ty, (Instr.next (.pointer (some ⟨w.heap.size, 0, none⟩)) true ty).run Try.prog (w.iter s k) = _ := fun ty => run_next_any w s k ty hlt
            have hd := (decode_high s k hlt (by omega)).1
            have HN := Lib.hid (fun W => (show Calls Try.prog 53 #[.int .i32 ((Utf8.decode s k).1 : Int)] W fun e w' => e = .returned (.bool false) ∧ W = w' from by
              have h := inName_c ((Utf8.decode s k).1 : Int) W
              rw [show inN ((Utf8.decode s k).1 : Int) = false from decide_eq_false (by omega)] at h
              exact h))
            have HR := Lib.hid (show nameB s = false from decide_eq_false (fun h => by
                have h1 := h.2 k hlt
                rw [byt_at hlt] at h1
                have h2 := of_decide_eq_true h1
                omega))
            clear ha
            go_wp2_with (go_at_call 53; ((with_reducible refine (HN.out _).mono ?_); rintro e w1 ⟨rfl, rfl⟩))
            go_ret
            exact ⟨ret_bool HR.out.symm, iter_below w s _⟩
        · obtain rfl : k = s.size := by omega
          have hnx : ∀ ty, (Instr.next (.pointer (some ⟨w.heap.size, 0, none⟩)) true ty).run Try.prog (w.iter s s.size) = _ := fun ty => run_next_end w s s.size ty hlt
          have HR := Lib.hid (show nameB s = true from decide_eq_true ⟨HSZ.out, HA.out⟩)
          go_wp2_with fail
          go_ret
          exact ⟨ret_bool HR.out.symm, iter_below w s _⟩
def sgnL : Array UInt8 := #[97, 98, 99, 100, 101, 102, 103, 104, 105, 106, 107, 108, 109, 110, 111, 112, 113, 114, 115, 116, 117, 118, 119, 120, 121, 122, 65, 66, 67, 68, 69, 70, 71, 72, 73, 74, 75, 76, 77, 78, 79, 80, 81, 82, 83, 84, 85, 86, 87, 88, 89, 90, 48, 49, 50, 51, 52, 53, 54, 55, 56, 57, 95]
abbrev sgnB : ByteArray := ⟨#[97, 98, 99, 100, 101, 102, 103, 104, 105, 106, 107, 108, 109, 110, 111, 112, 113, 114, 115, 116, 117, 118, 119, 120, 121, 122, 65, 66, 67, 68, 69, 70, 71, 72, 73, 74, 75, 76, 77, 78, 79, 80, 81, 82, 83, 84, 85, 86, 87, 88, 89, 90, 48, 49, 50, 51, 52, 53, 54, 55, 56, 57, 95]⟩
def sgn (j : Nat) : Int := ((sgnL[j]?.getD 0).toNat : Int)
def anyB (x : Int) (m : Nat) : Bool := (List.range m).any fun j => sgn j == x
theorem any_all (x : Nat) (hx : x < 256) : anyB (x : Int) 63 = inN (x : Int) := by
  have h : ∀ y : Fin 256, anyB (y.val : Int) 63 = inN (y.val : Int) := by decide +kernel
  exact h ⟨x, hx⟩
theorem any_succ (x : Int) (m : Nat) : anyB x (m + 1) = (anyB x m || (sgn m == x)) := by
  unfold anyB
  rw [List.range_succ, List.any_append]
  simp
theorem sgn_at {j : Nat} (hj : j < sgnB.size) : sgn j = ((sgnB[j]'hj).toNat : Int) := by
  have h : j < sgnL.size := hj
  unfold sgn
  rw [Array.getElem?_eq_getElem h]
  rfl
set_option maxRecDepth 100000 in
set_option maxHeartbeats 4000000 in
theorem rname_c (s : ByteArray) (w : World) (hs : s.size ≤ 9223372036854775807) : Calls Try.prog 29 #[.string s] w fun e w' => e = .returned (.bool (nameB s)) ∧ Below w.heap.size w w' := by
  obtain ⟨n, hn⟩ : ∃ n, n = s.size := ⟨_, rfl⟩
  have HN := Lib.hid hn
  have HS := Lib.hid hs
  clear hn hs
  go_enter Try.func29, Try.ntmps29
  go_wp2_with fail
  go_loopw [3] (fun z wr => ∃ k q : Nat, k ≤ s.size ∧ z = .int .i64 k ∧ wr = w.drewN q ∧ Asd (∀ j, j < k → inN (byt s j) = true)) (fun z _ => s.size - (intOf z).toNat)
  case atStart => exact ⟨0, 0, Nat.zero_le _, rfl, rfl, fun j hj => absurd hj (Nat.not_lt_zero _)⟩
  case round =>
    obtain ⟨k, q, hk, rfl, rfl, hA⟩ := hrel
    have HA := Lib.hid (show ∀ j, j < k → inN (byt s j) = true from hA)
    have hk0 : (0 : Int) ≤ (k : Int) := by omega
    clear hA
    by_cases hlt : k < s.size
    · have hk1 : (k : Int) < (s.size : Int) := by omega
      obtain ⟨x, hx⟩ : ∃ x, x = (s[k]'hlt).toNat := ⟨_, rfl⟩
      have HX := Lib.hid hx
      have HLT := Lib.hid hlt
      clear hx
      go_wp2_with fail
      go_loopw [4, 5] (fun f z wr => ∃ m r : Nat, m ≤ 63 ∧ z = .int .i64 m ∧ f = .bool (anyB (x : Int) m) ∧ wr = w.drewN r) (fun _ z _ => 63 - (intOf z).toNat)
      case atStart => exact ⟨0, q, by omega, rfl, rfl, rfl⟩
      case round =>
        obtain ⟨m, r, hm, rfl, rfl, rfl⟩ := hrel
        have hm0 : (0 : Int) ≤ (m : Int) := by omega
        by_cases hm3 : m < 63
        · have hm1 : (m : Int) < 63 := by omega
          cases hf : anyB (x : Int) m with
          | true =>
            go_wp2_with fail
            go_quiet (fail)
            go_wp2_with fail
            go_roundw
            case rel => exact ⟨m + 1, _, by omega, by go_num, by rw [any_succ, hf]; rfl, rfl⟩
            case measure => simp [intOf]; omega
          | false =>
            have hsz : m < sgnB.size := hm3
            go_wp2_with fail
            go_quiet (fail)
            go_wp2_with fail
            go_roundw
            case rel => exact ⟨m + 1, _, by omega, by go_num, by rw [any_succ, hf, sgn_at hsz, HX.out]; rfl, rfl⟩
            case measure => simp [intOf]; omega
        · obtain rfl : m = 63 := by omega
          have HIN := Lib.hid (show inN (byt s k) = anyB (x : Int) 63 by
            rw [any_all x (by rw [HX.out]; exact UInt8.toNat_lt _), HX.out, byt_at HLT.out])
          cases hf : anyB (x : Int) 63 with
          | true =>
            have HF := Lib.hid hf
            have hs9 : (k : Int) + 1 ≤ 9223372036854775807 := by have := HS.out; have := HLT.out; omega
            have hwr : wrap64 ((k : Int) + 1) = (k : Int) + 1 := by unfold wrap64; omega
            go_wp2_with fail
            go_roundw
            case rel => exact ⟨k + 1, _, by omega, by go_num, rfl, fun j hj => by
              rcases Nat.lt_or_ge j k with h | h
              · exact HA.out j h
              · obtain rfl : j = k := by omega
                rw [HIN.out, HF.out]⟩
            case measure => simp [intOf]; omega
          | false =>
            have HR := Lib.hid (show nameB s = false from decide_eq_false (fun h => by
              have := h.2 k HLT.out
              rw [HIN.out, hf] at this
              cases this))
            go_wp2_with fail
            go_ret
            exact ⟨ret_bool HR.out.symm, below_drewN (Below.refl _ _) _⟩
    · obtain rfl : k = s.size := by omega
      by_cases h1 : 1 ≤ s.size
      · by_cases h2 : s.size ≤ 32
        · have g1 : (1 : Int) ≤ (s.size : Int) := by omega
          have g2 : (s.size : Int) ≤ 32 := by omega
          have HR := Lib.hid (show nameB s = true from decide_eq_true ⟨⟨h1, h2⟩, HA.out⟩)
          go_wp2_with fail
          go_ret
          exact ⟨ret_bool HR.out.symm, below_drewN (Below.refl _ _) _⟩
        · have g1 : (1 : Int) ≤ (s.size : Int) := by omega
          have g2 : ¬ (s.size : Int) ≤ 32 := by omega
          have HR := Lib.hid (show nameB s = false from decide_eq_false (fun h => h2 h.1.2))
          go_wp2_with fail
          go_ret
          exact ⟨ret_bool HR.out.symm, below_drewN (Below.refl _ _) _⟩
      · have g1 : ¬ (1 : Int) ≤ (s.size : Int) := by omega
        have HR := Lib.hid (show nameB s = false from decide_eq_false (fun h => h1 h.1.1))
        go_wp2_with fail
        go_ret
        exact ⟨ret_bool HR.out.symm, below_drewN (Below.refl _ _) _⟩
end Go.Proofs.Yteaeccmlibmmmaa
