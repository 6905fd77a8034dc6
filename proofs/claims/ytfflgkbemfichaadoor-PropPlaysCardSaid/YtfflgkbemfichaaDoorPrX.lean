/- Name, walked. -/
import Derived.Test.YtfflgkbemfichaaDoorPrN
import Derived.Laws.RangeAny
namespace Go.Proofs.YtfflgkbemfichaaDoor
open Go.RowKit
def inN (r : Int) : Bool := decide (97 ≤ r ∧ r ≤ 122 ∨ 65 ≤ r ∧ r ≤ 90 ∨ 48 ≤ r ∧ r ≤ 57 ∨ r = 95)
/-- May a text be a name? -/
def nameB (s : ByteArray) : Bool := decide ((1 ≤ s.size ∧ s.size ≤ 32) ∧ ∀ k, k < s.size → inN (byt s k) = true)
theorem inName_c (r : Int) (w : World) : Calls Tryd.prog 38 #[.int .i32 r] w fun e w' => e = .returned (.bool (inN r)) ∧ w = w' := by
  have hq : (97 ≤ r ∧ r ≤ 122) ∨ (65 ≤ r ∧ r ≤ 90) ∨ (48 ≤ r ∧ r ≤ 57) ∨ r = 95 ∨ (¬ 48 ≤ r) ∨ (58 ≤ r ∧ r ≤ 64) ∨ (91 ≤ r ∧ r ≤ 94) ∨ r = 96 ∨ 123 ≤ r := by omega
  have HB : ∀ b : Bool, (b = true ↔ (97 ≤ r ∧ r ≤ 122 ∨ 65 ≤ r ∧ r ≤ 90 ∨ 48 ≤ r ∧ r ≤ 57 ∨ r = 95)) → b = inN r := fun b hb => by
    unfold inN
    rw [Bool.eq_iff_iff, hb, decide_eq_true_iff]
  have HH := Lib.hid HB
  clear HB
  rcases hq with ⟨h1, h2⟩ | ⟨h1, h2⟩ | ⟨h1, h2⟩ | h1 | h1 | ⟨h1, h2⟩ | ⟨h1, h2⟩ | h1 | h1
  all_goals
    (try subst h1)
    go_enter Tryd.func38, Tryd.ntmps38
    go_wp2_with fail
    go_ret
    exact ⟨ret_bool (HH.out _ (by simp <;> omega)), rfl⟩
theorem iter_below (w : World) (s : ByteArray) (k : Nat) : Below w.heap.size w (w.iter s k) := (Below.refl _ _).alloc (Nat.le_refl _) _
set_option maxRecDepth 100000 in
set_option maxHeartbeats 2000000 in
theorem name_c (s : ByteArray) (w : World) (hs : s.size ≤ 9223372036854775807) : Calls Tryd.prog 21 #[.string s] w fun e w' => e = .returned (.bool (nameB s)) ∧ Below w.heap.size w w' := by
  by_cases h0 : s.size = 0
  · have hE : s.toList.isEmpty = true := by rw [ByteArray.toList_eq, show s.data.toList = [] from List.eq_nil_of_length_eq_zero (by simpa using h0)]; rfl
    have HR := Lib.hid (show nameB s = false from decide_eq_false (fun h => by omega))
    clear h0 hs
    go_enter Tryd.func21, Tryd.ntmps21
    go_wp2_with fail
    go_ret
    exact ⟨ret_bool HR.out.symm, Below.refl _ _⟩
  · have hE : s.toList.isEmpty = false := by
      rw [ByteArray.toList_eq]
      cases hl : s.data.toList with
      | nil => exact absurd (by simpa using congrArg List.length hl) h0
      | cons a t => rfl
    by_cases h32 : 32 < s.size
    · have HR := Lib.hid (show nameB s = false from decide_eq_false (fun h => by omega))
      have h33 : (32 : Int) < (s.size : Int) := by omega
      clear h0
      go_enter Tryd.func21, Tryd.ntmps21
      go_wp2_with fail
      go_ret
      exact ⟨ret_bool HR.out.symm, Below.refl _ _⟩
    · have h33 : ¬ (32 : Int) < (s.size : Int) := by omega
      have HSZ := Lib.hid (show 1 ≤ s.size ∧ s.size ≤ 32 by omega)
      clear h0 h32 hs
      go_enter Tryd.func21, Tryd.ntmps21
      go_wp2_with fail
      go_loopw [] (fun wr => ∃ k : Nat, k ≤ s.size ∧ wr = w.iter s k ∧ Asd (∀ j, j < k → inN (byt s j) = true)) (fun wr => s.size - wr.iterPos w.heap.size)
      case atStart => exact ⟨0, Nat.zero_le _, rfl, fun j hj => absurd hj (Nat.not_lt_zero _)⟩
      case round =>
        obtain ⟨k, hk, rfl, hA⟩ := hrel
        have HA := Lib.hid (show ∀ j, j < k → inN (byt s j) = true from hA)
        clear hA
        by_cases hlt : k < s.size
        · by_cases ha : (s[k]'hlt).toNat < 128
          · have hnx : ∀ ty, (Instr.next (.pointer (some ⟨w.heap.size, 0, none⟩)) true ty).run Tryd.prog (w.iter s k) = _ := fun ty => run_next_ascii w s k ty hlt ha
            have HBY := Lib.hid (byt_at hlt)
            obtain ⟨bz, hbz⟩ : ∃ bz : Bool, bz = inN ((s[k]'hlt).toNat : Int) := ⟨_, rfl⟩
            have HN := Lib.hid (fun W => (show Calls Tryd.prog 38 #[.int .i32 ((s[k]'hlt).toNat : Int)] W fun e w' => e = .returned (.bool bz) ∧ W = w' from hbz ▸ inName_c _ W))
            have HBZ := Lib.hid hbz
            clear hbz
            cases bz with
            | true =>
              go_wp2_with (go_at_call 38; ((with_reducible refine (HN.out _).mono ?_); rintro e w1 ⟨rfl, rfl⟩))
              go_roundw
              case rel => exact ⟨k + 1, by omega, rfl, fun j hj => by
                rcases Nat.lt_or_ge j k with h | h
                · exact HA.out j h
                · obtain rfl : j = k := by omega
                  rw [HBY.out]; exact HBZ.out.symm⟩
              case measure => simp; omega
            | false =>
              have HR := Lib.hid (show nameB s = false from decide_eq_false (fun h => by
                have h1 := h.2 k hlt
                rw [HBY.out, ← HBZ.out] at h1
                cases h1))
              go_wp2_with (go_at_call 38; ((with_reducible refine (HN.out _).mono ?_); rintro e w1 ⟨rfl, rfl⟩))
              go_ret
              exact ⟨ret_bool HR.out.symm, iter_below w s _⟩
          · have hnx : ∀ ty, (Instr.next (.pointer (some ⟨w.heap.size, 0, none⟩)) true ty).run Tryd.prog (w.iter s k) = _ := fun ty => run_next_any w s k ty hlt
            have hd := (decode_high s k hlt (by omega)).1
            have HN := Lib.hid (fun W => (show Calls Tryd.prog 38 #[.int .i32 ((Utf8.decode s k).1 : Int)] W fun e w' => e = .returned (.bool false) ∧ W = w' from by
              have h := inName_c ((Utf8.decode s k).1 : Int) W
              rw [show inN ((Utf8.decode s k).1 : Int) = false from decide_eq_false (by omega)] at h
              exact h))
            have HR := Lib.hid (show nameB s = false from decide_eq_false (fun h => by
                have h1 := h.2 k hlt
                rw [byt_at hlt] at h1
                have h2 := of_decide_eq_true h1
                omega))
            clear ha
            go_wp2_with (go_at_call 38; ((with_reducible refine (HN.out _).mono ?_); rintro e w1 ⟨rfl, rfl⟩))
            go_ret
            exact ⟨ret_bool HR.out.symm, iter_below w s _⟩
        · obtain rfl : k = s.size := by omega
          have hnx : ∀ ty, (Instr.next (.pointer (some ⟨w.heap.size, 0, none⟩)) true ty).run Tryd.prog (w.iter s s.size) = _ := fun ty => run_next_end w s s.size ty hlt
          have HR := Lib.hid (show nameB s = true from decide_eq_true ⟨HSZ.out, HA.out⟩)
          go_wp2_with fail
          go_ret
          exact ⟨ret_bool HR.out.symm, iter_below w s _⟩
end Go.Proofs.YtfflgkbemfichaaDoor
