import Derived.Test.YticfefiiiinadaaShB
import Derived.Test.YticfefiiiinadaaShS
namespace Go.Proofs.Yticfefiiiinadaa
open Go.RowKit Go.Shelf Go.Lib Ieee

def badW (n : Int) : Bool := decide (n < 1) || decide (n > 1048576)
/-- Check's number. -/
def chk (zs : List Int) : Int := if zs.length = 0 then 1 else if 64 < zs.length then 2 else if zs.any badW then 1 else 0

theorem wrong_c (n : Int) (w : World) :
    Calls Try.prog 24 #[.int .i64 n] w fun e w' => e = .returned (.bool (badW n)) ∧ w = w' := by
  by_cases h1 : n < 1
  · have e : badW n = true := by simp [badW, h1]
    rw [e]
    go_enter Try.func24, Try.ntmps24
    go_wp2
    all_goals (go_ret; exact ⟨rfl, rfl⟩)
  · by_cases h2 : n > 1048576
    · have e : badW n = true := by simp [badW, h2]
      rw [e]
      go_enter Try.func24, Try.ntmps24
      go_wp2
      all_goals (go_ret; exact ⟨rfl, rfl⟩)
    · have e : badW n = false := by simp [badW, h1, h2]
      rw [e]
      go_enter Try.func24, Try.ntmps24
      go_wp2
      all_goals (go_ret; exact ⟨rfl, rfl⟩)

theorem below_dn (w : World) (q : Nat) : Below w.heap.size w (w.drewN q) := below_drewN' (Below.refl _ _) q

theorem anybad_c (b off cap : Nat) (zs : List Int) (w : World) (hn : zs.length ≤ 64) (hc : SI w b off zs) :
    Calls Try.prog 23 #[.slice (some ⟨b, off, none⟩) zs.length cap, .func (.func 24) #[] #[]] w fun e w' => e = .returned (.bool (zs.any badW)) ∧ ∃ q, w' = w.drewN q := by
  have h := AnyE.slices_ContainsFunc anyInt (Value.int .i64) badW 24 #[] (enters_of Try.func24 (by kernel_rfl) rfl) b off zs.length cap zs w
    (fun W x _ => (wrong_c x W).mono fun e w' ⟨h1, h2⟩ => ⟨h1, 0, by rw [← h2]; rfl⟩) (Nat.le_refl _) (by omega)
    (fun j hj => by rw [hc j hj, getElem!_pos zs j hj, List.getD_eq_getElem?_getD, List.getElem?_eq_getElem hj]; rfl)
  rw [List.take_length] at h
  exact h

theorem check_c (b off cap : Nat) (zs : List Int) (w : World) (hlen : zs.length ≤ 9223372036854775807) (hc : SI w b off zs) :
    Calls Try.prog 16 #[.slice (some ⟨b, off, none⟩) zs.length cap] w fun e w' => e = .returned (.int .i64 (chk zs)) ∧ Below w.heap.size w w' := by
  by_cases h0 : zs.length = 0
  · have e : chk zs = 1 := by simp [chk, h0]
    rw [e, h0]
    go_enter Try.func16, Try.ntmps16
    go_wp2
    all_goals (go_ret; exact ⟨rfl, Below.refl _ _⟩)
  · have h0' : ¬ (zs.length : Int) = 0 := by omega
    by_cases h1 : 64 < zs.length
    · have h1' : (64 : Int) < (zs.length : Int) := by omega
      have e : chk zs = 2 := by simp [chk, h0, h1]
      rw [e]
      go_enter Try.func16, Try.ntmps16
      go_wp2
      all_goals (go_ret; exact ⟨rfl, Below.refl _ _⟩)
    · have h1' : ¬ (64 : Int) < (zs.length : Int) := by omega
      have hcon := anybad_c b off cap zs w (by omega) hc
      have e : chk zs = if zs.any badW then 1 else 0 := by simp only [chk, h0, h1, if_false]
      rw [e]
      clear hc e
      generalize hb : zs.any badW = bad at hcon ⊢
      clear hb
      cases bad
      · go_enter Try.func16, Try.ntmps16
        go_wp2_with (go_at_call 23; refine hcon.mono ?_; rintro e w1 ⟨rfl, q, rfl⟩)
        all_goals (go_ret; exact ⟨rfl, below_dn _ _⟩)
      · go_enter Try.func16, Try.ntmps16
        go_wp2_with (go_at_call 23; refine hcon.mono ?_; rintro e w1 ⟨rfl, q, rfl⟩)
        all_goals (go_ret; exact ⟨rfl, below_dn _ _⟩)

theorem check_nil (a : Option Addr) (cap : Nat) (w : World) :
    Calls Try.prog 16 #[.slice a 0 cap] w fun e w' => e = .returned (.int .i64 1) ∧ w = w' := by
  go_enter Try.func16, Try.ntmps16
  go_wp2
  all_goals (go_ret; exact ⟨rfl, rfl⟩)
theorem rcheck_nil (a : Option Addr) (cap : Nat) (w : World) :
    Calls Try.prog 17 #[.slice a 0 cap] w fun e w' => e = .returned (.int .i64 1) ∧ w = w' := by
  go_enter Try.func17, Try.ntmps17
  go_wp2
  all_goals (go_ret; exact ⟨rfl, rfl⟩)

theorem any_take (zs : List Int) (k : Nat) (hk : k < zs.length) (h : (zs.take k).any badW = false) : (zs.take (k + 1)).any badW = badW (zs.getD k 0) := by
  rw [take_next zs k hk, List.any_append, h]; simp
theorem any_of_take (zs : List Int) (k : Nat) (hk : k < zs.length) (h : badW (zs.getD k 0) = true) : zs.any badW = true := by
  rw [List.any_eq_true]; exact ⟨_, getD_mem zs k hk, h⟩

set_option maxHeartbeats 1000000 in
theorem rcheck_c (b off cap : Nat) (zs : List Int) (w : World) (hlen : zs.length ≤ 9223372036854775807) (hc : SI w b off zs) :
    Calls Try.prog 17 #[.slice (some ⟨b, off, none⟩) zs.length cap] w fun e w' => e = .returned (.int .i64 (chk zs)) ∧ w = w' := by
  by_cases h0 : zs.length = 0
  · have e : chk zs = 1 := by simp [chk, h0]
    rw [e, h0]
    exact rcheck_nil _ _ _
  · have h0' : ¬ (zs.length : Int) = 0 := by omega
    by_cases h1 : 64 < zs.length
    · have h1' : (64 : Int) < (zs.length : Int) := by omega
      have e : chk zs = 2 := by simp [chk, h0, h1]
      rw [e]
      go_enter Try.func17, Try.ntmps17
      go_wp2
      all_goals (go_ret; exact ⟨rfl, rfl⟩)
    · have h1' : ¬ (64 : Int) < (zs.length : Int) := by omega
      have e : chk zs = if zs.any badW then 1 else 0 := by simp only [chk, h0, h1, if_false]
      have hE := Lib.hid e
      have hC := Lib.hid hc
      generalize chk zs = R at hE ⊢
      clear e hc
      go_enter Try.func17, Try.ntmps17
      go_wp2
      go_loop [3] (fun i => ∃ k : Nat, k ≤ zs.length ∧ i = .int .i64 k ∧ Hid ((zs.take k).any badW = false)) (fun i => zs.length - (intOf i).toNat)
      case atStart => exact ⟨0, Nat.zero_le _, rfl, rfl⟩
      case round =>
        obtain ⟨k, hk, rfl, hall⟩ := hrel
        by_cases hlt : k < zs.length
        · have hcell := hC.out k hlt
          have hlt' : (k : Int) < (zs.length : Int) := by omega
          have hnext := any_take zs k hlt hall.out
          have hany := any_of_take zs k hlt
          generalize hz : zs.getD k 0 = z at hcell hnext hany
          have hN := Lib.hid hnext
          have hA := Lib.hid hany
          clear hz hnext hany
          by_cases g1 : z < 1
          · have hR : R = 1 := by rw [hE.out, if_pos (hA.out (by simp [badW, g1]))]
            subst hR
            go_wp2
            go_ret
            exact ⟨rfl, rfl⟩
          · by_cases g2 : z > 1048576
            · have hR : R = 1 := by rw [hE.out, if_pos (hA.out (by simp [badW, g2]))]
              subst hR
              go_wp2
              go_ret
              exact ⟨rfl, rfl⟩
            · go_wp2
              go_round
              case rel => exact ⟨k + 1, by omega, by go_num, by rw [Hid, hN.out]; simp only [badW, g1, g2, decide_false, Bool.or_false]⟩
              case measure => simp [intOf]; omega
        · have hlt' : ¬ (k : Int) < (zs.length : Int) := by omega
          have : k = zs.length := by omega
          subst this
          have hall' := hall.out
          rw [List.take_length] at hall'
          have hR : R = 0 := by rw [hE.out, hall']; rfl
          clear hall' hall
          subst hR
          go_wp2
          go_ret
          exact ⟨rfl, rfl⟩
end Go.Proofs.Yticfefiiiinadaa
