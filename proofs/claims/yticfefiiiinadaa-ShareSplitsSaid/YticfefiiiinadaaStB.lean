/- slices.swapRangeCmpFunc, slices.rotateCmpFunc, walked: from a world of the sort's to a world of the sort's. -/
import Derived.Test.YticfefiiiinadaaProg
import Derived.Test.YticfefiiiinadaaStA
import Derived.Shelf.SlSortCmp.Kit1
import Derived.Deep.LoopGhost
import Derived.WalkKit
import Derived.BigRegion
import Derived.Sort.WalkA
import Derived.Sort.WalkB2
import Derived.Sort.WalkB12
namespace Go.Proofs.Yticfefiiiinadaa
open Go.Shelf Go.RowKit Go.Lib Go.Sort

section
variable {α : Type} [Inhabited α]

set_option maxHeartbeats 16000000 in
set_option maxRecDepth 1000000 in
theorem swapRange_c (enc : α → Value) (g : Nat) (cb : Array Value) (blk off cap a b n : Nat) (d0 d : Array α) (w0 w : World)
    (R : Row1 enc w0 blk off d0) (hs : d0.size = d.size) (S : SW enc w0 blk off d w) (hab : a + n ≤ b) (hb : b + n ≤ d.size) (hsz : d.size < 4611686018427387904) :
    Calls Try.prog 38 #[.slice (some ⟨blk, off, none⟩) d.size cap, .int .i64 a, .int .i64 b, .int .i64 n, .func (.func g) #[] cb] w fun e w' => e = .returned (.tuple #[]) ∧
      ∃ d', SW enc w0 blk off d' w' ∧ d'.size = d.size ∧ PermIn a (b + n) d d' ∧ ∀ x, d'[x]! = swF a b n (at_ d) x := by
  have mixed : Try.prog.follows .mixedOrders = true := by kernel_rfl
  have hcl0 := R.hO.cells
  simp only [Value.cells] at hcl0
  have hst := R.hO.store Try.prog
  have S0 : Aside (SW enc w0 blk off d w) := S
  clear S
  go_enter Try.func38, Try.ntmps38
  go_wp2
  go_loopg [10] n (fun kx vi wr => ∃ (i : Nat) (dk : Array α), vi = .int .i64 i ∧ i ≤ n ∧ n - i ≤ kx ∧ dk.size = d.size ∧ Aside (SW enc w0 blk off dk wr) ∧ Hid (PermIn a (b + n) d dk ∧ ∀ x, dk[x]! = swF a b i (at_ d) x))
  case atStart => exact ⟨0, d, rfl, Nat.zero_le _, by omega, rfl, S0, permIn_refl _ _ _, fun x => (swF_zero _ _ _ _).symm⟩
  case round =>
    clear S0
    obtain ⟨i, dk, rfl, hin, hkx, hsk, S1, HI⟩ := hrel
    by_cases hlt : i < n
    · have hltz : (i : Int) < (n : Int) := by omega
      go_wp2_with fail
      obtain ⟨iN1, hiN1⟩ : ∃ q, q = a + i := ⟨_, rfl⟩
      obtain ⟨jN1, hjN1⟩ : ∃ q, q = b + i := ⟨_, rfl⟩
      have ea1 : ((a : Int) + (i : Int)).toNat = iN1 := by omega
      have pa1 : (0 : Int) ≤ (a : Int) + (i : Int) := by omega
      have ba1 : (a : Int) + (i : Int) < (d.size : Int) := by omega
      have ra1 : IntKind.i64.wrap ((a : Int) + (i : Int)) = (a : Int) + (i : Int) := by rw [IntKind.wrap_i64]; omega
      have ec1 : ((b : Int) + (i : Int)).toNat = jN1 := by omega
      have pc1 : (0 : Int) ≤ (b : Int) + (i : Int) := by omega
      have bc1 : (b : Int) + (i : Int) < (d.size : Int) := by omega
      have rc1 : IntKind.i64.wrap ((b : Int) + (i : Int)) = (b : Int) + (i : Int) := by rw [IntKind.wrap_i64]; omega
      obtain ⟨x1, hx1⟩ : ∃ x, x = dk[a + i]! := ⟨_, rfl⟩
      obtain ⟨y1, hy1⟩ : ∃ x, x = dk[b + i]! := ⟨_, rfl⟩
      have S2 : Aside (SW enc w0 blk off (swp dk (a + i) (b + i)) ((wr.setCell ⟨blk, off + iN1, none⟩ (enc y1)).setCell ⟨blk, off + jN1, none⟩ (enc x1)).drew) := by rw [hiN1, hjN1, hx1, hy1]; exact S1.out.swapped R (a + i) (b + i) (by omega) (by omega)
      have c1a := S1.out.c1 R (by omega) (a + i) (by omega)
      have c1b := S1.out.c1 R (by omega) (b + i) (by omega)
      have f1a := S1.out.f1 R (by omega) (a + i) (by omega)
      have f1b := S1.out.f1 R (by omega) (b + i) (by omega)
      obtain ⟨u1, c1c⟩ := S1.out.c2 R (by omega) (a + i) (b + i) (by omega) (by omega) (enc y1)
      rw [← hjN1, ← hiN1] at c1c
      rw [← hx1, ← hiN1] at c1a
      rw [← hy1, ← hjN1] at c1b
      rw [← hiN1] at f1a
      rw [← hjN1] at f1b
      have HN : Hid (PermIn a (b + n) d (swp dk (a + i) (b + i)) ∧ ∀ x, (swp dk (a + i) (b + i))[x]! = swF a b (i + 1) (at_ d) x) :=
        ⟨permIn_trans _ _ _ _ _ HI.out.1 (swp_permIn dk a (b + n) (a + i) (b + i) (by omega) (by omega) (by omega) (by omega) (by omega)), fun x => swF_next (by omega) (by omega) HI.out.2 x⟩
      have hsN : (swp dk (a + i) (b + i)).size = d.size := by rw [size_swp]; exact hsk
      clear S1 hx1 hy1 hiN1 hjN1 HI
      go_wp2_with fail
      go_big_region_o
      clear c1a c1b c1c f1a f1b
      generalize ((wr.setCell ⟨blk, off + iN1, none⟩ (enc y1)).setCell ⟨blk, off + jN1, none⟩ (enc x1)).drew = w2 at S2 ⊢
      clear ea1 ec1
      go_wp2
      go_roundg (n - (i + 1))
      case measure => omega
      case rel => exact ⟨i + 1, _, by go_num, by omega, Nat.le_refl _, hsN, S2, HN⟩
    · have hltz : ¬ (i : Int) < (n : Int) := by omega
      have : i = n := by omega
      subst this
      go_wp2
      go_end0
      exact ⟨rfl, dk, S1, hsk, HI.out.1, HI.out.2⟩

set_option maxHeartbeats 16000000 in
set_option maxRecDepth 1000000 in
theorem rotate_c (enc : α → Value) (g : Nat) (cb : Array Value) (blk off cap a m b : Nat) (d0 d : Array α) (w0 w : World)
    (R : Row1 enc w0 blk off d0) (hs : d0.size = d.size) (S : SW enc w0 blk off d w) (ham : a < m) (hmb : m < b) (hb : b ≤ d.size) (hsz : d.size < 4611686018427387904) :
    Calls Try.prog 37 #[.slice (some ⟨blk, off, none⟩) d.size cap, .int .i64 a, .int .i64 m, .int .i64 b, .func (.func g) #[] cb] w fun e w' => e = .returned (.tuple #[]) ∧
      ∃ d', SW enc w0 blk off d' w' ∧ d'.size = d.size ∧ PermIn a b d d' ∧ ∀ x, d'[x]! = rotF a m b (at_ d) x := by
  have S0 : Aside (SW enc w0 blk off d w) := S
  clear S
  go_enter Try.func37, Try.ntmps37
  go_wp2
  go_loopg [10, 11] (b - a) (fun kx vi vj wr => ∃ (i j : Nat) (dk : Array α), vi = .int .i64 i ∧ vj = .int .i64 j ∧ 0 < i ∧ 0 < j ∧ i ≤ m - a ∧ j ≤ b - m ∧ i + j ≤ kx ∧ dk.size = d.size ∧ Aside (SW enc w0 blk off dk wr) ∧ Hid (PermIn a b d dk ∧ ∀ x, rotF (m - i) m (m + j) (at_ dk) x = rotF a m b (at_ d) x))
  case atStart => exact ⟨m - a, b - m, d, by congr 1; omega, by congr 1; omega, by omega, by omega, Nat.le_refl _, Nat.le_refl _, by omega, rfl, S0, permIn_refl _ _ _, fun x => by rw [show m - (m - a) = a by omega, show m + (b - m) = b by omega]⟩
  case round =>
    clear S0
    obtain ⟨i, j, dk, rfl, rfl, hi0, hj0, him, hjm, hkx, hsk, S1, HI⟩ := hrel
    by_cases hgt : j < i
    · have hne : ¬ (i : Int) = (j : Int) := by omega
      have hgtz : (j : Int) < (i : Int) := by omega
      have hc := swapRange_c enc g cb blk off cap (m - i) m j d0 dk w0 wr R (by omega) S1.out (by omega) (by omega) (by omega)
      rw [hsk, show ((m - i : Nat) : Int) = (m : Int) - (i : Int) by omega] at hc
      clear S1
      go_wp2_with (go_at_call 38; refine hc.mono ?_; rintro e w2 ⟨rfl, d2, S2, hs2, hP2, hF2⟩)
      have hN : Hid (PermIn a b d d2 ∧ ∀ x, rotF (m - (i - j)) m (m + j) (at_ d2) x = rotF a m b (at_ d) x) :=
        ⟨permIn_trans _ _ _ _ _ HI.out.1 (permIn_mono _ _ (m - i) (m + j) a b (by omega) (by omega) (by omega) hP2), fun x => by rw [rot_gt hgt (by omega) hF2 x]; exact HI.out.2 x⟩
      have hS2 : Aside (SW enc w0 blk off d2 w2) := S2
      clear S2 hP2 hF2 HI hc
      go_wp2
      go_roundg (i - j + j)
      case measure => omega
      case rel => exact ⟨i - j, j, d2, by congr 1; omega, rfl, by omega, hj0, by omega, hjm, Nat.le_refl _, hs2, hS2, hN⟩
    · by_cases hlt : i < j
      · have hne : ¬ (i : Int) = (j : Int) := by omega
        have hgtz : ¬ (j : Int) < (i : Int) := by omega
        have hc := swapRange_c enc g cb blk off cap (m - i) (m + j - i) i d0 dk w0 wr R (by omega) S1.out (by omega) (by omega) (by omega)
        rw [hsk, show ((m - i : Nat) : Int) = (m : Int) - (i : Int) by omega, show ((m + j - i : Nat) : Int) = (m : Int) + (j : Int) - (i : Int) by omega] at hc
        clear S1
        go_wp2_with (go_at_call 38; refine hc.mono ?_; rintro e w2 ⟨rfl, d2, S2, hs2, hP2, hF2⟩)
        have hN : Hid (PermIn a b d d2 ∧ ∀ x, rotF (m - i) m (m + (j - i)) (at_ d2) x = rotF a m b (at_ d) x) :=
          ⟨permIn_trans _ _ _ _ _ HI.out.1 (permIn_mono _ _ (m - i) (m + j - i + i) a b (by omega) (by omega) (by omega) hP2), fun x => by rw [rot_lt hlt (by omega) hF2 x]; exact HI.out.2 x⟩
        have hS2 : Aside (SW enc w0 blk off d2 w2) := S2
        clear S2 hP2 hF2 HI hc
        go_wp2
        go_roundg (i + (j - i))
        case measure => omega
        case rel => exact ⟨i, j - i, d2, rfl, by congr 1; omega, hi0, by omega, him, by omega, Nat.le_refl _, hs2, hS2, hN⟩
      · have hij : i = j := by omega
        subst hij
        have hc := swapRange_c enc g cb blk off cap (m - i) m i d0 dk w0 wr R (by omega) S1.out (by omega) (by omega) (by omega)
        rw [hsk, show ((m - i : Nat) : Int) = (m : Int) - (i : Int) by omega] at hc
        clear S1
        go_wp2_with (go_at_call 38; refine hc.mono ?_; rintro e w2 ⟨rfl, d2, S2, hs2, hP2, hF2⟩)
        go_end0
        exact ⟨rfl, d2, S2, hs2, permIn_trans _ _ _ _ _ HI.out.1 (permIn_mono _ _ (m - i) (m + i) a b (by omega) (by omega) (by omega) hP2), fun x => (rot_eq (f := at_ dk) (g := at_ d2) (by omega) hF2 x).trans (HI.out.2 x)⟩
end
end Go.Proofs.Yticfefiiiinadaa
