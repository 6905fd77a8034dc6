import Derived.Test.YtedhgdjlcddchaaRaL
import Derived.Test.YtedhgdjlcddchaaRaF
import Derived.Deep.QuietTactic
import Derived.BigQuiet
namespace Go.Proofs.Ytedhgdjlcddchaa
open Go.RowKit
/-- A slice that reads as these colours. -/
def Rd (w : World) (v : Value) (zs : List Int) : Prop :=
  ∃ p c, v = .slice p zs.length c ∧ ∀ (j : Nat) (u : Int), zs[j]? = some u → ∃ b o, p = some ⟨b, o, none⟩ ∧ b < w.heap.size ∧ w.cell? ⟨b, o + j, none⟩ = some (Value.int .u32 u)
theorem Rd.below {w w' : World} {v : Value} {zs : List Int} (h : Rd w v zs) (hb : Below w.heap.size w w') : Rd w' v zs := by
  obtain ⟨p, c, h1, h2⟩ := h
  refine ⟨p, c, h1, fun j u hu => ?_⟩
  obtain ⟨b, o, h3, h4, h5⟩ := h2 j u hu
  exact ⟨b, o, h3, Nat.lt_of_lt_of_le h4 hb.size, (hb.cell (p := ⟨b, o + j, none⟩) h4).trans h5⟩
theorem Rd.drew {w : World} {v : Value} {zs : List Int} (h : Rd w v zs) (n : Nat) : Rd (w.drewN n) v zs := h
theorem Own.rd {w : World} {B : Nat} {v : Value} {zs : List Int} (h : Own w B v zs) : Rd w v zs := by
  rcases h with ⟨rfl, rfl⟩ | ⟨g, cap, cur, rfl, _, hB, hc⟩
  · exact ⟨none, 0, rfl, fun j u hu => by simp at hu⟩
  · exact ⟨_, _, rfl, fun j u hu => ⟨g, 0, rfl, hB.lt, by rw [Nat.zero_add]; exact hB.at_ (hc j u hu)⟩⟩
theorem Rd.of_blk {w : World} {b : Nat} {zs : List Int} {n c : Nat} (hn : n = zs.length) (h : Blk w b 50 (colA zs)) : Rd w (.slice (some ⟨b, 0, none⟩) n c) zs :=
  ⟨_, _, by rw [hn], fun j u hu => ⟨b, 0, rfl, h.lt, by rw [Nat.zero_add]; exact h.at_ (by rw [colA_get, hu]; rfl)⟩⟩
theorem Rd.none {w : World} {c : Nat} : Rd w (.slice none 0 c) [] := ⟨_, _, rfl, fun j u hu => by simp at hu⟩
set_option maxHeartbeats 2000000 in
theorem same_c (W H : Int) (sa sb : Value) (zs : List Int) (w : World) (ha : Rd w sa zs) (hb : Rd w sb zs) (hl : zs.length ≤ 1073741824) :
    Calls Try.prog 38 #[.agg #[.int .i64 W, .int .i64 H, sa], .agg #[.int .i64 W, .int .i64 H, sb]] w fun e w' => e = .returned (.bool true) ∧ Below w.heap.size w w' := by
  obtain ⟨p, c, rfl, ha⟩ := ha
  obtain ⟨p', c', rfl, hb⟩ := hb
  have HA := Lib.hid ha
  have HB := Lib.hid hb
  obtain ⟨n, hn⟩ : ∃ n, n = zs.length := ⟨_, rfl⟩
  rw [← hn] at hl ⊢
  have HN := Lib.hid hn
  clear ha hb hn
  go_enter Try.func38, Try.ntmps38
  go_wp2
  go_loopw [5] (fun v wr => ∃ k q : Nat, k ≤ n ∧ v = .int .i64 k ∧ wr = ((w.alloc (.cells #[.int .i64 W, .int .i64 H, .slice p n c] 56)).alloc (.cells #[.int .i64 W, .int .i64 H, .slice p' n c'] 56)).drewN q) (fun v _ => n - (intOf v).toNat)
  case atStart => exact ⟨0, 0, Nat.zero_le _, rfl, rfl⟩
  case round =>
    obtain ⟨k, q, hk, rfl, rfl⟩ := hrel
    by_cases hlt : k < n
    · obtain ⟨u, hu⟩ : ∃ u, zs[k]? = some u := ⟨_, List.getElem?_eq_getElem (by rw [← HN.out]; exact hlt)⟩
      obtain ⟨b, o, rfl, hb1, hb2⟩ := HA.out k u hu
      obtain ⟨b', o', rfl, hc1, hc2⟩ := HB.out k u hu
      clear hu
      have hi0 : (0 : Int) ≤ (k : Int) := by omega
      have hi1 : (k : Int) < (n : Int) := by omega
      go_wp2
      go_quiet (fail)
      go_wp2
      go_roundw
      case rel => exact ⟨k + 1, _, by omega, by go_num, rfl⟩
      case measure => simp [intOf]; omega
    · go_wp2
      go_ret
      exact ⟨rfl, below_drewN (by repeat' (first | (with_reducible exact Below.refl _ _) | (with_reducible assumption) | (with_reducible refine Below.alloc ?_ ?_ _) | (with_reducible refine Below.drew ?_) | (with_reducible refine Below.setCell ?_ ?_ _) | (with_reducible refine Below.on (by with_reducible assumption) ?_ ?_) | go_size)) _⟩
theorem blend_ex1 : blendI 4278190080 2164260863 = 4286611584 := by decide +kernel
theorem blend_ex2 : blendI 0 2164195328 = 2155872256 := by decide +kernel
theorem awake_pix : pnt 2 (fun i j => hasB 1 0 5 5 i j && hasB (int ⟨0, 0, 2, 1⟩ ⟨0, 0, 2, 1⟩).x (int ⟨0, 0, 2, 1⟩ ⟨0, 0, 2, 1⟩).y (int ⟨0, 0, 2, 1⟩ ⟨0, 0, 2, 1⟩).w (int ⟨0, 0, 2, 1⟩ ⟨0, 0, 2, 1⟩).h i j) (fun _ _ _ => 9) (List.replicate (2 * 1) 7) = [7, 9] := by
  decide +kernel
end Go.Proofs.Ytedhgdjlcddchaa
