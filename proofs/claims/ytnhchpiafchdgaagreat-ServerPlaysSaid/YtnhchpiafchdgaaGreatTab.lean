/- Texts Saa Sab Sac Sae. -/
import Derived.Test.YtnhchpiafchdgaaGreatProg
import Derived.WalkKit
import Derived.WalkSpells
import Derived.WalkLawsBesides
import Derived.ProofKit
import Derived.Lib.Hide
import Derived.Outline
import Derived.Laws.Pointers
import Derived.Deep.RegionHeld3
import Derived.Handy
import Derived.KernelRfl
import Derived.Below
import Derived.Laws.OwnMore
import Derived.Deep.Draws
import Derived.Laws.Rows
import Derived.Laws.AppendOwn
import Derived.LoopTactic
import Derived.Deep.QuietTactic
import Derived.BigQuiet
import Derived.Shelf.Abstract
import Derived.Maps.AppendAt
import Derived.OwnWalk
import Derived.Deep.DeepCutAuto
import Derived.Test.YtnhchpiafchdgaaGreatTaa
section
namespace Go.Proofs.YtnhchpiafchdgaaGreat

structure Rc where
 x : Int
 y : Int
 w : Int
 h : Int

def zeroR : Rc := ⟨0, 0, 0, 0⟩
def spanI (v least most : Int) : Int := max (min v most) least
def planeB (s n : Int) : Bool := decide (-32768 ≤ s ∧ s ≤ 32767 ∧ 0 ≤ n ∧ s + n ≤ 32768)
def rightB (x y w h : Int) : Bool := planeB x w && planeB y h
def emptyB (x y w h : Int) : Bool := !rightB x y w h || w == 0 || h == 0
def hasB (x y w h p q : Int) : Bool := !emptyB x y w h && decide (x ≤ p ∧ p < x + w ∧ y ≤ q ∧ q < y + h)
def slideI (s n b : Int) : Int := s + spanI b (-32768 - s) (spanI (32768 - n) (-32768) 32767 - s)
def shiftR (x y w h dx dy : Int) : Rc := if rightB x y w h = true then ⟨slideI x w dx, slideI y h dy, w, h⟩ else zeroR
theorem planeB_iff (s n : Int) : planeB s n = true ↔ (-32768 ≤ s ∧ s ≤ 32767 ∧ 0 ≤ n ∧ s + n ≤ 32768) := by unfold planeB; exact decide_eq_true_iff
theorem rightB_iff (x y w h : Int) : rightB x y w h = true ↔ (-32768 ≤ x ∧ x ≤ 32767 ∧ 0 ≤ w ∧ x + w ≤ 32768) ∧ (-32768 ≤ y ∧ y ≤ 32767 ∧ 0 ≤ h ∧ y + h ≤ 32768) := by
 unfold rightB; rw [Bool.and_eq_true, planeB_iff, planeB_iff]
theorem emptyB_iff (x y w h : Int) : emptyB x y w h = false ↔ (-32768 ≤ x ∧ x ≤ 32767 ∧ 1 ≤ w ∧ x + w ≤ 32768) ∧ (-32768 ≤ y ∧ y ≤ 32767 ∧ 1 ≤ h ∧ y + h ≤ 32768) := by
 unfold emptyB
 have := rightB_iff x y w h
 cases hr : rightB x y w h
 · simp; rw [hr] at this; simp at this; omega
 · rw [hr] at this; simp at this; simp; omega
theorem spanI_le (v a b : Int) : a ≤ spanI v a b := by unfold spanI; omega
theorem spanI_ge (v a b : Int) (h : a ≤ b) : spanI v a b ≤ b := by unfold spanI; omega
end Go.Proofs.YtnhchpiafchdgaaGreat
end
section
namespace Go.Proofs.YtnhchpiafchdgaaGreat
open Go.RowKit

theorem nearest_c (v least most : Int) (w : World) :
  Calls Tryz.prog 160 #[.int .i64 v, .int .i64 least, .int .i64 most] w fun e w' => e = .returned (.int .i64 (spanI v least most)) ∧ w = w' := by
 go_enter Tryz.func160, Tryz.ntmps160
 go_wp2
 all_goals (go_ret; exact ⟨by unfold spanI; congr 2; simp; omega, rfl⟩)
theorem span_c (v least most : Int) (w : World) :
  Calls Tryz.prog 150 #[.int .i64 v, .int .i64 least, .int .i64 most] w fun e w' => e = .returned (.int .i64 (spanI v least most)) ∧ w = w' := by
 go_enter Tryz.func150, Tryz.ntmps150
 go_wp2_with (go_at_call 160; refine (nearest_c _ _ _ _).mono ?_; rintro e w' ⟨rfl, rfl⟩)
 go_ret
 exact ⟨rfl, rfl⟩
theorem clamp_c (v : Int) (w : World) :
  Calls Tryz.prog 132 #[.int .i64 v] w fun e w' => e = .returned (.int .i64 (spanI v (-32768) 32767)) ∧ w = w' := by
 go_enter Tryz.func132, Tryz.ntmps132
 go_wp2_with (go_at_call 150; refine (span_c _ _ _ _).mono ?_; rintro e w' ⟨rfl, rfl⟩)
 go_ret
 exact ⟨rfl, rfl⟩
theorem _root_.Go.RowKit.Below.on {B : Nat} {a w w1 : World} (h : Below w.heap.size w w1) (k : Below B a w) (hB : B ≤ w.heap.size) : Below B a w1 := k.trans (h.mono hB)
theorem ret_bool {a b : Bool} (h : a = b) : Ending.returned (.bool a) = .returned (.bool b) := by rw [h]
theorem ret_int {k : IntKind} {a b : Int} (h : a = b) : Ending.returned (.int k a) = .returned (.int k b) := by rw [h]
theorem bcell {W w1 : World} (hb : Below W.heap.size W w1) : (∀ b o, b < W.heap.size → w1.cell? ⟨b, o, none⟩ = W.cell? ⟨b, o, none⟩) ∧ (∀ b o, b < W.heap.size → w1.frozen? ⟨b, o, none⟩ = W.frozen? ⟨b, o, none⟩) :=
 ⟨fun b o h => hb.cell (p := ⟨b, o, none⟩) h, fun b o h => hb.frozen (p := ⟨b, o, none⟩) h⟩
theorem onPlane_c (s n : Int) (w : World) :
   Calls Tryz.prog 112 #[.int .i64 s, .int .i64 n] w fun e w' => e = .returned (.bool (planeB s n)) ∧ w = w' := by
 by_cases h1 : -32768 ≤ s ∧ s ≤ 32767
 · have hs : spanI s (-32768) 32767 = s := by unfold spanI; omega
   obtain ⟨h1, h2⟩ := h1
   go_enter Tryz.func112, Tryz.ntmps112
   go_wp2_with (go_at_call 132; refine (clamp_c _ _).mono ?_; rintro e w' ⟨rfl, rfl⟩)
   all_goals (go_ret; exact ⟨ret_bool (by rw [Bool.eq_iff_iff, planeB_iff]; simp; omega), rfl⟩)
 · have hs : (s == spanI s (-32768) 32767) = false := by rw [beq_eq_false_iff_ne]; unfold spanI; omega
   go_enter Tryz.func112, Tryz.ntmps112
   go_wp2_with (go_at_call 132; refine (clamp_c _ _).mono ?_; rintro e w' ⟨rfl, rfl⟩)
   go_ret
   exact ⟨ret_bool (by rw [Bool.eq_iff_iff, planeB_iff]; simp; omega), rfl⟩
theorem right_c (x y a b : Int) (w : World) :
  Calls Tryz.prog 81 #[.agg #[.int .i64 x, .int .i64 y, .int .i64 a, .int .i64 b]] w fun e w' => e = .returned (.bool (rightB x y a b)) ∧ Below w.heap.size w w' := by
 cases h1 : planeB x a
 all_goals
  go_enter Tryz.func81, Tryz.ntmps81
  go_wp2_with (go_at_call 112; refine (onPlane_c _ _ _).mono ?_; rintro e w' ⟨rfl, rfl⟩)
  go_ret
  exact ⟨ret_bool (by unfold rightB; simp [h1]), (Below.refl _ _).alloc (Nat.le_refl _) _⟩
theorem rright_c (x y a b : Int) (w : World) :
  Calls Tryz.prog 35 #[.agg #[.int .i64 x, .int .i64 y, .int .i64 a, .int .i64 b]] w fun e w' => e = .returned (.bool (rightB x y a b)) ∧ Below w.heap.size w w' := by
 go_enter Tryz.func35, Tryz.ntmps35
 go_wp2
 all_goals (go_ret; exact ⟨ret_bool (by rw [Bool.eq_iff_iff, rightB_iff]; simp; omega), (Below.refl _ _).alloc (Nat.le_refl _) _⟩)
theorem empty_c (x y a b : Int) (w : World) :
  Calls Tryz.prog 54 #[.agg #[.int .i64 x, .int .i64 y, .int .i64 a, .int .i64 b]] w fun e w' => e = .returned (.bool (emptyB x y a b)) ∧ Below w.heap.size w w' := by
 cases hR : rightB x y a b
 all_goals
  go_enter Tryz.func54, Tryz.ntmps54
  go_wp2_with (go_at_call 81; refine (right_c _ _ _ _ _).mono ?_; rintro e w1 ⟨rfl, hb⟩; obtain ⟨hc, hf⟩ := bcell hb)
  all_goals (go_ret; exact ⟨ret_bool (by rw [Bool.eq_iff_iff]; unfold emptyB; rw [hR]; simp <;> omega), ((Below.refl _ _).alloc (Nat.le_refl _) _).trans (hb.mono (by simp))⟩)
theorem rempty_c (x y a b : Int) (w : World) :
  Calls Tryz.prog 9 #[.agg #[.int .i64 x, .int .i64 y, .int .i64 a, .int .i64 b]] w fun e w' => e = .returned (.bool (emptyB x y a b)) ∧ Below w.heap.size w w' := by
 cases hR : rightB x y a b
 all_goals
  go_enter Tryz.func9, Tryz.ntmps9
  go_wp2_with (go_at_call 35; refine (rright_c _ _ _ _ _).mono ?_; rintro e w1 ⟨rfl, hb⟩; obtain ⟨hc, hf⟩ := bcell hb)
  all_goals (go_ret; exact ⟨ret_bool (by rw [Bool.eq_iff_iff]; unfold emptyB; rw [hR]; simp <;> omega), ((Below.refl _ _).alloc (Nat.le_refl _) _).trans (hb.mono (by simp))⟩)
end Go.Proofs.YtnhchpiafchdgaaGreat
end
section
namespace Go.Proofs.YtnhchpiafchdgaaGreat
open Go.RowKit
theorem ret_rc {a b c d : Int} {r : Rc} (h : r = ⟨a, b, c, d⟩) : Ending.returned (.agg #[.int .i64 a, .int .i64 b, .int .i64 c, .int .i64 d]) = .returned (.agg #[.int .i64 r.x, .int .i64 r.y, .int .i64 r.w, .int .i64 r.h]) := by rw [h]
theorem least_c (x y : Int) (w : World) : Calls Tryz.prog 113 #[.int .i64 x, .int .i64 y] w fun e w' => e = .returned (.int .i64 (min x y)) ∧ w = w' := by
 go_enter Tryz.func113, Tryz.ntmps113
 go_wp2
 all_goals (go_ret; exact ⟨ret_int (by omega), rfl⟩)
theorem most_c (x y : Int) (w : World) : Calls Tryz.prog 114 #[.int .i64 x, .int .i64 y] w fun e w' => e = .returned (.int .i64 (max x y)) ∧ w = w' := by
 go_enter Tryz.func114, Tryz.ntmps114
 go_wp2
 all_goals (go_ret; exact ⟨ret_int (by omega), rfl⟩)
end Go.Proofs.YtnhchpiafchdgaaGreat
end
section
namespace Go.Proofs.YtnhchpiafchdgaaGreat
open Go.RowKit
end Go.Proofs.YtnhchpiafchdgaaGreat
end
section
namespace Go.Proofs.YtnhchpiafchdgaaGreat
open Go.RowKit
def cellOr (w : World) (b o : Nat) : Value := (w.cell? ⟨b, o, none⟩).getD undef
theorem cellOr_of {w : World} {b o : Nat} {v : Value} (h : w.cell? ⟨b, o, none⟩ = some v) : w.cell? ⟨b, o, none⟩ = some (cellOr w b o) := by unfold cellOr; rw [h]; rfl
section
variable {n : Nat} {w0 : World} {x y a b x' y' a' b' : Int} {w w1 : World}
end
end Go.Proofs.YtnhchpiafchdgaaGreat
end
section
namespace Go.Proofs.YtnhchpiafchdgaaGreat
open Go.RowKit
theorem slide_c (s n b : Int) (w : World) (h1 : -32768 ≤ s) (h2 : s ≤ 32767) (h3 : 0 ≤ n) (h4 : s + n ≤ 32768) :
  Calls Tryz.prog 130 #[.int .i64 s, .int .i64 n, .int .i64 b] w fun e w' => e = .returned (.int .i64 (slideI s n b)) ∧ w = w' := by
 have g1 := spanI_le (32768 - n) (-32768) 32767
 have g2 := spanI_ge (32768 - n) (-32768) 32767 (by omega)
 have g3 := spanI_le b (-32768 - s) (spanI (32768 - n) (-32768) 32767 - s)
 have g4 : spanI b (-32768 - s) (spanI (32768 - n) (-32768) 32767 - s) ≤ 70000 := by unfold spanI; omega
 go_enter Tryz.func130, Tryz.ntmps130
 go_wp2_with (first | (go_at_call 132; refine (clamp_c _ _).mono ?_; rintro e w' ⟨rfl, rfl⟩) | (go_at_call 150; refine (span_c _ _ _ _).mono ?_; rintro e w' ⟨rfl, rfl⟩))
 go_ret
 exact ⟨rfl, rfl⟩
theorem rslide_c (s n b : Int) (w : World) (h1 : -32768 ≤ s) (h2 : s ≤ 32767) (h3 : 0 ≤ n) (h4 : s + n ≤ 32768) :
  Calls Tryz.prog 82 #[.int .i64 s, .int .i64 n, .int .i64 b] w fun e w' => e = .returned (.int .i64 (slideI s n b)) ∧ w = w' := by
 go_enter Tryz.func82, Tryz.ntmps82
 go_wp2_with (first | (go_at_call 113; refine (least_c _ _ _).mono ?_; rintro e w' ⟨rfl, rfl⟩) | (go_at_call 114; refine (most_c _ _ _).mono ?_; rintro e w' ⟨rfl, rfl⟩))
 all_goals (go_ret; exact ⟨ret_int (by unfold slideI spanI; omega), rfl⟩)
abbrev OneS (n : Nat) (w0 : World) (x y a b : Int) (w : World) : Prop :=
 (w.cell? ⟨n, 0, none⟩ = some (.int .i64 x) ∧ w.cell? ⟨n, 1, none⟩ = some (.int .i64 y) ∧ w.cell? ⟨n, 2, none⟩ = some (.int .i64 a) ∧ w.cell? ⟨n, 3, none⟩ = some (.int .i64 b)) ∧
 (w.frozen? ⟨n, 0, none⟩ = false ∧ w.frozen? ⟨n, 1, none⟩ = false ∧ w.frozen? ⟨n, 2, none⟩ = false ∧ w.frozen? ⟨n, 3, none⟩ = false) ∧
 (w.cell? ⟨n + 1, 0, none⟩ = some (cellOr w (n + 1) 0) ∧ w.cell? ⟨n + 1, 1, none⟩ = some (cellOr w (n + 1) 1) ∧ w.cell? ⟨n + 1, 2, none⟩ = some (cellOr w (n + 1) 2) ∧ w.cell? ⟨n + 1, 3, none⟩ = some (cellOr w (n + 1) 3)) ∧
 (w.frozen? ⟨n + 1, 0, none⟩ = false ∧ w.frozen? ⟨n + 1, 1, none⟩ = false ∧ w.frozen? ⟨n + 1, 2, none⟩ = false ∧ w.frozen? ⟨n + 1, 3, none⟩ = false) ∧
 Below n w0 w ∧ n + 1 < w.heap.size
def One (n : Nat) (w0 : World) (x y a b : Int) (w : World) : Prop := OneS n w0 x y a b w
section
variable {n : Nat} {w0 : World} {x y a b : Int} {w w1 : World}
theorem one_out (h : One n w0 x y a b w) : OneS n w0 x y a b w := h
theorem one_drew (h : One n w0 x y a b w) : One n w0 x y a b w.drew := by
 obtain ⟨h1, h2, h3, h4, h5, h6⟩ := h
 exact ⟨h1, h2, h3, h4, h5.drew, h6⟩
theorem one_next (hb : Below w.heap.size w w1) (h : One n w0 x y a b w) : One n w0 x y a b w1 := by
 obtain ⟨⟨a1, a2, a3, a4⟩, ⟨b1, b2, b3, b4⟩, ⟨c1, c2, c3, c4⟩, ⟨d1, d2, d3, d4⟩, h5, h6⟩ := h
 obtain ⟨hc, hf⟩ := bcell hb
 have hs := hb.size
 refine ⟨⟨?_, ?_, ?_, ?_⟩, ⟨?_, ?_, ?_, ?_⟩, ⟨cellOr_of ((hc _ _ (by omega)).trans c1), cellOr_of ((hc _ _ (by omega)).trans c2), cellOr_of ((hc _ _ (by omega)).trans c3), cellOr_of ((hc _ _ (by omega)).trans c4)⟩, ⟨?_, ?_, ?_, ?_⟩, h5.trans (hb.mono (by omega)), by omega⟩
 all_goals first | (rw [hc _ _ (by omega)]; assumption) | (rw [hf _ _ (by omega)]; assumption)
theorem one_set (h : One n w0 x y a b w) (o : Nat) (v : Value) : One n w0 x y a b (w.setCell ⟨n + 1, o, none⟩ v) := by
 obtain ⟨⟨a1, a2, a3, a4⟩, ⟨b1, b2, b3, b4⟩, ⟨c1, c2, c3, c4⟩, ⟨d1, d2, d3, d4⟩, h5, h6⟩ := h
 have hk (o' : Nat) (u : Value) (hu : w.cell? ⟨n + 1, o', none⟩ = some u) : (w.setCell ⟨n + 1, o, none⟩ v).cell? ⟨n + 1, o', none⟩ = some (cellOr (w.setCell ⟨n + 1, o, none⟩ v) (n + 1) o') := by
  obtain ⟨u', hu'⟩ := cell?_setCell_some (w := w) (p := ⟨n + 1, o, none⟩) (x := v) (q := ⟨n + 1, o', none⟩) (v := u) hu
  exact cellOr_of hu'
 refine ⟨⟨?_, ?_, ?_, ?_⟩, ⟨?_, ?_, ?_, ?_⟩, ⟨hk _ _ c1, hk _ _ c2, hk _ _ c3, hk _ _ c4⟩, ⟨?_, ?_, ?_, ?_⟩, h5.setCell (by simp) _, by simpa using h6⟩
 all_goals (simp [go_sem, *])
theorem one_start (w : World) (x y a b : Int) (t t' : TypeId) : One w.heap.size w x y a b ((w.alloc (.cells #[.int .i64 x, .int .i64 y, .int .i64 a, .int .i64 b] t)).alloc (.cells #[.int .i64 0, .int .i64 0, .int .i64 0, .int .i64 0] t')) := by
 refine ⟨⟨?_, ?_, ?_, ?_⟩, ⟨?_, ?_, ?_, ?_⟩, ⟨cellOr_of (v := .int .i64 0) ?_, cellOr_of (v := .int .i64 0) ?_, cellOr_of (v := .int .i64 0) ?_, cellOr_of (v := .int .i64 0) ?_⟩, ⟨?_, ?_, ?_, ?_⟩, ?_, by simp⟩
 all_goals first | (simp [go_sem]; done) | (repeat' (first | (with_reducible exact Below.refl _ _) | (with_reducible assumption) | (with_reducible refine Below.alloc ?_ ?_ _) | (with_reducible refine Below.drew ?_) | (with_reducible refine Below.setCell ?_ ?_ _) | (with_reducible refine Below.on (by with_reducible assumption) ?_ ?_) | go_size))
end
set_option maxHeartbeats 1000000 in
theorem shift_c (x y a b dx dy : Int) (w : World) :
   Calls Tryz.prog 107 #[.agg #[.int .i64 x, .int .i64 y, .int .i64 a, .int .i64 b], .int .i64 dx, .int .i64 dy] w fun e w' => e = .returned (.agg #[.int .i64 (shiftR x y a b dx dy).x, .int .i64 (shiftR x y a b dx dy).y, .int .i64 (shiftR x y a b dx dy).w, .int .i64 (shiftR x y a b dx dy).h]) ∧ Below w.heap.size w w' := by
 cases hR : rightB x y a b
 · go_enter Tryz.func107, Tryz.ntmps107
   go_wp2_with (go_at_call 81; refine (right_c _ _ _ _ _).mono ?_; rintro e w1 ⟨rfl, hb⟩; have hS : One w.heap.size w x y a b w1 := one_next hb (by first | assumption | exact one_start _ _ _ _ _ _ _); clear hb; obtain ⟨⟨ca0, ca1, ca2, ca3⟩, ⟨fa0, fa1, fa2, fa3⟩, ⟨cr0, cr1, cr2, cr3⟩, ⟨cf0, cf1, cf2, cf3⟩, hB, hz⟩ := one_out hS)
   refine bodyPost_ret (by simp [results, Tryz.results107, go_sem, cr0, cr1, cr2, cr3]; try rfl) rfl ?_
   exact ⟨ret_rc (by unfold shiftR; simp [hR, zeroR]), by repeat' (first | (with_reducible exact Below.refl _ _) | (with_reducible assumption) | (with_reducible refine Below.alloc ?_ ?_ _) | (with_reducible refine Below.drew ?_) | (with_reducible refine Below.setCell ?_ ?_ _) | (with_reducible refine Below.on (by with_reducible assumption) ?_ ?_) | go_size)⟩
 · obtain ⟨⟨h1, h2, h3, h4⟩, h5, h6, h7, h8⟩ := (rightB_iff x y a b).1 hR
   go_enter Tryz.func107, Tryz.ntmps107
   go_wp2_with (first | (go_at_call 81; refine (right_c _ _ _ _ _).mono ?_; rintro e w1 ⟨rfl, hb⟩; have hS : One w.heap.size w x y a b w1 := one_next hb (by first | assumption | exact one_start _ _ _ _ _ _ _); clear hb; obtain ⟨⟨ca0, ca1, ca2, ca3⟩, ⟨fa0, fa1, fa2, fa3⟩, ⟨cr0, cr1, cr2, cr3⟩, ⟨cf0, cf1, cf2, cf3⟩, hB, hz⟩ := one_out hS) | (go_at_call 130; refine (slide_c _ _ _ _ (by omega) (by omega) (by omega) (by omega)).mono ?_; rintro e w1 ⟨rfl, rfl⟩))
   refine bodyPost_ret (by simp [results, Tryz.results107, go_sem, cr0, cr1, cr2, cr3]; try rfl) rfl ?_
   exact ⟨ret_rc (by unfold shiftR; rw [if_pos hR]), by repeat' (first | (with_reducible exact Below.refl _ _) | (with_reducible assumption) | (with_reducible refine Below.alloc ?_ ?_ _) | (with_reducible refine Below.drew ?_) | (with_reducible refine Below.setCell ?_ ?_ _) | (with_reducible refine Below.on (by with_reducible assumption) ?_ ?_) | go_size)⟩
set_option maxHeartbeats 1000000 in
theorem rshift_c (x y a b dx dy : Int) (w : World) :
   Calls Tryz.prog 55 #[.agg #[.int .i64 x, .int .i64 y, .int .i64 a, .int .i64 b], .int .i64 dx, .int .i64 dy] w fun e w' => e = .returned (.agg #[.int .i64 (shiftR x y a b dx dy).x, .int .i64 (shiftR x y a b dx dy).y, .int .i64 (shiftR x y a b dx dy).w, .int .i64 (shiftR x y a b dx dy).h]) ∧ Below w.heap.size w w' := by
 cases hR : rightB x y a b
 · go_enter Tryz.func55, Tryz.ntmps55
   go_wp2_with (go_at_call 35; refine (rright_c _ _ _ _ _).mono ?_; rintro e w1 ⟨rfl, hb⟩; have hS : One w.heap.size w x y a b w1 := one_next hb (by first | assumption | exact one_start _ _ _ _ _ _ _); clear hb; obtain ⟨⟨ca0, ca1, ca2, ca3⟩, ⟨fa0, fa1, fa2, fa3⟩, ⟨cr0, cr1, cr2, cr3⟩, ⟨cf0, cf1, cf2, cf3⟩, hB, hz⟩ := one_out hS)
   refine bodyPost_ret (by simp [results, Tryz.results55, go_sem, cr0, cr1, cr2, cr3]; try rfl) rfl ?_
   exact ⟨ret_rc (by unfold shiftR; simp [hR, zeroR]), by repeat' (first | (with_reducible exact Below.refl _ _) | (with_reducible assumption) | (with_reducible refine Below.alloc ?_ ?_ _) | (with_reducible refine Below.drew ?_) | (with_reducible refine Below.setCell ?_ ?_ _) | (with_reducible refine Below.on (by with_reducible assumption) ?_ ?_) | go_size)⟩
 · obtain ⟨⟨h1, h2, h3, h4⟩, h5, h6, h7, h8⟩ := (rightB_iff x y a b).1 hR
   go_enter Tryz.func55, Tryz.ntmps55
   go_wp2_with (first | (go_at_call 35; refine (rright_c _ _ _ _ _).mono ?_; rintro e w1 ⟨rfl, hb⟩; have hS : One w.heap.size w x y a b w1 := one_next hb (by first | assumption | exact one_start _ _ _ _ _ _ _); clear hb; obtain ⟨⟨ca0, ca1, ca2, ca3⟩, ⟨fa0, fa1, fa2, fa3⟩, ⟨cr0, cr1, cr2, cr3⟩, ⟨cf0, cf1, cf2, cf3⟩, hB, hz⟩ := one_out hS) | (go_at_call 82; refine (rslide_c _ _ _ _ (by omega) (by omega) (by omega) (by omega)).mono ?_; rintro e w1 ⟨rfl, rfl⟩))
   go_region_held3 (fun wx => (wx.cell? ⟨w.heap.size, 0, none⟩ = some (.int .i64 x) ∧ wx.cell? ⟨w.heap.size, 1, none⟩ = some (.int .i64 y) ∧ wx.cell? ⟨w.heap.size, 2, none⟩ = some (.int .i64 a) ∧ wx.cell? ⟨w.heap.size, 3, none⟩ = some (.int .i64 b)) ∧ (wx.frozen? ⟨w.heap.size, 0, none⟩ = false ∧ wx.frozen? ⟨w.heap.size, 1, none⟩ = false ∧ wx.frozen? ⟨w.heap.size, 2, none⟩ = false ∧ wx.frozen? ⟨w.heap.size, 3, none⟩ = false) ∧ (wx.cell? ⟨w.heap.size + 1, 0, none⟩ = some (cellOr wx (w.heap.size + 1) 0) ∧ wx.cell? ⟨w.heap.size + 1, 1, none⟩ = some (cellOr wx (w.heap.size + 1) 1) ∧ wx.cell? ⟨w.heap.size + 1, 2, none⟩ = some (cellOr wx (w.heap.size + 1) 2) ∧ wx.cell? ⟨w.heap.size + 1, 3, none⟩ = some (cellOr wx (w.heap.size + 1) 3)) ∧ (wx.frozen? ⟨w.heap.size + 1, 0, none⟩ = false ∧ wx.frozen? ⟨w.heap.size + 1, 1, none⟩ = false ∧ wx.frozen? ⟨w.heap.size + 1, 2, none⟩ = false ∧ wx.frozen? ⟨w.heap.size + 1, 3, none⟩ = false) ∧ Below w.heap.size w wx ∧ w.heap.size + 1 < wx.heap.size)
    ((show One w.heap.size w x y a b _; first | (with_reducible exact one_drew hS) | (refine one_next hb ?_; assumption) | ((with_reducible refine one_drew (one_set (one_set (one_set (one_set ?_ _ _) _ _) _ _) _ _)); exact hS) | ((with_reducible refine one_set (one_set (one_set (one_set ?_ _ _) _ _) _ _) _ _); assumption) | assumption))
    (first | (go_at_call 82; refine (rslide_c _ _ _ _ (by omega) (by omega) (by omega) (by omega)).mono ?_; rintro e w1 ⟨rfl, rfl⟩))
   go_wp2
   refine bodyPost_ret (by simp [results, Tryz.results55, go_sem, cr0, cr1, cr2, cr3]; try rfl) rfl ?_
   exact ⟨ret_rc (by unfold shiftR; rw [if_pos hR]), by repeat' (first | (with_reducible exact Below.refl _ _) | (with_reducible assumption) | (with_reducible refine Below.alloc ?_ ?_ _) | (with_reducible refine Below.drew ?_) | (with_reducible refine Below.setCell ?_ ?_ _) | (with_reducible refine Below.on (by with_reducible assumption) ?_ ?_) | go_size)⟩
end Go.Proofs.YtnhchpiafchdgaaGreat
end
section
namespace Go.Proofs.YtnhchpiafchdgaaGreat
open Go.RowKit
def Blk (w : World) (g : Nat) (t : TypeId) (cs : Array Value) : Prop := w.heap[g]? = some (.cells cs t (0, 0))
section
variable {w w' : World} {g : Nat} {t : TypeId} {cs : Array Value}
theorem Blk.raw (h : Blk w g t cs) : w.heap[g]? = some (.cells cs t (0, 0)) := h
theorem Blk.lt (h : Blk w g t cs) : g < w.heap.size := by
 rcases Nat.lt_or_ge g w.heap.size with hlt | hge
 · exact hlt
 · unfold Blk at h; rw [Array.getElem?_eq_none hge] at h; cases h
theorem Blk.cell (h : Blk w g t cs) (i : Nat) : w.cell? ⟨g, i, none⟩ = cs[i]? := cell_of_row w g i cs t (0, 0) h
theorem Blk.at_ (h : Blk w g t cs) {i : Nat} {v : Value} (hv : cs[i]? = some v) : w.cell? ⟨g, i, none⟩ = some v := (h.cell i).trans hv
theorem Blk.frozen (h : Blk w g t cs) (i : Nat) : w.frozen? ⟨g, i, none⟩ = false := by
 unfold Blk at h
 simp [World.frozen?, h]
theorem Blk.new (w : World) (t : TypeId) (cs : Array Value) : Blk (w.alloc (.cells cs t)) w.heap.size t cs := heap_alloc_new w _
theorem Blk.drew (h : Blk w g t cs) : Blk w.drew g t cs := h
theorem Blk.drewN (h : Blk w g t cs) (n : Nat) : Blk (w.drewN n) g t cs := h
theorem Blk.alloc (h : Blk w g t cs) (o : Obj) : Blk (w.alloc o) g t cs := (Below.heap_alloc w o g h.lt).trans h
theorem Blk.set_ (h : Blk w g t cs) (i : Nat) (u : Value) : Blk (w.setCell ⟨g, i, none⟩ u) g t (cs.setIfInBounds i u) := by
 unfold Blk at h ⊢
 simp [World.setCell, Array.getElem?_modify, h]
theorem Blk.far (h : Blk w g t cs) {p : Addr} (hp : g ≠ p.block) (u : Value) : Blk (w.setCell p u) g t cs := (Below.heap_setCell w p u g hp).trans h
theorem Blk.below {B : Nat} (h : Blk w g t cs) (hb : Below B w w') (hg : g < B) : Blk w' g t cs := (hb.block g hg).trans h
theorem Blk.next (h : Blk w g t cs) (hb : Below w.heap.size w w') : Blk w' g t cs := h.below hb h.lt
theorem Blk.grown {row : Option Nat} (h : Blk w g t cs) (hb : w.grownBy w' row) (hg : some g ≠ row) : Blk w' g t cs := (hb.block g h.lt hg).trans h
theorem Blk.ne_ {g' : Nat} {t' : TypeId} {cs' : Array Value} (h : Blk w g t cs) (h' : Blk w g' t' cs') (hne : t ≠ t') : g ≠ g' := by
 rintro rfl
 unfold Blk at h h'
 rw [h] at h'
 injection h' with h'
 injection h' with _ ht
 exact hne ht
theorem Blk.same {cs' : Array Value} {t' : TypeId} (h : Blk w g t cs) (h' : Blk w g t' cs') : cs = cs' := by
 unfold Blk at h h'
 rw [h] at h'
 injection h' with h'
 injection h'
theorem Blk.c1 {v0 : Value} (h : Blk w g t #[v0]) : (w.cell? ⟨g, 0, none⟩ = some v0) ∧ (w.frozen? ⟨g, 0, none⟩ = false) :=
 ⟨h.at_ (i := 0) rfl, h.frozen 0⟩
theorem Blk.c2 {v0 v1 : Value} (h : Blk w g t #[v0, v1]) : (w.cell? ⟨g, 0, none⟩ = some v0 ∧ w.cell? ⟨g, 1, none⟩ = some v1) ∧ (w.frozen? ⟨g, 0, none⟩ = false ∧ w.frozen? ⟨g, 1, none⟩ = false) :=
 ⟨⟨h.at_ (i := 0) rfl, h.at_ (i := 1) rfl⟩, ⟨h.frozen 0, h.frozen 1⟩⟩
theorem Blk.c3 {v0 v1 v2 : Value} (h : Blk w g t #[v0, v1, v2]) : (w.cell? ⟨g, 0, none⟩ = some v0 ∧ w.cell? ⟨g, 1, none⟩ = some v1 ∧ w.cell? ⟨g, 2, none⟩ = some v2) ∧ (w.frozen? ⟨g, 0, none⟩ = false ∧ w.frozen? ⟨g, 1, none⟩ = false ∧ w.frozen? ⟨g, 2, none⟩ = false) :=
 ⟨⟨h.at_ (i := 0) rfl, h.at_ (i := 1) rfl, h.at_ (i := 2) rfl⟩, ⟨h.frozen 0, h.frozen 1, h.frozen 2⟩⟩
theorem Blk.c4 {v0 v1 v2 v3 : Value} (h : Blk w g t #[v0, v1, v2, v3]) : (w.cell? ⟨g, 0, none⟩ = some v0 ∧ w.cell? ⟨g, 1, none⟩ = some v1 ∧ w.cell? ⟨g, 2, none⟩ = some v2 ∧ w.cell? ⟨g, 3, none⟩ = some v3) ∧ (w.frozen? ⟨g, 0, none⟩ = false ∧ w.frozen? ⟨g, 1, none⟩ = false ∧ w.frozen? ⟨g, 2, none⟩ = false ∧ w.frozen? ⟨g, 3, none⟩ = false) :=
 ⟨⟨h.at_ (i := 0) rfl, h.at_ (i := 1) rfl, h.at_ (i := 2) rfl, h.at_ (i := 3) rfl⟩, ⟨h.frozen 0, h.frozen 1, h.frozen 2, h.frozen 3⟩⟩
theorem Blk.c7 {v0 v1 v2 v3 v4 v5 v6 : Value} (h : Blk w g t #[v0, v1, v2, v3, v4, v5, v6]) : (w.cell? ⟨g, 0, none⟩ = some v0 ∧ w.cell? ⟨g, 1, none⟩ = some v1 ∧ w.cell? ⟨g, 2, none⟩ = some v2 ∧ w.cell? ⟨g, 3, none⟩ = some v3 ∧ w.cell? ⟨g, 4, none⟩ = some v4 ∧ w.cell? ⟨g, 5, none⟩ = some v5 ∧ w.cell? ⟨g, 6, none⟩ = some v6) ∧ (w.frozen? ⟨g, 0, none⟩ = false ∧ w.frozen? ⟨g, 1, none⟩ = false ∧ w.frozen? ⟨g, 2, none⟩ = false ∧ w.frozen? ⟨g, 3, none⟩ = false ∧ w.frozen? ⟨g, 4, none⟩ = false ∧ w.frozen? ⟨g, 5, none⟩ = false ∧ w.frozen? ⟨g, 6, none⟩ = false) :=
 ⟨⟨h.at_ (i := 0) rfl, h.at_ (i := 1) rfl, h.at_ (i := 2) rfl, h.at_ (i := 3) rfl, h.at_ (i := 4) rfl, h.at_ (i := 5) rfl, h.at_ (i := 6) rfl⟩, ⟨h.frozen 0, h.frozen 1, h.frozen 2, h.frozen 3, h.frozen 4, h.frozen 5, h.frozen 6⟩⟩
end
section
variable {a w w' : World} {row : Option Nat} {g : Nat}
theorem only_refl (w : World) (row : Option Nat) : w.grownBy w row := World.grownBy.refl w row
theorem only_drew (h : a.grownBy w row) : a.grownBy w.drew row := ⟨h.os, h.tape, h.output, h.size, h.block⟩
theorem only_alloc (h : a.grownBy w row) (o : Obj) : a.grownBy (w.alloc o) row :=
 ⟨h.os, h.tape, h.output, Nat.le_trans h.size (by simp), fun i hi hne => (Below.heap_alloc w o i (Nat.lt_of_lt_of_le hi h.size)).trans (h.block i hi hne)⟩
theorem only_setCell (h : a.grownBy w row) {p : Addr} (hp : some p.block = row ∨ a.heap.size ≤ p.block) (u : Value) : a.grownBy (w.setCell p u) row :=
 ⟨h.os, h.tape, h.output, by simpa [World.setCell] using h.size, fun i hi hne => (Below.heap_setCell w p u i (by
  rintro rfl
  rcases hp with hp | hp
  · exact hne hp
  · omega)).trans (h.block i hi hne)⟩
theorem only_of_below (h : Below a.heap.size a w) (row : Option Nat) : a.grownBy w row := ⟨h.os, h.tape, h.output, h.size, fun i hi _ => h.block i hi⟩
theorem only_trans {b c : World} (h : a.grownBy b row) (k : b.grownBy c row) : a.grownBy c row :=
 ⟨k.os.trans h.os, k.tape.trans h.tape, k.output.trans h.output, Nat.le_trans h.size k.size, fun i hi hne => (k.block i (Nat.lt_of_lt_of_le hi h.size) hne).trans (h.block i hi hne)⟩
theorem only_next (h : a.grownBy w row) (hb : Below w.heap.size w w') : a.grownBy w' row := only_trans h (only_of_below hb row)
def Kept (N : Nat → Prop) (w w' : World) : Prop := w'.os = w.os ∧ w'.tape = w.tape ∧ w'.output = w.output ∧ w.heap.size ≤ w'.heap.size ∧ ∀ i, i < w.heap.size → N i → w'.heap[i]? = w.heap[i]?
theorem Kept.of_below {N : Nat → Prop} (h : Below w.heap.size w w') : Kept N w w' := ⟨h.os, h.tape, h.output, h.size, fun i hi _ => h.block i hi⟩
theorem Kept.trans {N : Nat → Prop} {a b c : World} (h : Kept N a b) (k : Kept N b c) : Kept N a c :=
 ⟨k.1.trans h.1, k.2.1.trans h.2.1, k.2.2.1.trans h.2.2.1, Nat.le_trans h.2.2.2.1 k.2.2.2.1, fun i hi hn => (k.2.2.2.2 i (Nat.lt_of_lt_of_le hi h.2.2.2.1) hn).trans (h.2.2.2.2 i hi hn)⟩
theorem Kept.blk {N : Nat → Prop} {t : TypeId} {cs : Array Value} (h : Kept N w w') (hb : Blk w g t cs) (hn : N g) : Blk w' g t cs := (h.2.2.2.2 g hb.lt hn).trans hb
theorem Kept.below {N : Nat → Prop} {B : Nat} (h : Below B a w) (k : Kept N w w') (hB : B ≤ w.heap.size) (hN : ∀ i, i < B → N i) : Below B a w' :=
 h.trans ⟨k.1, k.2.1, k.2.2.1, k.2.2.2.1, fun i hi => k.2.2.2.2 i (by omega) (hN i hi)⟩
theorem below_drewN {B : Nat} (h : Below B a w) (n : Nat) : Below B a (w.drewN n) := ⟨h.os, h.tape, h.output, h.size, h.block⟩
theorem below_only {B : Nat} (h : Below B a w) (k : w.grownBy w' row) (hB : B ≤ w.heap.size) (hr : ∀ g, row = some g → B ≤ g) : Below B a w' := h.grown k hB hr
end
end Go.Proofs.YtnhchpiafchdgaaGreat
end
section
namespace Go.Proofs.YtnhchpiafchdgaaGreat
open Go.RowKit
def encR (r : Rc) : List Value := [.int .i64 r.x, .int .i64 r.y, .int .i64 r.w, .int .i64 r.h]
def Asd (p : Prop) : Prop := p
def RdK {α : Type} (enc : α → List Value) (k : Nat) (w : World) (v : Value) (xs : List α) : Prop :=
 ∃ p c, v = .slice p xs.length c ∧ ∀ (j : Nat) (x : α), xs[j]? = some x → ∃ b o, p = some ⟨b, o, none⟩ ∧ b < w.heap.size ∧ ∀ (i : Nat) (u : Value), (enc x)[i]? = some u → w.cell? ⟨b, o + j * k + i, none⟩ = some u
section
variable {α : Type} {enc : α → List Value} {k : Nat} {w w' : World} {v : Value} {xs : List α}
theorem RdK.below (h : RdK enc k w v xs) (hb : Below w.heap.size w w') : RdK enc k w' v xs := by
 obtain ⟨p, c, h1, h2⟩ := h
 refine ⟨p, c, h1, fun j x hx => ?_⟩
 obtain ⟨b, o, h3, h4, h5⟩ := h2 j x hx
 exact ⟨b, o, h3, Nat.lt_of_lt_of_le h4 hb.size, fun i u hu => (hb.cell (p := ⟨b, o + j * k + i, none⟩) h4).trans (h5 i u hu)⟩
theorem RdK.drewN (h : RdK enc k w v xs) (n : Nat) : RdK enc k (w.drewN n) v xs := h
theorem RdK.drew (h : RdK enc k w v xs) : RdK enc k w.drew v xs := h
theorem RdK.alloc (h : RdK enc k w v xs) (o : Obj) : RdK enc k (w.alloc o) v xs := h.below ((Below.refl _ _).alloc (Nat.le_refl _) o)
theorem RdK.nil (w : World) (c : Nat) : RdK enc k w (.slice none 0 c) [] := ⟨none, c, rfl, fun j x hx => by simp at hx⟩
end
theorem RdK.rect {w : World} {b o j : Nat} {r : Rc} (h : ∀ (i : Nat) (u : Value), (encR r)[i]? = some u → w.cell? ⟨b, o + j * 4 + i, none⟩ = some u) :
  w.cell? ⟨b, o + j * 4, none⟩ = some (.int .i64 r.x) ∧ w.cell? ⟨b, o + j * 4 + 1, none⟩ = some (.int .i64 r.y) ∧ w.cell? ⟨b, o + j * 4 + 2, none⟩ = some (.int .i64 r.w) ∧ w.cell? ⟨b, o + j * 4 + 3, none⟩ = some (.int .i64 r.h) :=
 ⟨h 0 _ rfl, h 1 _ rfl, h 2 _ rfl, h 3 _ rfl⟩
end Go.Proofs.YtnhchpiafchdgaaGreat
end
section
namespace Go.Proofs.YtnhchpiafchdgaaGreat
open Go.RowKit Go.Shelf
theorem RdK.slice {α : Type} {enc : α → List Value} {k : Nat} {w : World} {v : Value} {xs : List α} (h : RdK enc k w v xs) : ∃ p c, v = .slice p xs.length c := by
 obtain ⟨p, c, h1, _⟩ := h
 exact ⟨p, c, h1⟩
end Go.Proofs.YtnhchpiafchdgaaGreat
end
section
namespace Go.Proofs.YtnhchpiafchdgaaGreat
open Go.RowKit Go.Shelf
theorem take_snoc_get {α : Type} {l : List α} {k : Nat} {x : α} (h : l[k]? = some x) : l.take (k + 1) = l.take k ++ [x] := by
 have hk := (List.getElem?_eq_some_iff.1 h).1
 rw [List.take_succ_eq_append_getElem hk]
 rw [List.getElem?_eq_getElem hk] at h
 injection h with h
 rw [h]
def Bst (w0 : World) (n0 n1 : Nat) (Z A : Array Value) (wx : World) : Prop := Blk wx n0 23 Z ∧ Blk wx n1 23 A ∧ Below w0.heap.size w0 wx ∧ w0.heap.size ≤ n0 ∧ w0.heap.size ≤ n1 ∧ n0 ≠ n1
section
variable {w0 wx w1 : World} {n0 n1 : Nat} {Z A : Array Value}
theorem Bst.next (h : Bst w0 n0 n1 Z A wx) (hb : Below wx.heap.size wx w1) : Bst w0 n0 n1 Z A w1 := ⟨h.1.next hb, h.2.1.next hb, h.2.2.1.trans (hb.mono h.2.2.1.size), h.2.2.2⟩
theorem Bst.rset (h : Bst w0 n0 n1 Z A wx) (i : Nat) (v : Value) : Bst w0 n0 n1 Z (A.setIfInBounds i v) (wx.setCell ⟨n1, i, none⟩ v) :=
 ⟨h.1.far h.2.2.2.2.2 _, h.2.1.set_ i v, h.2.2.1.setCell h.2.2.2.2.1 _, h.2.2.2⟩
theorem Bst.zset (h : Bst w0 n0 n1 Z A wx) (i : Nat) (v : Value) : Bst w0 n0 n1 (Z.setIfInBounds i v) A (wx.setCell ⟨n0, i, none⟩ v) :=
 ⟨h.1.set_ i v, h.2.1.far (Ne.symm h.2.2.2.2.2) _, h.2.2.1.setCell h.2.2.2.1 _, h.2.2.2⟩
theorem Bst.four (h : Bst w0 n0 n1 Z A wx) (hA : A.size = 4) (v0 v1 v2 v3 : Value) :
  Bst w0 n0 n1 Z #[v0, v1, v2, v3] ((((wx.setCell ⟨n1, 0, none⟩ v0).setCell ⟨n1, 1, none⟩ v1).setCell ⟨n1, 2, none⟩ v2).setCell ⟨n1, 3, none⟩ v3) := by
 obtain ⟨l⟩ := A
 match l, hA with
 | [a0, a1, a2, a3], _ => exact (((h.rset 0 v0).rset 1 v1).rset 2 v2).rset 3 v3
theorem Bst.last (h : Bst w0 n0 n1 Z A wx) (v0 v1 v2 v3 : Value) :
  Below w0.heap.size w0 ((((wx.setCell ⟨n0, 0, none⟩ v0).setCell ⟨n0, 1, none⟩ v1).setCell ⟨n0, 2, none⟩ v2).setCell ⟨n0, 3, none⟩ v3) :=
 ((((h.zset 0 v0).zset 1 v1).zset 2 v2).zset 3 v3).2.2.1
end
end Go.Proofs.YtnhchpiafchdgaaGreat
end
section
namespace Go.Proofs.YtnhchpiafchdgaaGreat
open Go.RowKit Go.Shelf
def OwK {α : Type} (enc : α → List Value) (T : TypeId) (k : Nat) (w : World) (base : Nat) (v : Value) (xs : List α) : Prop := w.ownsRow base T k v xs.length (xs.flatMap enc)
section
variable {α : Type} {enc : α → List Value} {T : TypeId} {k : Nat} {w w' : World} {base : Nat} {v : Value} {xs : List α}
theorem OwK.nil (w : World) (base : Nat) : OwK enc T k w base (.slice none 0 0) [] := World.ownsRow_nil w base _ _
theorem OwK.grown {row : Option Nat} (h : OwK enc T k w base v xs) (hg : w.grownBy w' row) (hne : v.ownBlock = none ∨ v.ownBlock ≠ row) : OwK enc T k w' base v xs := World.ownsRow.kept h hg hne
theorem OwK.below (h : OwK enc T k w base v xs) (hb : Below w.heap.size w w') : OwK enc T k w' base v xs := by
 refine h.grown (only_of_below hb none) ?_
 cases v.ownBlock with
 | none => exact .inl rfl
 | some g => exact .inr (by simp)
theorem OwK.less {base' : Nat} (h : OwK enc T k w base v xs) (hb : base' ≤ base) : OwK enc T k w base' v xs := by
 obtain ⟨h1, h2⟩ := h
 refine ⟨h1, ?_⟩
 rcases h2 with h2 | ⟨g, cap, cur, a, b, c⟩
 · exact .inl h2
 · exact .inr ⟨g, cap, cur, a, Nat.le_trans hb b, c⟩
theorem OwK.lt (h : OwK enc T k w base v xs) {g : Nat} (hg : v.ownBlock = some g) : base ≤ g ∧ g < w.heap.size := World.ownsRow.lt h g hg
theorem flat_len (hk : ∀ x, (enc x).length = k) (xs : List α) : (xs.flatMap enc).length = xs.length * k := by
 induction xs with
 | nil => simp
 | cons x t ih => rw [List.flatMap_cons, List.length_append, hk, ih, List.length_cons, Nat.add_mul]; omega
theorem flat_get (hk : ∀ x, (enc x).length = k) : ∀ (xs : List α) (j : Nat) (x : α) (i : Nat) (u : Value), xs[j]? = some x → (enc x)[i]? = some u → (xs.flatMap enc)[j * k + i]? = some u
 | [], j, x, i, u, hx, _ => by simp at hx
 | y :: t, 0, x, i, u, hx, hu => by
  simp only [List.getElem?_cons_zero, Option.some.injEq] at hx
  subst hx
  have hi := (List.getElem?_eq_some_iff.1 hu).1
  rw [List.flatMap_cons, Nat.zero_mul, Nat.zero_add, List.getElem?_append_left hi]
  exact hu
 | y :: t, j + 1, x, i, u, hx, hu => by
  rw [List.getElem?_cons_succ] at hx
  have := flat_get hk t j x i u hx hu
  rw [List.flatMap_cons, List.getElem?_append_right (by rw [hk, Nat.add_mul]; omega), hk]
  rw [show (j + 1) * k + i - k = j * k + i by rw [Nat.add_mul]; omega]
  exact this
theorem OwK.form (hk : ∀ x, (enc x).length = k) (h : OwK enc T k w base v xs) (hne : xs ≠ []) : ∃ g cap, v = .slice (some ⟨g, 0, none⟩) xs.length cap ∧ base ≤ g ∧ g < w.heap.size ∧
   (∀ (j : Nat) (x : α) (i : Nat) (u : Value), xs[j]? = some x → (enc x)[i]? = some u → w.cell? ⟨g, j * k + i, none⟩ = some u) ∧ ∀ j, w.frozen? ⟨g, j, none⟩ = false := by
 have h0 := h
 obtain ⟨hlen, h1⟩ := h
 rcases h1 with ⟨_, hn⟩ | ⟨g, cap, cur, rfl, hb, hg, hnc, hm, hs, ht⟩
 · exact absurd (List.eq_nil_of_length_eq_zero hn) hne
 · refine ⟨g, cap, rfl, hb, (World.ownsRow.lt h0 g rfl).2, fun j x i u hx hu => ?_, fun j => World.ownsRow.frozenAt h0 j⟩
   have h2 := flat_get hk xs j x i u hx hu
   have h3 := (List.getElem?_eq_some_iff.1 h2).1
   rw [hlen] at h3
   exact (World.ownsRow.cellAt h0 _ h3).trans h2
theorem OwK.slice (h : OwK enc T k w base v xs) : ∃ p c, v = .slice p xs.length c := by
 obtain ⟨_, h1⟩ := h
 rcases h1 with ⟨rfl, hn⟩ | ⟨g, cap, cur, rfl, _⟩
 · rw [hn]; exact ⟨_, _, rfl⟩
 · exact ⟨_, _, rfl⟩
theorem OwK.reads (hk : ∀ x, (enc x).length = k) (h : OwK enc T k w base v xs) : RdK enc k w v xs := by
 by_cases hne : xs = []
 · subst hne
   obtain ⟨p, c, rfl⟩ := h.slice
   exact ⟨p, c, rfl, fun j x hx => by simp at hx⟩
 · obtain ⟨g, cap, rfl, _, hl, hc, _⟩ := h.form hk hne
   exact ⟨_, cap, rfl, fun j x hx => ⟨g, 0, rfl, hl, fun i u hu => by rw [Nat.zero_add]; exact hc j x i u hx hu⟩⟩
end
theorem encR_len (r : Rc) : (encR r).length = 4 := rfl
theorem flat_set (rs : List Rc) (j : Nat) (r : Rc) (hj : j < rs.length) :
  ((((rs.flatMap encR).set (j * 4) (.int .i64 r.x)).set (j * 4 + 1) (.int .i64 r.y)).set (j * 4 + 2) (.int .i64 r.w)).set (j * 4 + 3) (.int .i64 r.h) = (rs.set j r).flatMap encR := by
 induction rs generalizing j with
 | nil => simp at hj
 | cons a t ih =>
  cases j with
  | zero => simp [List.flatMap_cons, encR]
  | succ j =>
   have h := ih j (by simpa using hj)
   rw [List.set_cons_succ, List.flatMap_cons, List.flatMap_cons, ← h]
   have e : ∀ (l : List Value) (m : Nat) (u : Value), (encR a ++ l).set (4 + m) u = encR a ++ l.set m u := fun l m u => by
    rw [List.set_append_right _ _ (by rw [encR_len]; omega), encR_len]; congr 2; omega
   rw [show (j + 1) * 4 = 4 + j * 4 by omega, e, show 4 + j * 4 + 1 = 4 + (j * 4 + 1) by omega, e, show 4 + j * 4 + 2 = 4 + (j * 4 + 2) by omega, e, show 4 + j * 4 + 3 = 4 + (j * 4 + 3) by omega, e]
end Go.Proofs.YtnhchpiafchdgaaGreat
end
section
namespace Go.Proofs.YtnhchpiafchdgaaGreat
open Go.RowKit
theorem intInfo : (Tryz.prog.info? 3).map (fun i => (i.zero, i.size, i.bytes)) = some (some (.int .i64 0), 1, 8) := by kernel_rfl
theorem cell_list (w : World) (t : TypeId) (l : List Value) : ∀ (j : Nat) (u : Value), l[j]? = some u → (w.alloc (.cells l.toArray t)).cell? ((⟨w.heap.size, 0, none⟩ : Addr).add j) = some u := by
 intro j u hu
 have h := (Blk.new w t l.toArray).cell j
 rw [Addr.add_lit, Nat.zero_add, h]
 simpa using hu
theorem oneCell_ints (zs : List Int) : ∀ u ∈ zs.map (Value.int .i64), u.oneCell' = true := by
 intro u hu
 obtain ⟨z, _, rfl⟩ := List.mem_map.1 hu
 rfl
theorem cell_list_at (w : World) (t : TypeId) (l : List Value) (k : Nat) (hk : w.heap.size = k) : ∀ (j : Nat) (u : Value), l[j]? = some u → (w.alloc (.cells l.toArray t)).cell? ((⟨k, 0, none⟩ : Addr).add j) = some u := by subst hk; exact cell_list w t l
end Go.Proofs.YtnhchpiafchdgaaGreat
end
section
namespace Go.Proofs.YtnhchpiafchdgaaGreat
structure Win where
 id : Int
 par : Int
 x : Int
 y : Int
 w : Int
 h : Int
 on : Bool
structure Nd where
 win : Win
 kids : List Int
def upd {α : Type} (f : Int → α) (i : Int) (v : α) : Int → α := fun j => if j = i then v else f j
theorem upd_same {α : Type} (f : Int → α) (i : Int) (v : α) : upd f i v i = v := if_pos rfl
theorem upd_other {α : Type} (f : Int → α) {i j : Int} (v : α) (h : j ≠ i) : upd f i v j = f j := if_neg h
theorem upd_self {α : Type} {f : Int → α} {i : Int} {v : α} (h : f i = v) : upd f i v = f := by
 funext j
 unfold upd
 split
 · next e => rw [e, h]
 · rfl
theorem upd_twice {α : Type} (f : Int → α) (i : Int) (u v : α) : upd (upd f i u) i v = upd f i v := by
 funext j
 unfold upd
 split <;> simp_all
theorem upd_comm {α : Type} (f : Int → α) {i j : Int} (u v : α) (h : i ≠ j) : upd (upd f i u) j v = upd (upd f j v) i u := by
 funext k
 unfold upd
 by_cases h1 : k = i <;> by_cases h2 : k = j <;> simp_all
def strike (k : Int) (xs : List Int) : List Int := xs.filter (fun x => decide (x ≠ k))
def I64 (i : Int) : Prop := -9223372036854775808 ≤ i ∧ i ≤ 9223372036854775807
def zeroW : Win := ⟨0, 0, 0, 0, 0, 0, false⟩
end Go.Proofs.YtnhchpiafchdgaaGreat
end
section
namespace Go.Proofs.YtnhchpiafchdgaaGreat
open Go.RowKit Go.Shelf
structure RT where
 x : Int
 y : Int
 w : Int
 h : Int
 last : Int
abbrev refV (R : RT) (sv : Value) : Value := .agg #[.int .i64 R.x, .int .i64 R.y, .int .i64 R.w, .int .i64 R.h, .int .i64 R.last, sv]
abbrev refA (R : RT) (sv : Value) : Array Value := #[.int .i64 R.x, .int .i64 R.y, .int .i64 R.w, .int .i64 R.h, .int .i64 R.last, sv]
def encW (v : Win) : List Value := [.int .i64 v.id, .int .i64 v.par, .int .i64 v.x, .int .i64 v.y, .int .i64 v.w, .int .i64 v.h, .bool v.on]
theorem encW_len (v : Win) : (encW v).length = 7 := rfl
abbrev RW (w : World) (sv : Value) (L : List Win) : Prop := RdK encW 7 w sv L
theorem RW.cells {w : World} {b o j : Nat} {v : Win} (h : ∀ (i : Nat) (u : Value), (encW v)[i]? = some u → w.cell? ⟨b, o + j * 7 + i, none⟩ = some u) :
  w.cell? ⟨b, o + j * 7, none⟩ = some (.int .i64 v.id) ∧ w.cell? ⟨b, o + j * 7 + 1, none⟩ = some (.int .i64 v.par) ∧ w.cell? ⟨b, o + j * 7 + 2, none⟩ = some (.int .i64 v.x) ∧ w.cell? ⟨b, o + j * 7 + 3, none⟩ = some (.int .i64 v.y) ∧
   w.cell? ⟨b, o + j * 7 + 4, none⟩ = some (.int .i64 v.w) ∧ w.cell? ⟨b, o + j * 7 + 5, none⟩ = some (.int .i64 v.h) ∧ w.cell? ⟨b, o + j * 7 + 6, none⟩ = some (.bool v.on) :=
 ⟨h 0 _ rfl, h 1 _ rfl, h 2 _ rfl, h 3 _ rfl, h 4 _ rfl, h 5 _ rfl, h 6 _ rfl⟩
def placeN (i : Int) : List Win → Option Nat
 | [] => none
 | v :: t => if v.id = i then some 0 else (placeN i t).map (· + 1)
def placeI (o : Option Nat) : Int := match o with
 | some k => (k : Int)
 | none => -1
theorem placeN_at {i : Int} : ∀ (L : List Win) (k : Nat) (v : Win), L[k]? = some v → v.id = i → (∀ (j : Nat) (u : Win), j < k → L[j]? = some u → u.id ≠ i) → placeN i L = some k
 | [], k, v, h, _, _ => by simp at h
 | a :: t, 0, v, h, hi, _ => by
  simp at h; subst h
  simp [placeN, hi]
 | a :: t, k + 1, v, h, hi, hj => by
  have h0 := hj 0 a (by omega) rfl
  have ih := placeN_at t k v (by simpa using h) hi (fun j u hj' hu => hj (j + 1) u (by omega) (by simpa using hu))
  simp [placeN, h0, ih]
theorem placeN_no {i : Int} : ∀ (L : List Win), (∀ u ∈ L, u.id ≠ i) → placeN i L = none
 | [], _ => rfl
 | a :: t, h => by
  have ih := placeN_no t (fun u hu => h u (List.mem_cons_of_mem _ hu))
  simp [placeN, h a (List.mem_cons_self ..), ih]
theorem placeN_get {i : Int} : ∀ (L : List Win) (k : Nat), placeN i L = some k → ∃ v, L[k]? = some v ∧ v.id = i ∧ k < L.length
 | [], k, h => by simp [placeN] at h
 | a :: t, k, h => by
  unfold placeN at h
  split at h
  · next e => injection h with h; subst h; exact ⟨a, rfl, e, by simp⟩
  · obtain ⟨k', h1, rfl⟩ := Option.map_eq_some_iff.1 h
    obtain ⟨v, h2, h3, h4⟩ := placeN_get t k' h1
    exact ⟨v, by simpa using h2, h3, by simpa using h4⟩
theorem placeN_none {i : Int} : ∀ (L : List Win), placeN i L = none → ∀ u ∈ L, u.id ≠ i
 | [], _, u, hu => by cases hu
 | a :: t, h, u, hu => by
  unfold placeN at h
  split at h
  · cases h
  · next e =>
    rcases List.mem_cons.1 hu with rfl | hu
    · exact e
    · exact placeN_none t (by simpa using h) u hu
def isL (L : List Win) (i : Int) : Bool := i == 0 || (placeN i L).isSome
def askL (L : List Win) (i : Int) : Int := if isL L i = false then 6 else if i = 0 then 1 else 0
section
variable {w : World} {R : RT} {sv : Value} {L : List Win}
set_option maxRecDepth 100000 in
set_option maxHeartbeats 4000000 in
theorem place_c (h : RW w sv L) (hL : L.length ≤ 1048576) (i : Int) :
  Calls Tryz.prog 64 #[refV R sv, .int .i64 i] w fun e w' => e = .returned (.int .i64 (placeI (placeN i L))) ∧ Below w.heap.size w w' := by
 obtain ⟨p, c, rfl, hc⟩ := h
 obtain ⟨wb, hwb⟩ : ∃ wb, wb = w.alloc (.cells (refA R (.slice p L.length c)) 54) := ⟨_, rfl⟩
 have hbel : Below w.heap.size w wb := by rw [hwb]; exact (Below.refl _ _).alloc (Nat.le_refl _) _
 have b5 : wb.cell? ⟨w.heap.size, 5, none⟩ = some (.slice p L.length c) := by rw [hwb]; exact (Blk.new w _ _).at_ (i := 5) rfl
 obtain ⟨n, hn⟩ : ∃ n, n = L.length := ⟨_, rfl⟩
 rw [← hn] at b5 hwb hL ⊢
 have HC := Lib.hid (fun (j : Nat) (v : Win) (hv : L[j]? = some v) => (show ∃ b o, p = some ⟨b, o, none⟩ ∧ ∀ (i : Nat) (u : Value), (encW v)[i]? = some u → wb.cell? ⟨b, o + j * 7 + i, none⟩ = some u from by
  obtain ⟨b, o, h1, h2, h3⟩ := hc j v hv
  exact ⟨b, o, h1, fun i u hu => (hbel.cell (p := ⟨b, o + j * 7 + i, none⟩) h2).trans (h3 i u hu)⟩))
 have HN := Lib.hid hn
 have HB := Lib.hid hbel
 have HW := Lib.hid hwb
 have hm0 : (n : Int) ≤ 1048576 := by omega
 clear hc hn hbel
 go_enter Tryz.func64, Tryz.ntmps64
 go_upto_region 1 with fail
 rw [← HW.out]
 clear hwb
 go_wp2_with fail
 go_loopw [5] (fun z wr => ∃ k : Nat, k ≤ n ∧ z = .int .i64 k ∧ wr = wb ∧ Asd (∀ (j : Nat) (u : Win), j < k → L[j]? = some u → u.id ≠ i)) (fun z _ => n - (intOf z).toNat)
 case atStart => exact ⟨0, Nat.zero_le _, rfl, rfl, fun j u hj => absurd hj (Nat.not_lt_zero _)⟩
 case round =>
  obtain ⟨k, hk, rfl, rfl, hA⟩ := hrel
  have HA := Lib.hid (show ∀ (j : Nat) (u : Win), j < k → L[j]? = some u → u.id ≠ i from hA)
  clear hA
  have hi0 : (0 : Int) ≤ (k : Int) := by omega
  by_cases hlt : k < n
  · obtain ⟨v, hv⟩ : ∃ v, L[k]? = some v := ⟨_, List.getElem?_eq_getElem (by rw [← HN.out]; exact hlt)⟩
    obtain ⟨b, o, rfl, hb2⟩ := HC.out k v hv
    obtain ⟨r0, -⟩ := RW.cells hb2
    have HV := Lib.hid hv
    clear hb2 hv
    have hi1 : (k : Int) < (n : Int) := by omega
    by_cases hvi : v.id = i
    · have h1 : (v.id == i) = true := by simpa using hvi
      have HP := Lib.hid (placeN_at L k v HV.out hvi HA.out)
      clear hvi
      go_wp2_with fail
      go_ret
      exact ⟨by rw [HP.out]; rfl, HB.out⟩
    · have h1 : (v.id == i) = false := by simpa using hvi
      have HVI := Lib.hid hvi
      clear hvi
      go_wp2_with fail
      go_roundw
      case rel => exact ⟨k + 1, by omega, by go_num, by first | trivial | rfl, fun j u hj hu => by
       rcases Nat.lt_or_ge j k with h | h
       · exact HA.out j u h hu
       · obtain rfl : j = k := by omega
         rw [HV.out] at hu; injection hu with hu; subst hu; exact HVI.out⟩
      case measure => simp [intOf]; omega
  · have HP := Lib.hid (show placeN i L = none from placeN_no L fun u hu => by
      obtain ⟨j, hj⟩ := List.getElem?_of_mem hu
      exact HA.out j u (by have h1 := (List.getElem?_eq_some_iff.1 hj).1; have h2 := HN.out; omega) hj)
    go_wp2_with fail
    go_ret
    exact ⟨by rw [HP.out]; rfl, HB.out⟩
theorem place_ge (o : Option Nat) : decide (0 ≤ placeI o) = o.isSome := by
 cases o <;> simp [placeI]
theorem is_c (h : RW w sv L) (hL : L.length ≤ 1048576) (i : Int) :
   Calls Tryz.prog 59 #[refV R sv, .int .i64 i] w fun e w' => e = .returned (.bool (isL L i)) ∧ Below w.heap.size w w' := by
 obtain ⟨wb, hwb⟩ : ∃ wb, wb = w.alloc (.cells (refA R sv) 54) := ⟨_, rfl⟩
 have hbel : Below w.heap.size w wb := by rw [hwb]; exact (Below.refl _ _).alloc (Nat.le_refl _) _
 have hbx : Blk wb w.heap.size 54 (refA R sv) := by rw [hwb]; exact Blk.new w _ _
 have b0 := hbx.at_ (i := 0) rfl
 have b1 := hbx.at_ (i := 1) rfl
 have b2 := hbx.at_ (i := 2) rfl
 have b3 := hbx.at_ (i := 3) rfl
 have b4 := hbx.at_ (i := 4) rfl
 have b5 := hbx.at_ (i := 5) rfl
 obtain ⟨z, hz⟩ : ∃ z, z = placeI (placeN i L) := ⟨_, rfl⟩
 have HP := Lib.hid (hz ▸ place_c (R := R) (h.below hbel) hL i)
 have HD := Lib.hid (show decide (0 ≤ z) = (placeN i L).isSome by rw [hz]; exact place_ge _)
 have HB := Lib.hid hbel
 have HW := Lib.hid hwb
 clear h hbel hbx hz
 by_cases hi : i = 0
 · have h1 : (i == 0) = true := by simpa using hi
   have HR := Lib.hid (show isL L i = true by unfold isL; rw [h1]; rfl)
   clear hi
   go_enter Tryz.func59, Tryz.ntmps59
   go_upto_region 1 with fail
   rw [← HW.out]
   clear hwb
   go_wp2_with fail
   go_ret
   exact ⟨ret_bool HR.out.symm, HB.out⟩
 · have h1 : (i == 0) = false := by simpa using hi
   have HR := Lib.hid (show isL L i = decide (0 ≤ z) by unfold isL; rw [h1, HD.out]; rfl)
   clear hi
   go_enter Tryz.func59, Tryz.ntmps59
   go_upto_region 1 with fail
   rw [← HW.out]
   clear hwb
   go_wp2_with (go_at_call 64; ((with_reducible refine (HP.out).mono ?_); rintro e w1 ⟨rfl, hb⟩); have HB1 := Lib.hid hb; clear hb)
   go_ret
   exact ⟨ret_bool HR.out.symm, HB1.out.on HB.out HB.out.size⟩
theorem asked_c (h : RW w sv L) (hL : L.length ≤ 1048576) (i : Int) :
  Calls Tryz.prog 83 #[refV R sv, .int .i64 i] w fun e w' => e = .returned (.int .i64 (askL L i)) ∧ Below w.heap.size w w' := by
 obtain ⟨wb, hwb⟩ : ∃ wb, wb = w.alloc (.cells (refA R sv) 54) := ⟨_, rfl⟩
 have hbel : Below w.heap.size w wb := by rw [hwb]; exact (Below.refl _ _).alloc (Nat.le_refl _) _
 have hbx : Blk wb w.heap.size 54 (refA R sv) := by rw [hwb]; exact Blk.new w _ _
 have b0 := hbx.at_ (i := 0) rfl
 have b1 := hbx.at_ (i := 1) rfl
 have b2 := hbx.at_ (i := 2) rfl
 have b3 := hbx.at_ (i := 3) rfl
 have b4 := hbx.at_ (i := 4) rfl
 have b5 := hbx.at_ (i := 5) rfl
 have HP := Lib.hid (is_c (R := R) (h.below hbel) hL i)
 have HB := Lib.hid hbel
 have HW := Lib.hid hwb
 clear h hbel hbx
 cases hs : isL L i with
 | false =>
  rw [hs] at HP
  have HR := Lib.hid (show askL L i = 6 by unfold askL; rw [if_pos hs])
  clear hs
  go_enter Tryz.func83, Tryz.ntmps83
  go_upto_region 1 with fail
  rw [← HW.out]
  clear hwb
  go_wp2_with (go_at_call 59; ((with_reducible refine (HP.out).mono ?_); rintro e w1 ⟨rfl, hb⟩); have HB1 := Lib.hid hb; clear hb)
  go_ret
  exact ⟨ret_int HR.out.symm, HB1.out.on HB.out HB.out.size⟩
 | true =>
  rw [hs] at HP
  by_cases hi : i = 0
  · have h1 : (i == 0) = true := by simpa using hi
    have HR := Lib.hid (show askL L i = 1 by unfold askL; rw [if_neg (by rw [hs]; simp), if_pos hi])
    clear hs hi
    go_enter Tryz.func83, Tryz.ntmps83
    go_upto_region 1 with fail
    rw [← HW.out]
    clear hwb
    go_wp2_with (go_at_call 59; ((with_reducible refine (HP.out).mono ?_); rintro e w1 ⟨rfl, hb⟩); have HB1 := Lib.hid hb; clear hb)
    go_ret
    exact ⟨ret_int HR.out.symm, HB1.out.on HB.out HB.out.size⟩
  · have h1 : (i == 0) = false := by simpa using hi
    have HR := Lib.hid (show askL L i = 0 by unfold askL; rw [if_neg (by rw [hs]; simp), if_neg hi])
    clear hs hi
    go_enter Tryz.func83, Tryz.ntmps83
    go_upto_region 1 with fail
    rw [← HW.out]
    clear hwb
    go_wp2_with (go_at_call 59; ((with_reducible refine (HP.out).mono ?_); rintro e w1 ⟨rfl, hb⟩); have HB1 := Lib.hid hb; clear hb)
    go_ret
    exact ⟨ret_int HR.out.symm, HB1.out.on HB.out HB.out.size⟩
theorem with_c (R : RT) (p p' : Option Addr) (n n' c c' : Nat) (w : World) : Calls Tryz.prog 85 #[refV R (.slice p n c), .slice p' n' c'] w fun e w' => e = .returned (refV R (.slice p' n' c')) ∧ Below w.heap.size w w' := by
 go_enter Tryz.func85, Tryz.ntmps85
 go_wp2_with fail
 refine bodyPost_ret (v := refV R (.slice p' n' c')) (by simp [results, Tryz.results85, go_sem]) rfl ?_
 exact ⟨rfl, ((Below.refl _ w).alloc (Nat.le_refl _) _).alloc (by simp) _⟩
end
end Go.Proofs.YtnhchpiafchdgaaGreat
end
