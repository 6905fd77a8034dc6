import Derived.Test.YtedhgdjlcddchaaRaE
import Derived.Test.YtedhgdjlcddchaaGeoF
import Derived.Shelf.Abstract
namespace Go.Proofs.Ytedhgdjlcddchaa
open Go.RowKit Go.Shelf
abbrev rcA (x y a e : Int) : Value := .agg #[.int .i64 x, .int .i64 y, .int .i64 a, .int .i64 e]
theorem fillc_c (x y k col : Int) (q : Nat) (w : World) (hq : w.cell? ⟨q, 0, none⟩ = some (.int .u32 col)) (hl : q < w.heap.size) :
    Calls Try.prog 111 #[.agg #[.int .i64 x, .int .i64 y], .int .u32 k, .pointer (some ⟨q, 0, none⟩)] w fun e w' => e = .returned (.int .u32 col) ∧ Below w.heap.size w w' := by
  go_enter Try.func111, Try.ntmps111
  go_wp2
  go_ret
  exact ⟨rfl, by repeat' (first | (with_reducible exact Below.refl _ _) | (with_reducible assumption) | (with_reducible refine Below.alloc ?_ ?_ _) | (with_reducible refine Below.drew ?_) | (with_reducible refine Below.setCell ?_ ?_ _) | (with_reducible refine Below.on (by with_reducible assumption) ?_ ?_) | go_size)⟩
theorem Canv.box {w : World} {g : Nat} {A : Option Nat} {W H : Nat} {c : Rc} {pix : List Int} (h : Canv w g A W H c pix) {q : Nat} (hq : w.heap.size ≤ q) : some q ≠ A := by
  rintro rfl
  have := (h.2.1 q rfl).lt
  omega
set_option maxHeartbeats 1000000 in
theorem fill_c (g : Nat) (A : Option Nat) (W H : Nat) (c : Rc) (pix : List Int) (x y a e col : Int) (w : World) (hC : Canv w g A W H c pix) (hcol : 0 ≤ col ∧ col < 4294967296) :
    Calls Try.prog 93 #[.pointer (some ⟨g, 0, none⟩), rcA x y a e, .int .u32 col] w fun e' w' => e' = .returned (.tuple #[]) ∧
      Canv w' g A W H c (pnt W (fun i j => hasB x y a e i j && hasB c.x c.y c.w c.h i j) (fun _ _ _ => col) pix) ∧ w.grownBy w' A := by
  have hP : ∀ w1, w1 = (w.alloc (.cells #[.int .i64 x, .int .i64 y, .int .i64 a, .int .i64 e] 40)).alloc (.cells #[.int .u32 col] 50) →
      Calls Try.prog 110 #[.pointer (some ⟨g, 0, none⟩), rcA x y a e, .func (.func 111) #[] #[.pointer (some ⟨w.heap.size + 1, 0, none⟩)]] w1 fun e' w' => e' = .returned (.tuple #[]) ∧
      Canv w' g A W H c (pnt W (fun i j => hasB x y a e i j && hasB c.x c.y c.w c.h i j) (fun _ _ _ => col) pix) ∧ w.grownBy w' A := by
    intro w1 hw1
    have hq : Blk w1 (w.heap.size + 1) 50 #[.int .u32 col] := by
      have := Blk.new (w.alloc (.cells #[.int .i64 x, .int .i64 y, .int .i64 a, .int .i64 e] 40)) 50 #[.int .u32 col]
      rw [hw1]; simpa using this
    have hC1 : Canv w1 g A W H c pix := by rw [hw1]; exact (hC.alloc _).alloc _
    have hg1 : w.grownBy w1 A := by rw [hw1]; exact only_alloc (only_alloc (only_refl _ _) _) _
    have hne : some (w.heap.size + 1) ≠ A := hC.box (by omega)
    refine (paint_c g A W H c pix x y a e 111 #[.pointer (some ⟨w.heap.size + 1, 0, none⟩)] (fun _ _ _ => col) w1 hC1 (enters_of Try.func111 (by kernel_rfl) rfl) (fun W1 u v k hg _ _ _ _ => ?_) (fun _ _ _ _ _ _ _ => hcol)).mono fun e' w' h => ⟨h.1, h.2.1, only_trans hg1 h.2.2⟩
    have hq1 := hq.grown hg hne
    exact fillc_c u v k col _ W1 (hq1.at_ (i := 0) rfl) hq1.lt
  have HP := Lib.hid (hP _ rfl)
  clear hP
  have hgl := hC.lt
  clear hC
  go_enter Try.func93, Try.ntmps93
  have hmf : ∀ (fn : Fn) (first cap : Array Value) (w : World), (Instr.makeFunc fn first cap).run Try.prog w = .ok (.func fn first cap) w := fun _ _ _ _ => rfl
  go_wp2_with (go_at_call 110; refine HP.out.mono ?_; rintro e' w1 ⟨rfl, hC1, hg1⟩)
  go_end0
  exact ⟨rfl, hC1, hg1⟩
theorem blend_bd {k col : Int} (_hk : 0 ≤ k ∧ k < 4294967296) (hc : 0 ≤ col ∧ col < 4294967296) : 0 ≤ blendI k col ∧ blendI k col < 4294967296 := by
  have := sumB_bd (u := k) hc.1 hc.2 4
  unfold blendI
  omega
end Go.Proofs.Ytedhgdjlcddchaa
