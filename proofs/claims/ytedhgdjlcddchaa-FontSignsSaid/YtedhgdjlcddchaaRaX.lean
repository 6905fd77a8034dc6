import Derived.Test.YtedhgdjlcddchaaRaW
import Derived.LoopTactic
namespace Go.Proofs.Ytedhgdjlcddchaa
open Go.RowKit
theorem wf_u8 {a : Int} (h : (Lit.int .u8 a).wf = true) : 0 ≤ a ∧ a ≤ 255 := by
  simp only [Lit.wf, decide_eq_true_eq, Bool.and_eq_true] at h
  have h1 : IntKind.u8.min = 0 := rfl
  have h2 : IntKind.u8.max = 255 := rfl
  omega
/-- Outside of what may be painted on all is 5. -/
def Five (W H : Nat) (c : Rc) (pix : List Int) : Prop := ∀ x y : Nat, x < W → y < H → hasB c.x c.y c.w c.h x y = false → pix[y * W + x]? = some 5
/-- The canvas of the law, while it is painted on. -/
def Cst (w0 : World) (g b W H : Nat) (c : Rc) (n0 : Nat) (R : Array Value) (pix : List Int) (wx : World) : Prop :=
  Canv wx g (some b) W H c pix ∧ Blk wx n0 40 R ∧ Below w0.heap.size w0 wx ∧ n0 ≠ g ∧ n0 ≠ b ∧ w0.heap.size ≤ g ∧ w0.heap.size ≤ b ∧ w0.heap.size ≤ n0
section
variable {w0 wx w1 : World} {g b W H : Nat} {c : Rc} {n0 : Nat} {R : Array Value} {pix pix' : List Int}
theorem Cst.next (h : Cst w0 g b W H c n0 R pix wx) (hb : Below wx.heap.size wx w1) : Cst w0 g b W H c n0 R pix w1 := ⟨h.1.next hb, h.2.1.next hb, h.2.2.1.trans (hb.mono h.2.2.1.size), h.2.2.2⟩
theorem Cst.step (h : Cst w0 g b W H c n0 R pix wx) (hC : Canv w1 g (some b) W H c pix') (hk : Kept (Off g (some b)) wx w1) : Cst w0 g b W H c n0 R pix' w1 :=
  ⟨hC, hk.blk h.2.1 ⟨h.2.2.2.1, fun e => h.2.2.2.2.1 (by injection e)⟩, Kept.below h.2.2.1 hk h.2.2.1.size (fun i hi => ⟨by have := h.2.2.2.2.2.1; omega, fun e => by injection e with e; have := h.2.2.2.2.2.2.1; omega⟩), h.2.2.2⟩
end
end Go.Proofs.Ytedhgdjlcddchaa
