import Derived.Test.YtedhgdjlcddchaaRaF
import Derived.Test.YtedhgdjlcddchaaRaJ
import Derived.Deep.QuietTactic
import Derived.BigQuiet
namespace Go.Proofs.Ytedhgdjlcddchaa
open Go.RowKit
/-- A canvas whose edges are painted, and the box of the rectangle. -/
def Fst (w0 : World) (g : Nat) (A : Option Nat) (W H : Nat) (c : Rc) (n0 : Nat) (R : Array Value) (pix : List Int) (wx : World) : Prop :=
  Canv wx g A W H c pix ∧ Blk wx n0 40 R ∧ w0.grownBy wx A ∧ some n0 ≠ A
section
variable {w0 wx w1 : World} {g W H : Nat} {A : Option Nat} {c : Rc} {pix pix' : List Int} {n0 : Nat} {R : Array Value}
theorem Fst.next (h : Fst w0 g A W H c n0 R pix wx) (hb : Below wx.heap.size wx w1) : Fst w0 g A W H c n0 R pix w1 := ⟨h.1.next hb, h.2.1.next hb, only_next h.2.2.1 hb, h.2.2.2⟩
theorem Fst.drewN (h : Fst w0 g A W H c n0 R pix wx) (n : Nat) : Fst w0 g A W H c n0 R pix (wx.drewN n) := ⟨h.1, h.2.1, only_drewN h.2.2.1 n, h.2.2.2⟩
theorem Fst.alloc (h : Fst w0 g A W H c n0 R pix wx) (o : Obj) : Fst w0 g A W H c n0 R pix (wx.alloc o) := ⟨h.1.alloc o, h.2.1.alloc o, only_alloc h.2.2.1 o, h.2.2.2⟩
theorem Fst.paint (h : Fst w0 g A W H c n0 R pix wx) (hC : Canv w1 g A W H c pix') (hg : wx.grownBy w1 A) : Fst w0 g A W H c n0 R pix' w1 := ⟨hC, h.2.1.grown hg h.2.2.2, only_trans h.2.2.1 hg, h.2.2.2⟩
theorem Fst.rect {x y a e : Int} (h : Fst w0 g A W H c n0 #[.int .i64 x, .int .i64 y, .int .i64 a, .int .i64 e] pix wx) : wx.cell? ⟨n0, 0, none⟩ = some (.int .i64 x) ∧ wx.cell? ⟨n0, 1, none⟩ = some (.int .i64 y) ∧ wx.cell? ⟨n0, 2, none⟩ = some (.int .i64 a) ∧ wx.cell? ⟨n0, 3, none⟩ = some (.int .i64 e) :=
  ⟨h.2.1.at_ (i := 0) rfl, h.2.1.at_ (i := 1) rfl, h.2.1.at_ (i := 2) rfl, h.2.1.at_ (i := 3) rfl⟩
end
def sideQ (c : Rc) (r : Rc) (i j : Int) : Bool := hasB r.x r.y r.w r.h i j && hasB c.x c.y c.w c.h i j
/-- The four sides, painted one by one. -/
def frm (W : Nat) (c : Rc) (x y a e p q col : Int) (pix : List Int) : List Int :=
  pnt W (sideQ c (insetR x y a e 0 0 0 q)) (fun _ _ _ => col) (pnt W (sideQ c (insetR x y a e 0 0 p 0)) (fun _ _ _ => col) (pnt W (sideQ c (insetR x y a e 0 q 0 0)) (fun _ _ _ => col) (pnt W (sideQ c (insetR x y a e p 0 0 0)) (fun _ _ _ => col) pix)))
end Go.Proofs.Ytedhgdjlcddchaa
