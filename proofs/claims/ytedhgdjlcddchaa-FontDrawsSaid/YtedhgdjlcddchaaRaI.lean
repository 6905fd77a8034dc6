import Derived.Test.YtedhgdjlcddchaaRaH
import Derived.Test.YtedhgdjlcddchaaRaE
namespace Go.Proofs.Ytedhgdjlcddchaa
open Go.RowKit
/-- A point's box, and a canvas. -/
def Pcv (w0 : World) (g : Nat) (A : Option Nat) (W H : Nat) (c : Rc) (pix : List Int) (p : Nat) (B : Array Value) (wx : World) : Prop :=
  Canv wx g A W H c pix ∧ Blk wx p 32 B ∧ Below w0.heap.size w0 wx
section
variable {w0 wx w1 : World} {g W H : Nat} {A : Option Nat} {c : Rc} {pix : List Int} {p : Nat} {B : Array Value}
theorem Pcv.next (h : Pcv w0 g A W H c pix p B wx) (hb : Below wx.heap.size wx w1) : Pcv w0 g A W H c pix p B w1 := ⟨h.1.next hb, h.2.1.next hb, h.2.2.trans (hb.mono h.2.2.size)⟩
theorem Pcv.drew (h : Pcv w0 g A W H c pix p B wx) : Pcv w0 g A W H c pix p B wx.drew := ⟨h.1, h.2.1, h.2.2.drew⟩
theorem Pcv.point {x y : Int} (h : Pcv w0 g A W H c pix p #[.int .i64 x, .int .i64 y] wx) : wx.cell? ⟨p, 0, none⟩ = some (.int .i64 x) ∧ wx.cell? ⟨p, 1, none⟩ = some (.int .i64 y) :=
  ⟨h.2.1.at_ (i := 0) rfl, h.2.1.at_ (i := 1) rfl⟩
theorem Pcv.canv {b : Nat} (h : Pcv w0 g (some b) W H c pix p B wx) : wx.cell? ⟨g, 0, none⟩ = some (.int .i64 W) ∧ wx.cell? ⟨g, 1, none⟩ = some (.int .i64 H) ∧ wx.cell? ⟨g, 2, none⟩ = some (.slice (some ⟨b, 0, none⟩) (W * H) (W * H)) :=
  ⟨h.1.1.at_ (i := 0) rfl, h.1.1.at_ (i := 1) rfl, h.1.1.at_ (i := 2) rfl⟩
end
def atB (W H : Nat) (x y : Int) : Bool := hasB 0 0 W H x y
def atI (W H : Nat) (pix : List Int) (x y : Int) : Int := if atB W H x y = true then pix.getD (y.toNat * W + x.toNat) 0 else 0
end Go.Proofs.Ytedhgdjlcddchaa
