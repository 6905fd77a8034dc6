import Derived.Test.YtedhgdjlcddchaaRaS
namespace Go.Proofs.Ytedhgdjlcddchaa
open Go.RowKit Go.Shelf
/-- A picture's box, a place's box, and a place. -/
def Bst (w0 : World) (qm qa p : Nat) (M Q B : Array Value) (wx : World) : Prop := Blk wx qm 56 M ∧ Blk wx qa 32 Q ∧ Blk wx p 32 B ∧ Below w0.heap.size w0 wx
section
variable {w0 wx w1 : World} {qm qa p : Nat} {M Q B : Array Value}
theorem Bst.next (h : Bst w0 qm qa p M Q B wx) (hb : Below wx.heap.size wx w1) : Bst w0 qm qa p M Q B w1 := ⟨h.1.next hb, h.2.1.next hb, h.2.2.1.next hb, h.2.2.2.trans (hb.mono h.2.2.2.size)⟩
theorem Bst.drew (h : Bst w0 qm qa p M Q B wx) : Bst w0 qm qa p M Q B wx.drew := ⟨h.1, h.2.1, h.2.2.1, h.2.2.2.drew⟩
theorem Bst.out {v0 v1 v2 u0 u1 t0 t1 : Value} (h : Bst w0 qm qa p #[v0, v1, v2] #[u0, u1] #[t0, t1] wx) :
    (wx.cell? ⟨qm, 0, none⟩ = some v0 ∧ wx.cell? ⟨qm, 1, none⟩ = some v1 ∧ wx.cell? ⟨qm, 2, none⟩ = some v2) ∧ (wx.cell? ⟨qa, 0, none⟩ = some u0 ∧ wx.cell? ⟨qa, 1, none⟩ = some u1) ∧ (wx.cell? ⟨p, 0, none⟩ = some t0 ∧ wx.cell? ⟨p, 1, none⟩ = some t1) :=
  ⟨h.1.c3.1, h.2.1.c2.1, h.2.2.1.c2.1⟩
end
/-- A picture's colours: a slice in a block that is not A. -/
def RdA (A : Option Nat) (w : World) (v : Value) (zs : List Int) : Prop :=
  ∃ p c, v = .slice p zs.length c ∧ ∀ (j : Nat) (u : Int), zs[j]? = some u → ∃ b o, p = some ⟨b, o, none⟩ ∧ b < w.heap.size ∧ some b ≠ A ∧ w.cell? ⟨b, o + j, none⟩ = some (Value.int .u32 u)
theorem RdA.grown {A : Option Nat} {w w' : World} {v : Value} {zs : List Int} (h : RdA A w v zs) (hg : w.grownBy w' A) : RdA A w' v zs := by
  obtain ⟨p, c, h1, h2⟩ := h
  refine ⟨p, c, h1, fun j u hu => ?_⟩
  obtain ⟨b, o, h3, h4, h5, h6⟩ := h2 j u hu
  exact ⟨b, o, h3, Nat.lt_of_lt_of_le h4 hg.size, h5, hg.cell h6 h5⟩
theorem RdA.next {A : Option Nat} {w w' : World} {v : Value} {zs : List Int} (h : RdA A w v zs) (hb : Below w.heap.size w w') : RdA A w' v zs := h.grown (only_of_below hb A)
theorem RdA.rd {A : Option Nat} {w : World} {v : Value} {zs : List Int} (h : RdA A w v zs) : Rd w v zs := by
  obtain ⟨p, c, h1, h2⟩ := h
  refine ⟨p, c, h1, fun j u hu => ?_⟩
  obtain ⟨b, o, h3, h4, h5, h6⟩ := h2 j u hu
  exact ⟨b, o, h3, h4, h6⟩
/-- What a picture paints. -/
def blitF (mw : Nat) (px py : Int) (zs : List Int) (i j _u : Int) : Int := zs.getD ((j - py).toNat * mw + (i - px).toNat) 0
def blitP (W : Nat) (c : Rc) (a b : Int) (px py : Int) (zs pix : List Int) : List Int :=
  if picB a b zs.length = true then pnt W (fun i j => hasB px py a b i j && hasB c.x c.y c.w c.h i j) (blitF a.toNat px py zs) pix else pix
theorem blit_at {mw mh : Nat} {px py : Int} {zs : List Int} {u v : Nat} {k : Int} (hl : zs.length = mw * mh) (hh : hasB px py mw mh u v = true) :
    ∃ u' v' : Nat, IntKind.i64.wrap ((u : Int) - px) = (u' : Int) ∧ IntKind.i64.wrap ((v : Int) - py) = (v' : Int) ∧ u' < mw ∧ v' < mh ∧ v' * mw + u' < zs.length ∧ zs[v' * mw + u']? = some (blitF mw px py zs u v k) := by
  obtain ⟨hE, h1, h2, h3, h4⟩ := (hasB_iff _ _ _ _ _ _).1 hh
  obtain ⟨⟨g1, g2, g3, g4⟩, g5, g6, g7, g8⟩ := (emptyB_iff _ _ _ _).1 hE
  have hlt : ((v : Int) - py).toNat * mw + ((u : Int) - px).toNat < zs.length := by rw [hl]; exact place_lt (by omega) (by omega)
  refine ⟨((u : Int) - px).toNat, ((v : Int) - py).toNat, ?_, ?_, by omega, by omega, hlt, ?_⟩
  · rw [IntWalk.i64_in _ (by omega)]; omega
  · rw [IntWalk.i64_in _ (by omega)]; omega
  · unfold blitF
    rw [List.getD_eq_getElem?_getD, List.getElem?_eq_getElem hlt]; rfl
end Go.Proofs.Ytedhgdjlcddchaa
