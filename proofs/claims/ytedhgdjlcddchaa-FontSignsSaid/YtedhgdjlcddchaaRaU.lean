import Derived.Test.YtedhgdjlcddchaaRaT
namespace Go.Proofs.Ytedhgdjlcddchaa
open Go.RowKit Go.Shelf
/-- A thing painted. -/
structure Pt where
  k : Int
  x : Int
  y : Int
  a : Int
  e : Int
  col : Int
  wd : Int
  mw : Int
  mh : Int
  zs : List Int
def Pt.val (t : Pt) (s : Value) : Value := .agg #[.int .i64 t.k, .int .i64 t.x, .int .i64 t.y, .int .i64 t.a, .int .i64 t.e, .int .u32 t.col, .int .i64 t.wd, .int .i64 t.mw, .int .i64 t.mh, s]
def Pt.ok (t : Pt) : Prop := (0 ≤ t.col ∧ t.col < 4294967296) ∧ Cols t.zs ∧ t.wd ≤ 9223372036854775807
def stepPix (W : Nat) (c : Rc) (t : Pt) (pix : List Int) : List Int :=
  if t.k = 0 then pnt W (fun i j => hasB t.x t.y t.a t.e i j && hasB c.x c.y c.w c.h i j) (fun _ _ _ => t.col) pix
  else if t.k = 1 then pnt W (fun i j => hasB t.x t.y t.a t.e i j && hasB c.x c.y c.w c.h i j) (fun _ _ u => blendI u t.col) pix
  else if t.k = 2 then blitP W c t.mw t.mh t.x t.y t.zs pix
  else if t.k = 3 ∧ 1 ≤ t.wd then frm W c t.x t.y t.a t.e (IntKind.i64.wrap (t.a - t.wd)) (IntKind.i64.wrap (t.e - t.wd)) t.col pix
  else pix
def stepClip (W H : Nat) (c : Rc) (t : Pt) : Rc := if t.k = 4 then int ⟨t.x, t.y, t.a, t.e⟩ ⟨0, 0, W, H⟩ else c
abbrev Off (g : Nat) (A : Option Nat) (i : Nat) : Prop := i ≠ g ∧ some i ≠ A
end Go.Proofs.Ytedhgdjlcddchaa
