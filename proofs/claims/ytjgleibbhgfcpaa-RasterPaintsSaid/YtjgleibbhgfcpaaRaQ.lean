import Derived.Test.YtjgleibbhgfcpaaRaF
import Derived.Test.YtjgleibbhgfcpaaRaJ
import Derived.Deep.QuietTactic
import Derived.BigQuiet
namespace Go.Proofs.Ytjgleibbhgfcpaa
open Go.RowKit
/-- A canvas whose edges are painted, and the box of the rectangle. -/
def Fst (w0 : World) (g : Nat) (A : Option Nat) (W H : Nat) (c : Rc) (n0 : Nat) (R : Array Value) (pix : List Int) (wx : World) : Prop :=
  Canv wx g A W H c pix ∧ Blk wx n0 40 R ∧ w0.grownBy wx A ∧ some n0 ≠ A
section
variable {w0 wx w1 : World} {g W H : Nat} {A : Option Nat} {c : Rc} {pix pix' : List Int} {n0 : Nat} {R : Array Value}
theorem Fst.next (h : Fst w0 g A W H c n0 R pix wx) (hb : Below wx.heap.size wx w1) : Fst w0 g A W H c n0 R pix w1 := ⟨h.1.next hb, h.2.1.next hb, only_next h.2.2.1 hb, h.2.2.2⟩
theorem Fst.drewN (h : Fst w0 g A W H c n0 R pix wx) (n : Nat) : Fst w0 g A W H c n0 R pix (wx.drewN n) := ⟨h.1, h.2.1, only_drewN h.2.2.1 n, h.2.2.2⟩
theorem Fst.alloc (h : Fst w0 g A W H c n0 R pix wx) (o : Obj) : Fst w0 g A W H c n0 R pix (wx.alloc o) := ⟨h.1.alloc o, h.2.1.alloc o, only_alloc h.2.2.1 o, h.2.2.2⟩
theorem Fst.paint (h : Fst w0 g A W H c n0 R pix wx) (hC : Canv w1 g A W H c pix') (hg : wx.grownBy w1 A) : Fst w0 g A W H c n0 R pix' w1 := ⟨hC, h.2.1.grown hg h.2.2.2, only_trans h.2.2.1 hg, h.2.2.2⟩
theorem Fst.rect {x y a e : Int} (h : Fst w0 g A W H c n0 #[.int .i64 x, .int .i64 y, .int .i64 a, .int .i64 e] pix wx) : wx.cell? ⟨n0, 0, none⟩ = some (.int .i64 x) ∧ wx.cell? ⟨n0, 1, none⟩ = some (.int .i64 y) ∧ wx.cell? ⟨n0, 2, none⟩ = some (.int .i64 a) ∧ wx.cell? ⟨n0, 3, none⟩ = some (.int .i64 e) :=
  ⟨h.2.1.at_ (i := 0) rfl, h.2.1.at_ (i := 1) rfl, h.2.1.at_ (i := 2) rfl, h.2.1.at_ (i := 3) rfl⟩
end
def sideQ (c : Rc) (r : Rc) (i j : Int) : Bool := hasB r.x r.y r.w r.h i j && hasB c.x c.y c.w c.h i j
/-- The four sides, painted one by one. -/
def frm (W : Nat) (c : Rc) (x y a e p q col : Int) (pix : List Int) : List Int :=
  pnt W (sideQ c (insetR x y a e 0 0 0 q)) (fun _ _ _ => col) (pnt W (sideQ c (insetR x y a e 0 0 p 0)) (fun _ _ _ => col) (pnt W (sideQ c (insetR x y a e 0 q 0 0)) (fun _ _ _ => col) (pnt W (sideQ c (insetR x y a e p 0 0 0)) (fun _ _ _ => col) pix)))
theorem frame_no (x y a e wd col : Int) (p : Value) (w : World) (h : wd < 1) :
    Calls Try.prog 66 #[p, .agg #[.int .i64 x, .int .i64 y, .int .i64 a, .int .i64 e], .int .i64 wd, .int .u32 col] w fun e' w' => e' = .returned (.tuple #[]) ∧ Below w.heap.size w w' := by
  go_enter Try.func66, Try.ntmps66
  go_wp2
  refine bodyPost_ret (results_none rfl _ _ _) rfl ?_
  exact ⟨rfl, by repeat' (first | (with_reducible exact Below.refl _ _) | (with_reducible assumption) | (with_reducible refine Below.alloc ?_ ?_ _) | (with_reducible refine Below.drew ?_) | (with_reducible refine Below.setCell ?_ ?_ _) | (with_reducible refine Below.on (by with_reducible assumption) ?_ ?_) | go_size)⟩
set_option maxRecDepth 100000 in
set_option maxHeartbeats 4000000 in
theorem frame_yes (g : Nat) (A : Option Nat) (W H : Nat) (c : Rc) (pix : List Int) (x y a e wd col : Int) (w : World) (hC : Canv w g A W H c pix) (hcol : 0 ≤ col ∧ col < 4294967296) (h : 1 ≤ wd) :
    Calls Try.prog 66 #[.pointer (some ⟨g, 0, none⟩), .agg #[.int .i64 x, .int .i64 y, .int .i64 a, .int .i64 e], .int .i64 wd, .int .u32 col] w fun e' w' => e' = .returned (.tuple #[]) ∧
      Canv w' g A W H c (frm W c x y a e (IntKind.i64.wrap (a - wd)) (IntKind.i64.wrap (e - wd)) col pix) ∧ w.grownBy w' A := by
  have P0 : Fst w g A W H c w.heap.size #[.int .i64 x, .int .i64 y, .int .i64 a, .int .i64 e] pix (w.alloc (.cells #[.int .i64 x, .int .i64 y, .int .i64 a, .int .i64 e] 40)) :=
    ⟨hC.alloc _, Blk.new _ _ _, only_alloc (only_refl _ _) _, hC.box (Nat.le_refl _)⟩
  have hn : ¬ wd < 1 := by omega
  clear hC
  obtain ⟨p, hp⟩ : ∃ p, IntKind.i64.wrap (a - wd) = p := ⟨_, rfl⟩
  obtain ⟨q, hq⟩ : ∃ q, IntKind.i64.wrap (e - wd) = q := ⟨_, rfl⟩
  rw [hp, hq]
  have i0 : ∀ w : World, (Instr.index 124 (.agg #[.int .i64 p, .int .i64 0, .int .i64 0, .int .i64 0, .int .i64 0, .int .i64 q, .int .i64 0, .int .i64 0, .int .i64 0, .int .i64 0, .int .i64 p, .int .i64 0, .int .i64 0, .int .i64 0, .int .i64 0, .int .i64 q]) (.int .i64 0)).run Try.prog w = .ok (.agg #[.int .i64 p, .int .i64 0, .int .i64 0, .int .i64 0]) w := fun _ => by kernel_rfl
  have i1 : ∀ w : World, (Instr.index 124 (.agg #[.int .i64 p, .int .i64 0, .int .i64 0, .int .i64 0, .int .i64 0, .int .i64 q, .int .i64 0, .int .i64 0, .int .i64 0, .int .i64 0, .int .i64 p, .int .i64 0, .int .i64 0, .int .i64 0, .int .i64 0, .int .i64 q]) (.int .i64 1)).run Try.prog w = .ok (.agg #[.int .i64 0, .int .i64 q, .int .i64 0, .int .i64 0]) w := fun _ => by kernel_rfl
  have i2 : ∀ w : World, (Instr.index 124 (.agg #[.int .i64 p, .int .i64 0, .int .i64 0, .int .i64 0, .int .i64 0, .int .i64 q, .int .i64 0, .int .i64 0, .int .i64 0, .int .i64 0, .int .i64 p, .int .i64 0, .int .i64 0, .int .i64 0, .int .i64 0, .int .i64 q]) (.int .i64 2)).run Try.prog w = .ok (.agg #[.int .i64 0, .int .i64 0, .int .i64 p, .int .i64 0]) w := fun _ => by kernel_rfl
  have i3 : ∀ w : World, (Instr.index 124 (.agg #[.int .i64 p, .int .i64 0, .int .i64 0, .int .i64 0, .int .i64 0, .int .i64 q, .int .i64 0, .int .i64 0, .int .i64 0, .int .i64 0, .int .i64 p, .int .i64 0, .int .i64 0, .int .i64 0, .int .i64 0, .int .i64 q]) (.int .i64 3)).run Try.prog w = .ok (.agg #[.int .i64 0, .int .i64 0, .int .i64 0, .int .i64 q]) w := fun _ => by kernel_rfl
  go_enter Try.func66, Try.ntmps66
  go_wp2
  generalize w.alloc (.cells #[.int .i64 x, .int .i64 y, .int .i64 a, .int .i64 e] 40) = wa at P0 ⊢
  obtain ⟨c0, c1, c2, c3⟩ := P0.rect
  go_quiet (fail)
  have S0 := P0.drewN nq
  clear c0 c1 c2 c3 P0
  generalize wa.drewN nq = wb at S0 ⊢
  go_wp2
  refine wp_loop_rounds 5 ?_
  rw [rounds_succ]
  have b0 := S0.rect
  obtain ⟨c0, c1, c2, c3⟩ := b0
  have l0 := S0.2.1.lt
  go_wp2_with (first
    | (go_at_call 96; refine (inset_c x y a e p 0 0 0 _).mono ?_; rintro e1 w0a ⟨rfl, hb⟩; have T0 := (S0.alloc (.cells #[.int .i64 p, .int .i64 0, .int .i64 0, .int .i64 0] 123)).next hb; clear hb c0 c1 c2 c3 l0)
    | (go_at_call 42; refine (fill_c g A W H c _ _ _ _ _ col _ T0.1 hcol).mono ?_; rintro e2 w0b ⟨rfl, hCn, hgn⟩; have S1 := T0.paint hCn hgn; clear hCn hgn T0 S0))
  rw [rounds_succ]
  have b1 := S1.rect
  obtain ⟨c0, c1, c2, c3⟩ := b1
  have l1 := S1.2.1.lt
  go_wp2_with (first
    | (go_at_call 96; refine (inset_c x y a e 0 q 0 0 _).mono ?_; rintro e1 w1a ⟨rfl, hb⟩; have T1 := (S1.alloc (.cells #[.int .i64 0, .int .i64 q, .int .i64 0, .int .i64 0] 123)).next hb; clear hb c0 c1 c2 c3 l1)
    | (go_at_call 42; refine (fill_c g A W H c _ _ _ _ _ col _ T1.1 hcol).mono ?_; rintro e2 w1b ⟨rfl, hCn, hgn⟩; have S2 := T1.paint hCn hgn; clear hCn hgn T1 S1))
  rw [rounds_succ]
  have b2 := S2.rect
  obtain ⟨c0, c1, c2, c3⟩ := b2
  have l2 := S2.2.1.lt
  go_wp2_with (first
    | (go_at_call 96; refine (inset_c x y a e 0 0 p 0 _).mono ?_; rintro e1 w2a ⟨rfl, hb⟩; have T2 := (S2.alloc (.cells #[.int .i64 0, .int .i64 0, .int .i64 p, .int .i64 0] 123)).next hb; clear hb c0 c1 c2 c3 l2)
    | (go_at_call 42; refine (fill_c g A W H c _ _ _ _ _ col _ T2.1 hcol).mono ?_; rintro e2 w2b ⟨rfl, hCn, hgn⟩; have S3 := T2.paint hCn hgn; clear hCn hgn T2 S2))
  rw [rounds_succ]
  have b3 := S3.rect
  obtain ⟨c0, c1, c2, c3⟩ := b3
  have l3 := S3.2.1.lt
  go_wp2_with (first
    | (go_at_call 96; refine (inset_c x y a e 0 0 0 q _).mono ?_; rintro e1 w3a ⟨rfl, hb⟩; have T3 := (S3.alloc (.cells #[.int .i64 0, .int .i64 0, .int .i64 0, .int .i64 q] 123)).next hb; clear hb c0 c1 c2 c3 l3)
    | (go_at_call 42; refine (fill_c g A W H c _ _ _ _ _ col _ T3.1 hcol).mono ?_; rintro e2 w3b ⟨rfl, hCn, hgn⟩; have S4 := T3.paint hCn hgn; clear hCn hgn T3 S3))
  rw [rounds_succ]
  go_wp2
  go_end0
  exact ⟨rfl, S4.1, S4.2.2.1⟩
end Go.Proofs.Ytjgleibbhgfcpaa
