import Derived.Test.YtjgleibbhgfcpaaRaU
import Derived.Test.YtjgleibbhgfcpaaRaK
namespace Go.Proofs.Ytjgleibbhgfcpaa
open Go.RowKit Go.Shelf
theorem fill_nil (x y a e col : Int) (w : World) : Calls Try.prog 42 #[.pointer none, .agg #[.int .i64 x, .int .i64 y, .int .i64 a, .int .i64 e], .int .u32 col] w fun e' w' => e' = .returned (.tuple #[]) ∧ Below w.heap.size w w' := by
  have hmf : ∀ (fn : Fn) (first cap : Array Value) (w : World), (Instr.makeFunc fn first cap).run Try.prog w = .ok (.func fn first cap) w := fun _ _ _ _ => rfl
  go_enter Try.func42, Try.ntmps42
  go_wp2_with (go_at_call 72; refine (paint_nil _ _ _ _ _ _).mono ?_; rintro e' w1 ⟨rfl, hb⟩)
  go_end0
  exact ⟨rfl, (((Below.refl _ w).alloc (Nat.le_refl _) _).alloc (by simp) _).trans (hb.mono (by simp; omega))⟩
theorem over_nil (x y a e col : Int) (w : World) : Calls Try.prog 65 #[.pointer none, .agg #[.int .i64 x, .int .i64 y, .int .i64 a, .int .i64 e], .int .u32 col] w fun e' w' => e' = .returned (.tuple #[]) ∧ Below w.heap.size w w' := by
  have hmf : ∀ (fn : Fn) (first cap : Array Value) (w : World), (Instr.makeFunc fn first cap).run Try.prog w = .ok (.func fn first cap) w := fun _ _ _ _ => rfl
  go_enter Try.func65, Try.ntmps65
  go_wp2_with (go_at_call 72; refine (paint_nil _ _ _ _ _ _).mono ?_; rintro e' w1 ⟨rfl, hb⟩)
  go_end0
  exact ⟨rfl, (((Below.refl _ w).alloc (Nat.le_refl _) _).alloc (by simp) _).trans (hb.mono (by simp; omega))⟩
theorem blit_nil (a b px py : Int) (p : Option Addr) (n cc : Nat) (w : World) : Calls Try.prog 43 #[.pointer none, .agg #[.int .i64 a, .int .i64 b, .slice p n cc], .agg #[.int .i64 px, .int .i64 py]] w fun e' w' => e' = .returned (.tuple #[]) ∧ Below w.heap.size w w' := by
  have hR := fun W1 => right_pic a b p n cc W1
  cases hP : picB a b n
  · rw [hP] at hR
    have HR := Lib.hid hR
    clear hR hP
    go_enter Try.func43, Try.ntmps43
    go_wp2_with (go_at_call 35; refine (HR.out _).mono ?_; rintro e w1 ⟨rfl, hb⟩)
    refine bodyPost_ret (results_none rfl _ _ _) rfl ?_
    exact ⟨rfl, (((Below.refl _ w).alloc (Nat.le_refl _) _).alloc (by simp) _).trans (hb.mono (by simp; omega))⟩
  · rw [hP] at hR
    have HR := Lib.hid hR
    clear hR hP
    have hmf : ∀ (fn : Fn) (first cap : Array Value) (w : World), (Instr.makeFunc fn first cap).run Try.prog w = .ok (.func fn first cap) w := fun _ _ _ _ => rfl
    go_enter Try.func43, Try.ntmps43
    go_wp2_with (first
      | (go_at_call 35; refine (HR.out _).mono ?_; rintro e w1 ⟨rfl, hb⟩; have hbw : Below w.heap.size w w1 := (((Below.refl _ w).alloc (Nat.le_refl _) _).alloc (by simp) _).trans (hb.mono (by simp; omega)); have R0 := ((Blk.new w 54 #[.int .i64 a, .int .i64 b, .slice p n cc]).alloc (.cells #[.int .i64 px, .int .i64 py] 32)).next hb; have R1 : Blk w1 (w.heap.size + 1) 32 #[.int .i64 px, .int .i64 py] := (by have h := (Blk.new (w.alloc (.cells #[.int .i64 a, .int .i64 b, .slice p n cc] 54)) 32 #[.int .i64 px, .int .i64 py]).next hb; simpa using h); obtain ⟨⟨c0, c1, c2⟩, _⟩ := R0.c3; obtain ⟨⟨d0, d1⟩, _⟩ := R1.c2; clear hb)
      | (go_at_call 74; refine (sized_c _ _ _ _ _ _).mono ?_; rintro e w2 ⟨rfl, hb⟩; have hbw2 := hbw.trans (hb.mono hbw.size); clear hb)
      | (go_at_call 72; refine (paint_nil _ _ _ _ _ _).mono ?_; rintro e w3 ⟨rfl, hb⟩))
    go_end0
    exact ⟨rfl, hbw2.trans (hb.mono hbw2.size)⟩
/-- A rectangle's box alone. -/
def Bx (w0 : World) (n0 : Nat) (R : Array Value) (wx : World) : Prop := Blk wx n0 40 R ∧ Below w0.heap.size w0 wx
section
variable {w0 wx w1 : World} {n0 : Nat} {R : Array Value}
theorem Bx.next (h : Bx w0 n0 R wx) (hb : Below wx.heap.size wx w1) : Bx w0 n0 R w1 := ⟨h.1.next hb, h.2.trans (hb.mono h.2.size)⟩
theorem Bx.alloc (h : Bx w0 n0 R wx) (o : Obj) : Bx w0 n0 R (wx.alloc o) := ⟨h.1.alloc o, h.2.alloc h.2.size o⟩
theorem Bx.drewN (h : Bx w0 n0 R wx) (n : Nat) : Bx w0 n0 R (wx.drewN n) := ⟨h.1, below_drewN h.2 n⟩
end
set_option maxRecDepth 100000 in
set_option maxHeartbeats 4000000 in
theorem frame_nil (x y a e wd col : Int) (w : World) (h : 1 ≤ wd) :
    Calls Try.prog 66 #[.pointer none, .agg #[.int .i64 x, .int .i64 y, .int .i64 a, .int .i64 e], .int .i64 wd, .int .u32 col] w fun e' w' => e' = .returned (.tuple #[]) ∧ Below w.heap.size w w' := by
  have P0 : Bx w w.heap.size #[.int .i64 x, .int .i64 y, .int .i64 a, .int .i64 e] (w.alloc (.cells #[.int .i64 x, .int .i64 y, .int .i64 a, .int .i64 e] 40)) := ⟨Blk.new _ _ _, (Below.refl _ _).alloc (Nat.le_refl _) _⟩
  have hn : ¬ wd < 1 := by omega
  obtain ⟨p, hp⟩ : ∃ p, IntKind.i64.wrap (a - wd) = p := ⟨_, rfl⟩
  obtain ⟨q, hq⟩ : ∃ q, IntKind.i64.wrap (e - wd) = q := ⟨_, rfl⟩
  have i0 : ∀ w : World, (Instr.index 124 (.agg #[.int .i64 p, .int .i64 0, .int .i64 0, .int .i64 0, .int .i64 0, .int .i64 q, .int .i64 0, .int .i64 0, .int .i64 0, .int .i64 0, .int .i64 p, .int .i64 0, .int .i64 0, .int .i64 0, .int .i64 0, .int .i64 q]) (.int .i64 0)).run Try.prog w = .ok (.agg #[.int .i64 p, .int .i64 0, .int .i64 0, .int .i64 0]) w := fun _ => by kernel_rfl
  have i1 : ∀ w : World, (Instr.index 124 (.agg #[.int .i64 p, .int .i64 0, .int .i64 0, .int .i64 0, .int .i64 0, .int .i64 q, .int .i64 0, .int .i64 0, .int .i64 0, .int .i64 0, .int .i64 p, .int .i64 0, .int .i64 0, .int .i64 0, .int .i64 0, .int .i64 q]) (.int .i64 1)).run Try.prog w = .ok (.agg #[.int .i64 0, .int .i64 q, .int .i64 0, .int .i64 0]) w := fun _ => by kernel_rfl
  have i2 : ∀ w : World, (Instr.index 124 (.agg #[.int .i64 p, .int .i64 0, .int .i64 0, .int .i64 0, .int .i64 0, .int .i64 q, .int .i64 0, .int .i64 0, .int .i64 0, .int .i64 0, .int .i64 p, .int .i64 0, .int .i64 0, .int .i64 0, .int .i64 0, .int .i64 q]) (.int .i64 2)).run Try.prog w = .ok (.agg #[.int .i64 0, .int .i64 0, .int .i64 p, .int .i64 0]) w := fun _ => by kernel_rfl
  have i3 : ∀ w : World, (Instr.index 124 (.agg #[.int .i64 p, .int .i64 0, .int .i64 0, .int .i64 0, .int .i64 0, .int .i64 q, .int .i64 0, .int .i64 0, .int .i64 0, .int .i64 0, .int .i64 p, .int .i64 0, .int .i64 0, .int .i64 0, .int .i64 0, .int .i64 q]) (.int .i64 3)).run Try.prog w = .ok (.agg #[.int .i64 0, .int .i64 0, .int .i64 0, .int .i64 q]) w := fun _ => by kernel_rfl
  go_enter Try.func66, Try.ntmps66
  go_wp2
  generalize w.alloc (.cells #[.int .i64 x, .int .i64 y, .int .i64 a, .int .i64 e] 40) = wa at P0 ⊢
  obtain ⟨⟨c0, c1, c2, c3⟩, _⟩ := P0.1.c4
  go_quiet (fail)
  have S0 := P0.drewN nq
  clear c0 c1 c2 c3 P0
  generalize wa.drewN nq = wb at S0 ⊢
  go_wp2
  refine wp_loop_rounds 5 ?_
  rw [rounds_succ]
  obtain ⟨⟨c0, c1, c2, c3⟩, _⟩ := S0.1.c4
  have l0 := S0.1.lt
  go_wp2_with (first
    | (go_at_call 96; refine (inset_c x y a e p 0 0 0 _).mono ?_; rintro e1 w0a ⟨rfl, hb⟩; have T0 := (S0.alloc (.cells #[.int .i64 p, .int .i64 0, .int .i64 0, .int .i64 0] 123)).next hb; clear hb c0 c1 c2 c3 l0)
    | (go_at_call 42; refine (fill_nil _ _ _ _ _ _).mono ?_; rintro e2 w0b ⟨rfl, hb⟩; have S1 := T0.next hb; clear hb T0 S0))
  rw [rounds_succ]
  obtain ⟨⟨c0, c1, c2, c3⟩, _⟩ := S1.1.c4
  have l1 := S1.1.lt
  go_wp2_with (first
    | (go_at_call 96; refine (inset_c x y a e 0 q 0 0 _).mono ?_; rintro e1 w1a ⟨rfl, hb⟩; have T1 := (S1.alloc (.cells #[.int .i64 0, .int .i64 q, .int .i64 0, .int .i64 0] 123)).next hb; clear hb c0 c1 c2 c3 l1)
    | (go_at_call 42; refine (fill_nil _ _ _ _ _ _).mono ?_; rintro e2 w1b ⟨rfl, hb⟩; have S2 := T1.next hb; clear hb T1 S1))
  rw [rounds_succ]
  obtain ⟨⟨c0, c1, c2, c3⟩, _⟩ := S2.1.c4
  have l2 := S2.1.lt
  go_wp2_with (first
    | (go_at_call 96; refine (inset_c x y a e 0 0 p 0 _).mono ?_; rintro e1 w2a ⟨rfl, hb⟩; have T2 := (S2.alloc (.cells #[.int .i64 0, .int .i64 0, .int .i64 p, .int .i64 0] 123)).next hb; clear hb c0 c1 c2 c3 l2)
    | (go_at_call 42; refine (fill_nil _ _ _ _ _ _).mono ?_; rintro e2 w2b ⟨rfl, hb⟩; have S3 := T2.next hb; clear hb T2 S2))
  rw [rounds_succ]
  obtain ⟨⟨c0, c1, c2, c3⟩, _⟩ := S3.1.c4
  have l3 := S3.1.lt
  go_wp2_with (first
    | (go_at_call 96; refine (inset_c x y a e 0 0 0 q _).mono ?_; rintro e1 w3a ⟨rfl, hb⟩; have T3 := (S3.alloc (.cells #[.int .i64 0, .int .i64 0, .int .i64 0, .int .i64 q] 123)).next hb; clear hb c0 c1 c2 c3 l3)
    | (go_at_call 42; refine (fill_nil _ _ _ _ _ _).mono ?_; rintro e2 w3b ⟨rfl, hb⟩; have S4 := T3.next hb; clear hb T3 S3))
  rw [rounds_succ]
  go_wp2
  go_end0
  exact ⟨rfl, S4.2⟩
set_option maxRecDepth 100000 in
set_option maxHeartbeats 8000000 in
theorem does_nil (t : Pt) (p : Option Addr) (n cc : Nat) (w : World) : Calls Try.prog 33 #[.pointer none, t.val (.slice p n cc)] w fun e' w' => e' = .returned (.tuple #[]) ∧ Below w.heap.size w w' := by
  obtain ⟨k, x, y, a, e, col, wd, mw, mh, zs⟩ := t
  unfold Pt.val
  dsimp only
  have HB := (Below.refl w.heap.size w).alloc (Nat.le_refl _) (.cells #[.int .i64 k, .int .i64 x, .int .i64 y, .int .i64 a, .int .i64 e, .int .u32 col, .int .i64 wd, .int .i64 mw, .int .i64 mh, .slice p n cc] 61)
  by_cases h0 : k = 0
  · subst h0
    go_enter Try.func33, Try.ntmps33
    go_wp2_with (go_at_call 42; refine (fill_nil _ _ _ _ _ _).mono ?_; rintro e1 w1 ⟨rfl, hb⟩)
    go_end0
    exact ⟨rfl, HB.trans (hb.mono (by simp))⟩
  by_cases h1 : k = 1
  · subst h1
    go_enter Try.func33, Try.ntmps33
    go_wp2_with (go_at_call 65; refine (over_nil _ _ _ _ _ _).mono ?_; rintro e1 w1 ⟨rfl, hb⟩)
    go_end0
    exact ⟨rfl, HB.trans (hb.mono (by simp))⟩
  by_cases h2 : k = 2
  · subst h2
    go_enter Try.func33, Try.ntmps33
    go_wp2_with (go_at_call 43; refine (blit_nil _ _ _ _ _ _ _ _).mono ?_; rintro e1 w1 ⟨rfl, hb⟩)
    go_end0
    exact ⟨rfl, HB.trans (hb.mono (by simp))⟩
  by_cases h3 : k = 3
  · subst h3
    by_cases hw : 1 ≤ wd
    · go_enter Try.func33, Try.ntmps33
      go_wp2_with (go_at_call 66; refine (frame_nil _ _ _ _ _ _ _ hw).mono ?_; rintro e1 w1 ⟨rfl, hb⟩)
      go_end0
      exact ⟨rfl, HB.trans (hb.mono (by simp))⟩
    · go_enter Try.func33, Try.ntmps33
      go_wp2_with (go_at_call 66; refine (frame_no _ _ _ _ _ _ _ _ (by omega)).mono ?_; rintro e1 w1 ⟨rfl, hb⟩)
      go_end0
      exact ⟨rfl, HB.trans (hb.mono (by simp))⟩
  by_cases h4 : k = 4
  · subst h4
    go_enter Try.func33, Try.ntmps33
    go_wp2_with (go_at_call 41; refine (clip_nil _ _ _ _ _).mono ?_; rintro e1 w1 ⟨rfl, hb⟩)
    go_end0
    exact ⟨rfl, HB.trans (hb.mono (by simp))⟩
  have e0 : (k == 0) = false := by simpa using h0
  have e1 : (k == 1) = false := by simpa using h1
  have e2 : (k == 2) = false := by simpa using h2
  have e3 : (k == 3) = false := by simpa using h3
  have e4 : (k == 4) = false := by simpa using h4
  go_enter Try.func33, Try.ntmps33
  go_wp2
  go_end0
  exact ⟨rfl, HB⟩
end Go.Proofs.Ytjgleibbhgfcpaa
