import Derived.Test.YtedhgdjlcddchaaRaD
namespace Go.Proofs.Ytedhgdjlcddchaa
open Go.RowKit
theorem int_cases (r s : Rc) : int r s = zeroR ∨ Full (int r s) := by
  by_cases h : emp r = true
  · exact .inl (int_emp_left h)
  · by_cases k : emp s = true
    · exact .inl (int_emp_right k)
    · have fr := emp_full (by simpa using h)
      have fs := emp_full (by simpa using k)
      rw [int_b fr fs]
      obtain ⟨⟨h1, h2, h3, h4⟩, h5, h6, h7, h8⟩ := fr
      obtain ⟨⟨k1, k2, k3, k4⟩, k5, k6, k7, k8⟩ := fs
      unfold betweenR
      split
      · refine .inr ?_
        unfold Full
        dsimp only
        omega
      · exact .inl rfl
/-- A rectangle with places, all of which are a canvas's. -/
theorem nats_of {q : Rc} {W H : Nat} (h : Full q) (hb : ∀ x y, hasB q.x q.y q.w q.h x y = true → 0 ≤ x ∧ x < W ∧ 0 ≤ y ∧ y < H) :
    ∃ X Y RW RH : Nat, q = ⟨X, Y, RW, RH⟩ ∧ X + RW ≤ W ∧ Y + RH ≤ H := by
  have hE := full_emp h
  obtain ⟨⟨h1, h2, h3, h4⟩, h5, h6, h7, h8⟩ := h
  have a := hb q.x q.y ((hasB_iff _ _ _ _ _ _).2 ⟨hE, by omega, by omega, by omega, by omega⟩)
  have b := hb (q.x + q.w - 1) (q.y + q.h - 1) ((hasB_iff _ _ _ _ _ _).2 ⟨hE, by omega, by omega, by omega, by omega⟩)
  refine ⟨q.x.toNat, q.y.toNat, q.w.toNat, q.h.toNat, ?_, by omega, by omega⟩
  obtain ⟨x, y, a, b⟩ := q
  dsimp only at *
  congr 1 <;> omega
theorem done_all (X Y RW RH : Nat) (h : emptyB X Y RW RH = false) (a b : Int) : done X Y RW (Y + RH) X a b = hasB X Y RW RH a b := by
  rw [Bool.eq_iff_iff, hasB_iff, h]; unfold done; simp; omega
/-- A canvas that nothing is painted on. -/
def Bno (w0 : World) (g : Nat) (C : Array Value) (n0 : Nat) (R : Array Value) (wx : World) : Prop := Blk wx g 89 C ∧ Blk wx n0 40 R ∧ Below w0.heap.size w0 wx ∧ g < w0.heap.size ∧ w0.heap.size ≤ n0
section
variable {w0 wx w1 : World} {g n0 : Nat} {C R : Array Value}
theorem Bno.next (h : Bno w0 g C n0 R wx) (hb : Below wx.heap.size wx w1) : Bno w0 g C n0 R w1 := ⟨h.1.next hb, h.2.1.next hb, h.2.2.1.trans (hb.mono h.2.2.1.size), h.2.2.2⟩
theorem Bno.drew (h : Bno w0 g C n0 R wx) : Bno w0 g C n0 R wx.drew := ⟨h.1, h.2.1, h.2.2.1.drew, h.2.2.2⟩
theorem Bno.rset (h : Bno w0 g C n0 R wx) (i : Nat) (v : Value) : Bno w0 g C n0 (R.setIfInBounds i v) (wx.setCell ⟨n0, i, none⟩ v) :=
  ⟨h.1.far (by have := h.2.2.2; show g ≠ n0; omega) _, h.2.1.set_ i v, h.2.2.1.setCell h.2.2.2.2 _, h.2.2.2⟩
theorem Bno.four (h : Bno w0 g C n0 R wx) (hR : R.size = 4) (v0 v1 v2 v3 : Value) :
    Bno w0 g C n0 #[v0, v1, v2, v3] ((((wx.setCell ⟨n0, 0, none⟩ v0).setCell ⟨n0, 1, none⟩ v1).setCell ⟨n0, 2, none⟩ v2).setCell ⟨n0, 3, none⟩ v3) := by
  obtain ⟨l⟩ := R
  match l, hR with
  | [a0, a1, a2, a3], _ => exact (((h.rset 0 v0).rset 1 v1).rset 2 v2).rset 3 v3
theorem Bno.clip {A : Option Nat} {W H : Nat} {c : Rc} (h : Bno w0 g (canC A W H c) n0 R wx) : wx.cell? ⟨g, 3, none⟩ = some (.int .i64 c.x) ∧ wx.cell? ⟨g, 4, none⟩ = some (.int .i64 c.y) ∧ wx.cell? ⟨g, 5, none⟩ = some (.int .i64 c.w) ∧ wx.cell? ⟨g, 6, none⟩ = some (.int .i64 c.h) :=
  ⟨h.1.at_ (i := 3) rfl, h.1.at_ (i := 4) rfl, h.1.at_ (i := 5) rfl, h.1.at_ (i := 6) rfl⟩
end
set_option maxHeartbeats 2000000 in
theorem paint_no (g : Nat) (A : Option Nat) (W H : Nat) (c : Rc) (x y a e : Int) (fv : Value) (w : World)
    (hC : Blk w g 89 (canC A W H c)) (hR : interR x y a e c.x c.y c.w c.h = zeroR) :
    Calls Try.prog 110 #[.pointer (some ⟨g, 0, none⟩), .agg #[.int .i64 x, .int .i64 y, .int .i64 a, .int .i64 e], fv] w fun e w' => e = .returned (.tuple #[]) ∧ Below w.heap.size w w' := by
  have hI : ∀ W, Calls Try.prog 65 #[.agg #[.int .i64 x, .int .i64 y, .int .i64 a, .int .i64 e], .agg #[.int .i64 c.x, .int .i64 c.y, .int .i64 c.w, .int .i64 c.h]] W fun e w' => e = .returned (.agg #[.int .i64 0, .int .i64 0, .int .i64 0, .int .i64 0]) ∧ Below W.heap.size W w' := fun W => by
    have h := inter_c x y a e c.x c.y c.w c.h W
    rw [hR] at h
    exact h
  have HI := Lib.hid hI
  have hgl := hC.lt
  have B0 : Bno w g (canC A W H c) w.heap.size #[.int .i64 x, .int .i64 y, .int .i64 a, .int .i64 e] (w.alloc (.cells #[.int .i64 x, .int .i64 y, .int .i64 a, .int .i64 e] 40)) :=
    ⟨hC.alloc _, Blk.new _ _ _, (Below.refl _ _).alloc (Nat.le_refl _) _, hgl, Nat.le_refl _⟩
  clear hR hC hI
  go_enter Try.func110, Try.ntmps110
  go_wp2
  generalize w.alloc (.cells #[.int .i64 x, .int .i64 y, .int .i64 a, .int .i64 e] 40) = wa at B0 ⊢
  have a0 := B0.2.1.at_ (i := 0) rfl
  have a1 := B0.2.1.at_ (i := 1) rfl
  have a2 := B0.2.1.at_ (i := 2) rfl
  have a3 := B0.2.1.at_ (i := 3) rfl
  refine wp_region_noPanic ?_
  refine wp_region_held_drew (S := fun wx => wx.cell? ⟨g, 3, none⟩ = some (.int .i64 c.x) ∧ wx.cell? ⟨g, 4, none⟩ = some (.int .i64 c.y) ∧ wx.cell? ⟨g, 5, none⟩ = some (.int .i64 c.w) ∧ wx.cell? ⟨g, 6, none⟩ = some (.int .i64 c.h)) (by kernel_rfl) (by exact B0.drew.clip) (fun hHeld => ?_)
  refine wpAnyH_take (i := 1) (v := ?v1) rfl (by kernel_rfl) (by kernel_rfl) (by kernel_rfl) (fun _ _ _ h => h) (Or.inl ⟨by kernel_rfl, ?y1⟩) (by assumption) ?r1
  case y1 => (intro wq hSw; (try dsimp only at hSw); go_simp; (try with_reducible rfl))
  (try simp only [Act.put, List.getElem_toArray, List.getElem_cons_succ, List.getElem_cons_zero, List.setIfInBounds_toArray, List.set_cons_zero, List.set_cons_succ])
  refine wpAnyH_take (i := 2) (v := ?v2) rfl (by kernel_rfl) (by kernel_rfl) (by kernel_rfl) (fun _ _ _ h => h) (Or.inl ⟨by kernel_rfl, ?y2⟩) (by assumption) ?r2
  case y2 => (intro wq hSw; (try dsimp only at hSw); go_simp; (try with_reducible rfl))
  (try simp only [Act.put, List.getElem_toArray, List.getElem_cons_succ, List.getElem_cons_zero, List.setIfInBounds_toArray, List.set_cons_zero, List.set_cons_succ])
  refine wpAnyH_take (i := 3) (v := ?v3) rfl (by kernel_rfl) (by kernel_rfl) (by kernel_rfl) (fun _ _ _ h => h) (Or.inl ⟨by kernel_rfl, ?y3⟩) (by assumption) ?r3
  case y3 => (intro wq hSw; (try dsimp only at hSw); go_simp; (try with_reducible rfl))
  (try simp only [Act.put, List.getElem_toArray, List.getElem_cons_succ, List.getElem_cons_zero, List.setIfInBounds_toArray, List.set_cons_zero, List.set_cons_succ])
  refine wpAnyH_take (i := 4) (v := ?v4) rfl (by kernel_rfl) (by kernel_rfl) (by kernel_rfl) (fun _ _ _ h => h) (Or.inl ⟨by kernel_rfl, ?y4⟩) (by assumption) ?r4
  case y4 => (intro wq hSw; (try dsimp only at hSw); go_simp; (try with_reducible rfl))
  (try simp only [Act.put, List.getElem_toArray, List.getElem_cons_succ, List.getElem_cons_zero, List.setIfInBounds_toArray, List.set_cons_zero, List.set_cons_succ])
  refine wpAnyH_ready (rs := [0]) (by kernel_rfl) (by simp) ?_
  refine AllReadyH.cons rfl (fun K hK => ?_) AllReadyH.nil
  go_simp
  refine hK.out _ _ (by exact B0.drew.clip) (fun hHeld => ?_)
  clear hK K
  (try simp only [Act.put, List.getElem_toArray, List.getElem_cons_succ, List.getElem_cons_zero, List.setIfInBounds_toArray, List.set_cons_zero, List.set_cons_succ])
  refine wpAnyH_ready (rs := [5]) (by kernel_rfl) (by simp) ?_
  refine AllReadyH.cons rfl (fun K hK => ?_) AllReadyH.nil
  go_simp
  refine (HI.out _).mono ?_
  rintro e w1 ⟨rfl, hb⟩; have B1 := B0.drew.next hb; have b0 := B1.2.1.at_ (i := 0) rfl; have b1 := B1.2.1.at_ (i := 1) rfl; have b2 := B1.2.1.at_ (i := 2) rfl; have b3 := B1.2.1.at_ (i := 3) rfl; have f0 := B1.2.1.frozen 0; have f1 := B1.2.1.frozen 1; have f2 := B1.2.1.frozen 2; have f3 := B1.2.1.frozen 3; clear hb
  (try dsimp only)
  refine hK.out _ _ (by exact B1.clip) (fun hHeld => ?_)
  clear hK K
  (try simp only [Act.put, List.getElem_toArray, List.getElem_cons_succ, List.getElem_cons_zero, List.setIfInBounds_toArray, List.set_cons_zero, List.set_cons_succ])
  refine wpAnyH_ready (rs := [6]) (by kernel_rfl) (by simp) ?_
  refine AllReadyH.cons rfl (fun K hK => ?_) AllReadyH.nil
  go_simp
  refine hK.out _ _ (by exact (B1.four rfl _ _ _ _).clip) (fun hHeld => ?_)
  clear hK K
  (try simp only [Act.put, List.getElem_toArray, List.getElem_cons_succ, List.getElem_cons_zero, List.setIfInBounds_toArray, List.set_cons_zero, List.set_cons_succ])
  refine wpAnyH_done (by kernel_rfl) ?_ _
  refine NoPanic.normal ?_
  have B2 := B1.four rfl (.int .i64 0) (.int .i64 0) (.int .i64 0) (.int .i64 0)
  clear b0 b1 b2 b3 f0 f1 f2 f3 hHeld B0 a0 a1 a2 a3
  generalize (((w1.setCell ⟨w.heap.size, 0, none⟩ (.int .i64 0)).setCell ⟨w.heap.size, 1, none⟩ (.int .i64 0)).setCell ⟨w.heap.size, 2, none⟩ (.int .i64 0)).setCell ⟨w.heap.size, 3, none⟩ (.int .i64 0) = w2 at B2 ⊢
  clear B1
  have a0 := B2.2.1.at_ (i := 0) rfl
  have a1 := B2.2.1.at_ (i := 1) rfl
  have a2 := B2.2.1.at_ (i := 2) rfl
  have a3 := B2.2.1.at_ (i := 3) rfl
  go_wp2
  refine wp_loop_rounds 1 ?_
  rw [rounds_succ]
  go_wp2
  go_end0
  exact ⟨rfl, B2.2.2.1⟩
theorem paint_nil (x y a e : Int) (fv : Value) (w : World) : Calls Try.prog 110 #[.pointer none, .agg #[.int .i64 x, .int .i64 y, .int .i64 a, .int .i64 e], fv] w fun e w' => e = .returned (.tuple #[]) ∧ Below w.heap.size w w' := by
  go_enter Try.func110, Try.ntmps110
  go_wp2
  refine bodyPost_ret (results_none rfl _ _ _) rfl ?_
  exact ⟨rfl, by repeat' (first | (with_reducible exact Below.refl _ _) | (with_reducible assumption) | (with_reducible refine Below.alloc ?_ ?_ _) | (with_reducible refine Below.drew ?_) | (with_reducible refine Below.setCell ?_ ?_ _) | (with_reducible refine Below.on (by with_reducible assumption) ?_ ?_) | go_size)⟩
theorem paint_c (g : Nat) (A : Option Nat) (W H : Nat) (c : Rc) (pix : List Int) (x y a e : Int) (fc : Nat) (cb : Array Value) (f : Int → Int → Int → Int) (w : World)
    (hC : Canv w g A W H c pix)
    (eg : ∀ args w, (callFunc fc args).run Try.prog w = .ok (.enter fc args) w)
    (Hto : ∀ W1 (u v : Nat) (k : Int), w.grownBy W1 A → hasB x y a e u v = true → u < W → v < H → pix[v * W + u]? = some k →
      Calls Try.prog fc (#[.agg #[.int .i64 u, .int .i64 v], .int .u32 k] ++ cb) W1 fun e w' => e = .returned (.int .u32 (f u v k)) ∧ Below W1.heap.size W1 w')
    (Hf : ∀ (u v : Nat) (k : Int), hasB x y a e u v = true → u < W → v < H → pix[v * W + u]? = some k → 0 ≤ f u v k ∧ f u v k < 4294967296) :
    Calls Try.prog 110 #[.pointer (some ⟨g, 0, none⟩), .agg #[.int .i64 x, .int .i64 y, .int .i64 a, .int .i64 e], .func (.func fc) #[] cb] w fun e' w' => e' = .returned (.tuple #[]) ∧
      Canv w' g A W H c (pnt W (fun i j => hasB x y a e i j && hasB c.x c.y c.w c.h i j) f pix) ∧ w.grownBy w' A := by
  have hh := has_int ⟨x, y, a, e⟩ c
  dsimp only at hh
  rcases int_cases ⟨x, y, a, e⟩ c with h0 | hF
  · have h0' : interR x y a e c.x c.y c.w c.h = zeroR := h0
    refine (paint_no g A W H c x y a e _ w hC.1 h0').mono fun e' w' h => ⟨h.1, ?_, only_of_below h.2 _⟩
    refine (hC.next h.2).to (pnt_id fun i j => ?_).symm
    rw [← hh, h0]
    exact hasB_emp emp_zero _ _
  · have hin : ∀ i j, hasB (int ⟨x, y, a, e⟩ c).x (int ⟨x, y, a, e⟩ c).y (int ⟨x, y, a, e⟩ c).w (int ⟨x, y, a, e⟩ c).h i j = true → hasB x y a e i j = true ∧ 0 ≤ i ∧ i < W ∧ 0 ≤ j ∧ j < H := by
      intro i j hij
      rw [hh, Bool.and_eq_true] at hij
      exact ⟨hij.1, hC.2.2.2.2.2.2.2 i j hij.2⟩
    obtain ⟨X, Y, RW, RH, hq, hX, hY⟩ := nats_of hF (fun i j hij => (hin i j hij).2)
    have hE := full_emp hF
    unfold emp at hE
    rw [hq] at hE
    dsimp only at hE
    have hall : ∀ i j, done X Y RW (Y + RH) X i j = (hasB x y a e i j && hasB c.x c.y c.w c.h i j) := by
      intro i j
      rw [done_all X Y RW RH hE, ← hh, hq]
    have hpos : 0 < RW ∧ 0 < RH := by
      have := (emptyB_iff _ _ _ _).1 hE
      omega
    have hrect : ∀ u v : Nat, X ≤ u → u < X + RW → Y ≤ v → v < Y + RH → hasB x y a e u v = true := by
      intro u v h1 h2 h3 h4
      refine (hin u v ?_).1
      rw [hq]
      exact (hasB_iff _ _ _ _ _ _).2 ⟨hE, by dsimp only; omega, by dsimp only; omega, by dsimp only; omega, by dsimp only; omega⟩
    cases A with
    | none =>
      exfalso
      have h1 := hC.2.2.1 rfl
      have : 0 < W * H := Nat.mul_pos (by omega) (by omega)
      omega
    | some b =>
      refine (paint_yes g b W H X Y RW RH c pix x y a e fc cb f w hC hq hX hY eg (fun W1 u v k hg h1 h2 h3 h4 hk => Hto W1 u v k hg (hrect u v h1 h2 h3 h4) (by omega) (by omega) hk) (fun u v k h1 h2 h3 h4 hk => Hf u v k (hrect u v h1 h2 h3 h4) (by omega) (by omega) hk)).mono fun e' w' h => ⟨h.1, ?_, h.2.2⟩
      refine h.2.1.to ?_
      congr 1
      funext i j
      exact hall i j
end Go.Proofs.Ytedhgdjlcddchaa
