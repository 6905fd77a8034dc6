import Derived.Test.YtedhgdjlcddchaaRcA
namespace Go.Proofs.Ytedhgdjlcddchaa
open Go.RowKit Go.Shelf
/-- A canvas's box, a rectangle's box, and the answer's. -/
def Kst (w0 : World) (n0 n1 n2 : Nat) (C R Z : Array Value) (wx : World) : Prop := Blk wx n0 58 C ∧ Blk wx n1 40 R ∧ Blk wx n2 58 Z ∧ Below w0.heap.size w0 wx
section
variable {w0 wx w1 : World} {n0 n1 n2 : Nat} {C R Z : Array Value}
theorem Kst.next (h : Kst w0 n0 n1 n2 C R Z wx) (hb : Below wx.heap.size wx w1) : Kst w0 n0 n1 n2 C R Z w1 := ⟨h.1.next hb, h.2.1.next hb, h.2.2.1.next hb, h.2.2.2.trans (hb.mono h.2.2.2.size)⟩
theorem Kst.drew (h : Kst w0 n0 n1 n2 C R Z wx) : Kst w0 n0 n1 n2 C R Z wx.drew := ⟨h.1, h.2.1, h.2.2.1, h.2.2.2.drew⟩
theorem Kst.out {v0 v1 v2 v3 v4 v5 v6 r0 r1 r2 r3 : Value} (h : Kst w0 n0 n1 n2 #[v0, v1, v2, v3, v4, v5, v6] #[r0, r1, r2, r3] Z wx) :
    (wx.cell? ⟨n0, 0, none⟩ = some v0 ∧ wx.cell? ⟨n0, 1, none⟩ = some v1 ∧ wx.cell? ⟨n0, 2, none⟩ = some v2) ∧ (wx.cell? ⟨n1, 0, none⟩ = some r0 ∧ wx.cell? ⟨n1, 1, none⟩ = some r1 ∧ wx.cell? ⟨n1, 2, none⟩ = some r2 ∧ wx.cell? ⟨n1, 3, none⟩ = some r3) :=
  ⟨⟨h.1.at_ (i := 0) rfl, h.1.at_ (i := 1) rfl, h.1.at_ (i := 2) rfl⟩, h.2.1.c4.1⟩
theorem Kst.zset (h : Kst w0 n0 n1 n2 C R Z wx) (h02 : n0 ≠ n2) (h12 : n1 ≠ n2) (hB : w0.heap.size ≤ n2) (i : Nat) (u : Value) : Kst w0 n0 n1 n2 C R (Z.setIfInBounds i u) (wx.setCell ⟨n2, i, none⟩ u) :=
  ⟨h.1.far h02 _, h.2.1.far h12 _, h.2.2.1.set_ i u, h.2.2.2.setCell hB _⟩
end
theorem kst_start (w : World) (C R Z : Array Value) : Kst w w.heap.size (w.heap.size + 1) (w.heap.size + 1 + 1) C R Z (((w.alloc (.cells C 58)).alloc (.cells R 40)).alloc (.cells Z 58)) := by
  have h1 := (Blk.new (w.alloc (.cells C 58)) 40 R).alloc (.cells Z 58)
  have h2 := Blk.new ((w.alloc (.cells C 58)).alloc (.cells R 40)) 58 Z
  exact ⟨((Blk.new w _ _).alloc _).alloc _, by simpa using h1, by simpa using h2, ((((Below.refl _ w).alloc (Nat.le_refl _) _).alloc (by simp) _).alloc (by simp; omega) _)⟩
set_option maxRecDepth 100000 in
set_option maxHeartbeats 4000000 in
theorem rclip_c (W H : Nat) (p : Option Addr) (n cc : Nat) (c : Rc) (x y a e : Int) (w : World) :
    Calls Try.prog 41 #[.agg #[.int .i64 W, .int .i64 H, .slice p n cc, .int .i64 c.x, .int .i64 c.y, .int .i64 c.w, .int .i64 c.h], .agg #[.int .i64 x, .int .i64 y, .int .i64 a, .int .i64 e]] w fun e' w' =>
      e' = .returned (.agg #[.int .i64 W, .int .i64 H, .slice p n cc, .int .i64 (int ⟨0, 0, W, H⟩ ⟨x, y, a, e⟩).x, .int .i64 (int ⟨0, 0, W, H⟩ ⟨x, y, a, e⟩).y, .int .i64 (int ⟨0, 0, W, H⟩ ⟨x, y, a, e⟩).w, .int .i64 (int ⟨0, 0, W, H⟩ ⟨x, y, a, e⟩).h]) ∧ Below w.heap.size w w' := by
  have hI : ∀ W1, Calls Try.prog 70 #[.agg #[.int .i64 0, .int .i64 0, .int .i64 W, .int .i64 H], .agg #[.int .i64 x, .int .i64 y, .int .i64 a, .int .i64 e]] W1 fun e' w' => e' = .returned (.agg #[.int .i64 (int ⟨0, 0, W, H⟩ ⟨x, y, a, e⟩).x, .int .i64 (int ⟨0, 0, W, H⟩ ⟨x, y, a, e⟩).y, .int .i64 (int ⟨0, 0, W, H⟩ ⟨x, y, a, e⟩).w, .int .i64 (int ⟨0, 0, W, H⟩ ⟨x, y, a, e⟩).h]) ∧ Below W1.heap.size W1 w' := fun W1 => rinter_c 0 0 W H x y a e W1
  have HI := Lib.hid hI
  clear hI
  generalize int ⟨0, 0, W, H⟩ ⟨x, y, a, e⟩ = d at HI ⊢
  go_enter Try.func41, Try.ntmps41
  go_wp2
  have P0 := kst_start w #[.int .i64 W, .int .i64 H, .slice p n cc, .int .i64 c.x, .int .i64 c.y, .int .i64 c.w, .int .i64 c.h] #[.int .i64 x, .int .i64 y, .int .i64 a, .int .i64 e] #[.int .i64 0, .int .i64 0, .slice none 0 0, .int .i64 0, .int .i64 0, .int .i64 0, .int .i64 0]
  generalize ((w.alloc (.cells #[.int .i64 W, .int .i64 H, .slice p n cc, .int .i64 c.x, .int .i64 c.y, .int .i64 c.w, .int .i64 c.h] 58)).alloc (.cells #[.int .i64 x, .int .i64 y, .int .i64 a, .int .i64 e] 40)).alloc (.cells #[.int .i64 0, .int .i64 0, .slice none 0 0, .int .i64 0, .int .i64 0, .int .i64 0, .int .i64 0] 58) = wa at P0 ⊢
  refine wp_region_noPanic ?_
  refine wp_region_held_drew (S := fun wx => (wx.cell? ⟨w.heap.size, 0, none⟩ = some (.int .i64 W) ∧ wx.cell? ⟨w.heap.size, 1, none⟩ = some (.int .i64 H) ∧ wx.cell? ⟨w.heap.size, 2, none⟩ = some (.slice p n cc)) ∧ (wx.cell? ⟨w.heap.size + 1, 0, none⟩ = some (.int .i64 x) ∧ wx.cell? ⟨w.heap.size + 1, 1, none⟩ = some (.int .i64 y) ∧ wx.cell? ⟨w.heap.size + 1, 2, none⟩ = some (.int .i64 a) ∧ wx.cell? ⟨w.heap.size + 1, 3, none⟩ = some (.int .i64 e))) (by kernel_rfl) (by exact P0.drew.out) (fun hHeld => ?_)
  refine wpAnyH_take (i := 0) (v := ?v0) rfl (by kernel_rfl) (by kernel_rfl) (by kernel_rfl) (fun _ _ _ h => h) (Or.inl ⟨by kernel_rfl, ?y0⟩) (by assumption) ?r0
  case y0 => (intro wq hSw; (try dsimp only at hSw); go_simp; (try with_reducible rfl))
  (try simp only [Act.put, List.getElem_toArray, List.getElem_cons_zero, List.setIfInBounds_toArray, List.set_cons_zero, List.set_cons_succ])
  refine wpAnyH_take (i := 1) (v := ?v1) rfl (by kernel_rfl) (by kernel_rfl) (by kernel_rfl) (fun _ _ _ h => h) (Or.inl ⟨by kernel_rfl, ?y1⟩) (by assumption) ?r1
  case y1 => (intro wq hSw; (try dsimp only at hSw); go_simp; (try with_reducible rfl))
  (try simp only [Act.put, List.getElem_toArray, List.getElem_cons_succ, List.getElem_cons_zero, List.setIfInBounds_toArray, List.set_cons_zero, List.set_cons_succ])
  refine wpAnyH_take (i := 2) (v := ?v2) rfl (by kernel_rfl) (by kernel_rfl) (by kernel_rfl) (fun _ _ _ h => h) (Or.inl ⟨by kernel_rfl, ?y2⟩) (by assumption) ?r2
  case y2 => (intro wq hSw; (try dsimp only at hSw); go_simp; (try with_reducible rfl))
  (try simp only [Act.put, List.getElem_toArray, List.getElem_cons_succ, List.getElem_cons_zero, List.setIfInBounds_toArray, List.set_cons_zero, List.set_cons_succ])
  refine wpAnyH_take (i := 3) (v := ?v3) rfl (by kernel_rfl) (by kernel_rfl) (by kernel_rfl) (fun _ _ _ h => h) (Or.inl ⟨by kernel_rfl, ?y3⟩) (by assumption) ?r3
  case y3 => (intro wq hSw; (try dsimp only at hSw); go_simp; (try with_reducible rfl))
  (try simp only [Act.put, List.getElem_toArray, List.getElem_cons_succ, List.getElem_cons_zero, List.setIfInBounds_toArray, List.set_cons_zero, List.set_cons_succ])
  refine wpAnyH_take (i := 4) (v := ?v4) rfl (by kernel_rfl) (by kernel_rfl) (by kernel_rfl) (fun _ _ _ h => h) (Or.inl ⟨by kernel_rfl, ?y4⟩) (by assumption) ?r4
  case y4 => (intro wq hSw; (try dsimp only at hSw); go_simp; (try with_reducible rfl))
  (try simp only [Act.put, List.getElem_toArray, List.getElem_cons_succ, List.getElem_cons_zero, List.setIfInBounds_toArray, List.set_cons_zero, List.set_cons_succ])
  refine wpAnyH_take (i := 5) (v := ?v5) rfl (by kernel_rfl) (by kernel_rfl) (by kernel_rfl) (fun _ _ _ h => h) (Or.inl ⟨by kernel_rfl, ?y5⟩) (by assumption) ?r5
  case y5 => (intro wq hSw; (try dsimp only at hSw); go_simp; (try with_reducible rfl))
  (try simp only [Act.put, List.getElem_toArray, List.getElem_cons_succ, List.getElem_cons_zero, List.setIfInBounds_toArray, List.set_cons_zero, List.set_cons_succ])
  refine wpAnyH_take (i := 6) (v := ?v6) rfl (by kernel_rfl) (by kernel_rfl) (by kernel_rfl) (fun _ _ _ h => h) (Or.inl ⟨by kernel_rfl, ?y6⟩) (by assumption) ?r6
  case y6 => (intro wq hSw; (try dsimp only at hSw); go_simp; (try with_reducible rfl))
  (try simp only [Act.put, List.getElem_toArray, List.getElem_cons_succ, List.getElem_cons_zero, List.setIfInBounds_toArray, List.set_cons_zero, List.set_cons_succ])
  refine wpAnyH_take (i := 7) (v := ?v7) rfl (by kernel_rfl) (by kernel_rfl) (by kernel_rfl) (fun _ _ _ h => h) (Or.inl ⟨by kernel_rfl, ?y7⟩) (by assumption) ?r7
  case y7 => (intro wq hSw; (try dsimp only at hSw); go_simp; (try with_reducible rfl))
  (try simp only [Act.put, List.getElem_toArray, List.getElem_cons_succ, List.getElem_cons_zero, List.setIfInBounds_toArray, List.set_cons_zero, List.set_cons_succ])
  refine wpAnyH_take (i := 8) (v := ?v8) rfl (by kernel_rfl) (by kernel_rfl) (by kernel_rfl) (fun _ _ _ h => h) (Or.inl ⟨by kernel_rfl, ?y8⟩) (by assumption) ?r8
  case y8 => (intro wq hSw; (try dsimp only at hSw); go_simp; (try with_reducible rfl))
  (try simp only [Act.put, List.getElem_toArray, List.getElem_cons_succ, List.getElem_cons_zero, List.setIfInBounds_toArray, List.set_cons_zero, List.set_cons_succ])
  refine wpAnyH_take (i := 9) (v := ?v9) rfl (by kernel_rfl) (by kernel_rfl) (by kernel_rfl) (fun _ _ _ h => h) (Or.inl ⟨by kernel_rfl, ?y9⟩) (by assumption) ?r9
  case y9 => (intro wq hSw; (try dsimp only at hSw); go_simp; (try with_reducible rfl))
  (try simp only [Act.put, List.getElem_toArray, List.getElem_cons_succ, List.getElem_cons_zero, List.setIfInBounds_toArray, List.set_cons_zero, List.set_cons_succ])
  refine wpAnyH_ready (rs := [10]) (by kernel_rfl) (by simp) ?_
  refine AllReadyH.cons rfl (fun K hK => ?_) AllReadyH.nil
  go_simp
  refine (HI.out _).mono ?_
  rintro e1 w1 ⟨rfl, hb⟩; have P1 := P0.drew.next hb; clear hb; obtain ⟨⟨z0, z1, z2, z3, z4, z5, z6⟩, f0, f1, f2, f3, f4, f5, f6⟩ := P1.2.2.1.c7
  (try dsimp only)
  refine hK.out _ _ (by exact P1.out) (fun hHeld => ?_)
  clear hK K
  (try simp only [Act.put, List.getElem_toArray, List.getElem_cons_succ, List.getElem_cons_zero, List.setIfInBounds_toArray, List.set_cons_zero, List.set_cons_succ])
  refine wpAnyH_take (i := 11) (v := ?v11) rfl (by kernel_rfl) (by kernel_rfl) (by kernel_rfl) (fun _ _ _ h => h) (Or.inl ⟨by kernel_rfl, ?y11⟩) (by assumption) ?r11
  case y11 => (intro wq hSw; (try dsimp only at hSw); go_simp; (try with_reducible rfl))
  (try simp only [Act.put, List.getElem_toArray, List.getElem_cons_succ, List.getElem_cons_zero, List.setIfInBounds_toArray, List.set_cons_zero, List.set_cons_succ])
  refine wpAnyH_ready (rs := [12]) (by kernel_rfl) (by simp) ?_
  refine AllReadyH.cons rfl (fun K hK => ?_) AllReadyH.nil
  go_simp
  refine hK.out _ _ (by exact (((((((P1.zset (by omega) (by omega) (by omega) 0 _).zset (by omega) (by omega) (by omega) 1 _).zset (by omega) (by omega) (by omega) 2 _).zset (by omega) (by omega) (by omega) 3 _).zset (by omega) (by omega) (by omega) 4 _).zset (by omega) (by omega) (by omega) 5 _).zset (by omega) (by omega) (by omega) 6 _).out) (fun hHeld => ?_)
  clear hK K
  (try simp only [Act.put, List.getElem_toArray, List.getElem_cons_succ, List.getElem_cons_zero, List.setIfInBounds_toArray, List.set_cons_zero, List.set_cons_succ])
  refine wpAnyH_done (by kernel_rfl) ?_ _
  refine NoPanic.normal ?_
  have P2 := ((((((P1.zset (by omega) (by omega) (by omega) 0 (.int .i64 W)).zset (by omega) (by omega) (by omega) 1 (.int .i64 H)).zset (by omega) (by omega) (by omega) 2 (.slice p n cc)).zset (by omega) (by omega) (by omega) 3 (.int .i64 d.x)).zset (by omega) (by omega) (by omega) 4 (.int .i64 d.y)).zset (by omega) (by omega) (by omega) 5 (.int .i64 d.w)).zset (by omega) (by omega) (by omega) 6 (.int .i64 d.h)
  have P3 : Kst w w.heap.size (w.heap.size + 1) (w.heap.size + 1 + 1) _ _ #[.int .i64 W, .int .i64 H, .slice p n cc, .int .i64 d.x, .int .i64 d.y, .int .i64 d.w, .int .i64 d.h] _ := P2
  clear P2 z0 z1 z2 z3 z4 z5 z6 f0 f1 f2 f3 f4 f5 f6 hHeld P0
  generalize ((((((w1.setCell ⟨w.heap.size + 1 + 1, 0, none⟩ (.int .i64 W)).setCell ⟨w.heap.size + 1 + 1, 1, none⟩ (.int .i64 H)).setCell ⟨w.heap.size + 1 + 1, 2, none⟩ (.slice p n cc)).setCell ⟨w.heap.size + 1 + 1, 3, none⟩ (.int .i64 d.x)).setCell ⟨w.heap.size + 1 + 1, 4, none⟩ (.int .i64 d.y)).setCell ⟨w.heap.size + 1 + 1, 5, none⟩ (.int .i64 d.w)).setCell ⟨w.heap.size + 1 + 1, 6, none⟩ (.int .i64 d.h) = w2 at P3 ⊢
  clear P1
  go_wp2
  obtain ⟨⟨z0, z1, z2, z3, z4, z5, z6⟩, _⟩ := P3.2.2.1.c7
  refine bodyPost_ret (v := .agg #[.int .i64 W, .int .i64 H, .slice p n cc, .int .i64 d.x, .int .i64 d.y, .int .i64 d.w, .int .i64 d.h]) (by simp [results, Try.results41, go_sem, *]) rfl ?_
  exact ⟨rfl, P3.2.2.2⟩
end Go.Proofs.Ytedhgdjlcddchaa
