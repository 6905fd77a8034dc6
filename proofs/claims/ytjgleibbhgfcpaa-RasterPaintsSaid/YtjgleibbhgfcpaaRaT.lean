import Derived.Test.YtjgleibbhgfcpaaRaS
namespace Go.Proofs.Ytjgleibbhgfcpaa
open Go.RowKit Go.Shelf
/-- A picture's box, a place's box, and a place. -/
def Bst (w0 : World) (qm qa p : Nat) (M Q B : Array Value) (wx : World) : Prop := Blk wx qm 54 M ∧ Blk wx qa 32 Q ∧ Blk wx p 32 B ∧ Below w0.heap.size w0 wx
section
variable {w0 wx w1 : World} {qm qa p : Nat} {M Q B : Array Value}
theorem Bst.next (h : Bst w0 qm qa p M Q B wx) (hb : Below wx.heap.size wx w1) : Bst w0 qm qa p M Q B w1 := ⟨h.1.next hb, h.2.1.next hb, h.2.2.1.next hb, h.2.2.2.trans (hb.mono h.2.2.2.size)⟩
theorem Bst.drew (h : Bst w0 qm qa p M Q B wx) : Bst w0 qm qa p M Q B wx.drew := ⟨h.1, h.2.1, h.2.2.1, h.2.2.2.drew⟩
theorem Bst.out {v0 v1 v2 u0 u1 t0 t1 : Value} (h : Bst w0 qm qa p #[v0, v1, v2] #[u0, u1] #[t0, t1] wx) :
    (wx.cell? ⟨qm, 0, none⟩ = some v0 ∧ wx.cell? ⟨qm, 1, none⟩ = some v1 ∧ wx.cell? ⟨qm, 2, none⟩ = some v2) ∧ (wx.cell? ⟨qa, 0, none⟩ = some u0 ∧ wx.cell? ⟨qa, 1, none⟩ = some u1) ∧ (wx.cell? ⟨p, 0, none⟩ = some t0 ∧ wx.cell? ⟨p, 1, none⟩ = some t1) :=
  ⟨h.1.c3.1, h.2.1.c2.1, h.2.2.1.c2.1⟩
end
set_option maxHeartbeats 2000000 in
theorem blitc_c (x y px py k : Int) (u v mw mh qm qa bb bo cc N i : Nat) (z : Int) (w : World) (hm : Blk w qm 54 #[.int .i64 mw, .int .i64 mh, .slice (some ⟨bb, bo, none⟩) N cc]) (ha : Blk w qa 32 #[.int .i64 px, .int .i64 py])
    (hx : IntKind.i64.wrap (x - px) = (u : Int)) (hy : IntKind.i64.wrap (y - py) = (v : Int)) (h1 : u ≤ 1024) (h2 : v ≤ 1024) (h3 : mw ≤ 1024) (hi : i = v * mw + u) (hiN : i < N) (hz : w.cell? ⟨bb, bo + i, none⟩ = some (.int .u32 z)) (hbb : bb < w.heap.size) :
    Calls Try.prog 75 #[.agg #[.int .i64 x, .int .i64 y], .int .u32 k, .pointer (some ⟨qm, 0, none⟩), .pointer (some ⟨qa, 0, none⟩)] w fun e w' => e = .returned (.int .u32 z) ∧ Below w.heap.size w w' := by
  have P0 : Bst w qm qa w.heap.size #[.int .i64 mw, .int .i64 mh, .slice (some ⟨bb, bo, none⟩) N cc] #[.int .i64 px, .int .i64 py] #[.int .i64 x, .int .i64 y] (w.alloc (.cells #[.int .i64 x, .int .i64 y] 32)) :=
    ⟨hm.alloc _, ha.alloc _, Blk.new _ _ _, (Below.refl _ _).alloc (Nat.le_refl _) _⟩
  have Hi := Lib.hid hi
  have HZ := Lib.hid hz
  have hi0 : (0 : Int) ≤ (i : Int) := by omega
  have hi1 : (i : Int) < (N : Int) := by omega
  clear hi hm ha hz
  go_enter Try.func75, Try.ntmps75
  go_wp2
  generalize w.alloc (.cells #[.int .i64 x, .int .i64 y] 32) = wa at P0 ⊢
  refine wp_region_noPanic ?_
  refine wp_region_held_drew (S := fun wx => (wx.cell? ⟨qm, 0, none⟩ = some (.int .i64 mw) ∧ wx.cell? ⟨qm, 1, none⟩ = some (.int .i64 mh) ∧ wx.cell? ⟨qm, 2, none⟩ = some (.slice (some ⟨bb, bo, none⟩) N cc)) ∧ (wx.cell? ⟨qa, 0, none⟩ = some (.int .i64 px) ∧ wx.cell? ⟨qa, 1, none⟩ = some (.int .i64 py)) ∧ (wx.cell? ⟨w.heap.size, 0, none⟩ = some (.int .i64 x) ∧ wx.cell? ⟨w.heap.size, 1, none⟩ = some (.int .i64 y))) (by kernel_rfl) (by exact P0.drew.out) (fun hHeld => ?_)
  refine wpAnyH_take (i := 0) (v := ?v0) rfl (by kernel_rfl) (by kernel_rfl) (by kernel_rfl) (fun _ _ _ h => h) (Or.inl ⟨by kernel_rfl, ?y0⟩) (by assumption) ?r0
  case y0 => (intro wq hSw; (try dsimp only at hSw); go_simp; (try with_reducible rfl))
  (try simp only [Act.put, List.getElem_toArray, List.getElem_cons_zero, List.setIfInBounds_toArray, List.set_cons_zero, List.set_cons_succ])
  refine wpAnyH_take (i := 1) (v := ?v1) rfl (by kernel_rfl) (by kernel_rfl) (by kernel_rfl) (fun _ _ _ h => h) (Or.inl ⟨by kernel_rfl, ?y1⟩) (by assumption) ?r1
  case y1 => (intro wq hSw; (try dsimp only at hSw); go_simp; (try with_reducible rfl))
  (try simp only [Act.put, List.getElem_toArray, List.getElem_cons_succ, List.getElem_cons_zero, List.setIfInBounds_toArray, List.set_cons_zero, List.set_cons_succ])
  refine wpAnyH_take (i := 2) (v := ?v2) rfl (by kernel_rfl) (by kernel_rfl) (by kernel_rfl) (fun _ _ _ h => h) (Or.inl ⟨by kernel_rfl, ?y2⟩) (by assumption) ?r2
  case y2 => (intro wq hSw; (try dsimp only at hSw); go_simp; (try with_reducible rfl))
  (try simp only [Act.put, List.getElem_toArray, List.getElem_cons_succ, List.getElem_cons_zero, List.setIfInBounds_toArray, List.set_cons_zero, List.set_cons_succ])
  refine wpAnyH_take (i := 3) (v := ?v3) rfl (by kernel_rfl) (by kernel_rfl) (by kernel_rfl) (fun _ _ _ h => h) (Or.inl ⟨by kernel_rfl, ?y3⟩) (by assumption) ?r3
  case y3 => (intro wq hSw; (try dsimp only at hSw); go_simp; (try with_reducible rfl))
  (try simp only [Act.put, List.getElem_toArray, List.getElem_cons_succ, List.getElem_cons_zero, List.setIfInBounds_toArray, List.set_cons_zero, List.set_cons_succ])
  refine wpAnyH_take (i := 4) (v := ?v4) rfl (by kernel_rfl) (by kernel_rfl) (by kernel_rfl) (fun _ _ _ h => h) (Or.inl ⟨by kernel_rfl, ?y4⟩) (by assumption) ?r4
  case y4 => (intro wq hSw; (try dsimp only at hSw); go_simp; (try with_reducible rfl))
  (try simp only [Act.put, List.getElem_toArray, List.getElem_cons_succ, List.getElem_cons_zero, List.setIfInBounds_toArray, List.set_cons_zero, List.set_cons_succ])
  refine wpAnyH_take (i := 5) (v := ?v5) rfl (by kernel_rfl) (by kernel_rfl) (by kernel_rfl) (fun _ _ _ h => h) (Or.inl ⟨by kernel_rfl, ?y5⟩) (by assumption) ?r5
  case y5 => (intro wq hSw; (try dsimp only at hSw); go_simp; (try with_reducible rfl))
  (try simp only [Act.put, List.getElem_toArray, List.getElem_cons_succ, List.getElem_cons_zero, List.setIfInBounds_toArray, List.set_cons_zero, List.set_cons_succ])
  refine wpAnyH_take (i := 6) (v := ?v6) rfl (by kernel_rfl) (by kernel_rfl) (by kernel_rfl) (fun _ _ _ h => h) (Or.inl ⟨by kernel_rfl, ?y6⟩) (by assumption) ?r6
  case y6 => (intro wq hSw; (try dsimp only at hSw); go_simp; (try with_reducible rfl))
  (try simp only [Act.put, List.getElem_toArray, List.getElem_cons_succ, List.getElem_cons_zero, List.setIfInBounds_toArray, List.set_cons_zero, List.set_cons_succ])
  refine wpAnyH_take (i := 7) (v := ?v7) rfl (by kernel_rfl) (by kernel_rfl) (by kernel_rfl) (fun _ _ _ h => h) (Or.inl ⟨by kernel_rfl, ?y7⟩) (by assumption) ?r7
  case y7 => (intro wq hSw; (try dsimp only at hSw); go_simp; (try with_reducible rfl))
  (try simp only [Act.put, List.getElem_toArray, List.getElem_cons_succ, List.getElem_cons_zero, List.setIfInBounds_toArray, List.set_cons_zero, List.set_cons_succ])
  refine wpAnyH_take (i := 8) (v := ?v8) rfl (by kernel_rfl) (by kernel_rfl) (by kernel_rfl) (fun _ _ _ h => h) (Or.inl ⟨by kernel_rfl, ?y8⟩) (by assumption) ?r8
  case y8 => (intro wq hSw; (try dsimp only at hSw); go_simp; (try with_reducible rfl))
  (try simp only [Act.put, List.getElem_toArray, List.getElem_cons_succ, List.getElem_cons_zero, List.setIfInBounds_toArray, List.set_cons_zero, List.set_cons_succ])
  refine wpAnyH_take (i := 9) (v := ?v9) rfl (by kernel_rfl) (by kernel_rfl) (by kernel_rfl) (fun _ _ _ h => h) (Or.inl ⟨by kernel_rfl, ?y9⟩) (by assumption) ?r9
  case y9 => (intro wq hSw; (try dsimp only at hSw); go_simp; (try with_reducible rfl))
  (try simp only [Act.put, List.getElem_toArray, List.getElem_cons_succ, List.getElem_cons_zero, List.setIfInBounds_toArray, List.set_cons_zero, List.set_cons_succ])
  refine wpAnyH_take (i := 10) (v := ?v10) rfl (by kernel_rfl) (by kernel_rfl) (by kernel_rfl) (fun _ _ _ h => h) (Or.inl ⟨by kernel_rfl, ?y10⟩) (by assumption) ?r10
  case y10 => (intro wq hSw; (try dsimp only at hSw); go_simp; (try with_reducible rfl))
  (try simp only [Act.put, List.getElem_toArray, List.getElem_cons_succ, List.getElem_cons_zero, List.setIfInBounds_toArray, List.set_cons_zero, List.set_cons_succ])
  refine wpAnyH_take (i := 11) (v := ?v11) rfl (by kernel_rfl) (by kernel_rfl) (by kernel_rfl) (fun _ _ _ h => h) (Or.inl ⟨by kernel_rfl, ?y11⟩) (by assumption) ?r11
  case y11 => (intro wq hSw; (try dsimp only at hSw); go_simp; (try with_reducible rfl))
  (try simp only [Act.put, List.getElem_toArray, List.getElem_cons_succ, List.getElem_cons_zero, List.setIfInBounds_toArray, List.set_cons_zero, List.set_cons_succ])
  refine wpAnyH_take (i := 12) (v := ?v12) rfl (by kernel_rfl) (by kernel_rfl) (by kernel_rfl) (fun _ _ _ h => h) (Or.inl ⟨by kernel_rfl, ?y12⟩) (by assumption) ?r12
  case y12 => (intro wq hSw; (try dsimp only at hSw); go_simp; (try with_reducible rfl))
  (try simp only [Act.put, List.getElem_toArray, List.getElem_cons_succ, List.getElem_cons_zero, List.setIfInBounds_toArray, List.set_cons_zero, List.set_cons_succ])
  refine wpAnyH_take (i := 13) (v := ?v13) rfl (by kernel_rfl) (by kernel_rfl) (by kernel_rfl) (fun _ _ _ h => h) (Or.inl ⟨by kernel_rfl, ?y13⟩) (by assumption) ?r13
  case y13 => (intro wq hSw; (try dsimp only at hSw); go_simp; (try with_reducible rfl))
  (try simp only [Act.put, List.getElem_toArray, List.getElem_cons_succ, List.getElem_cons_zero, List.setIfInBounds_toArray, List.set_cons_zero, List.set_cons_succ])
  refine wpAnyH_ready (rs := [14]) (by kernel_rfl) (by simp) ?_
  refine AllReadyH.cons rfl (fun K hK => ?_) AllReadyH.nil
  go_simp
  refine (index_n mw mh i u v _ _ Hi.out h2 h3 h1).mono ?_
  rintro e w1 ⟨rfl, hb⟩; have P1 := P0.drew.next hb; have pc : w1.cell? ⟨bb, bo + i, none⟩ = some (.int .u32 z) := (P1.2.2.2.cell (p := ⟨bb, bo + i, none⟩) hbb).trans HZ.out; clear hb
  (try dsimp only)
  refine hK.out _ _ (by exact P1.out) (fun hHeld => ?_)
  clear hK K
  (try simp only [Act.put, List.getElem_toArray, List.getElem_cons_succ, List.getElem_cons_zero, List.setIfInBounds_toArray, List.set_cons_zero, List.set_cons_succ])
  refine wpAnyH_take (i := 15) (v := ?v15) rfl (by kernel_rfl) (by kernel_rfl) (by kernel_rfl) (fun _ _ _ h => h) (Or.inl ⟨by kernel_rfl, ?y15⟩) (by assumption) ?r15
  case y15 => (intro wq hSw; (try dsimp only at hSw); go_simp; (try with_reducible rfl))
  (try simp only [Act.put, List.getElem_toArray, List.getElem_cons_succ, List.getElem_cons_zero, List.setIfInBounds_toArray, List.set_cons_zero, List.set_cons_succ])
  refine wpAnyH_ready (rs := [16]) (by kernel_rfl) (by simp) ?_
  refine AllReadyH.cons rfl (fun K hK => ?_) AllReadyH.nil
  go_simp
  refine hK.out _ _ (by exact P1.out) (fun hHeld => ?_)
  clear hK K
  (try simp only [Act.put, List.getElem_toArray, List.getElem_cons_succ, List.getElem_cons_zero, List.setIfInBounds_toArray, List.set_cons_zero, List.set_cons_succ])
  refine wpAnyH_take (i := 17) (v := ?v17) rfl (by kernel_rfl) (by kernel_rfl) (by kernel_rfl) (fun _ _ _ h => h) (Or.inl ⟨by kernel_rfl, ?y17⟩) (by assumption) ?r17
  case y17 => (intro wq hSw; (try dsimp only at hSw); go_simp; (try with_reducible rfl))
  (try simp only [Act.put, List.getElem_toArray, List.getElem_cons_succ, List.getElem_cons_zero, List.setIfInBounds_toArray, List.set_cons_zero, List.set_cons_succ])
  refine wpAnyH_done (by kernel_rfl) ?_ _
  refine NoPanic.normal ?_
  clear hHeld
  go_wp2
  go_ret
  exact ⟨rfl, P1.2.2.2⟩
/-- A picture's colours: a slice in a block that is not A. -/
def RdA (A : Option Nat) (w : World) (v : Value) (zs : List Int) : Prop :=
  ∃ p c, v = .slice p zs.length c ∧ ∀ (j : Nat) (u : Int), zs[j]? = some u → ∃ b o, p = some ⟨b, o, none⟩ ∧ b < w.heap.size ∧ some b ≠ A ∧ w.cell? ⟨b, o + j, none⟩ = some (Value.int .u32 u)
theorem RdA.grown {A : Option Nat} {w w' : World} {v : Value} {zs : List Int} (h : RdA A w v zs) (hg : w.grownBy w' A) : RdA A w' v zs := by
  obtain ⟨p, c, h1, h2⟩ := h
  refine ⟨p, c, h1, fun j u hu => ?_⟩
  obtain ⟨b, o, h3, h4, h5, h6⟩ := h2 j u hu
  exact ⟨b, o, h3, Nat.lt_of_lt_of_le h4 hg.size, h5, hg.cell h6 h5⟩
theorem RdA.next {A : Option Nat} {w w' : World} {v : Value} {zs : List Int} (h : RdA A w v zs) (hb : Below w.heap.size w w') : RdA A w' v zs := h.grown (only_of_below hb A)
theorem RdA.rd {A : Option Nat} {w : World} {v : Value} {zs : List Int} (h : RdA A w v zs) : Rd w v zs := by
  obtain ⟨p, c, h1, h2⟩ := h
  refine ⟨p, c, h1, fun j u hu => ?_⟩
  obtain ⟨b, o, h3, h4, h5, h6⟩ := h2 j u hu
  exact ⟨b, o, h3, h4, h6⟩
/-- What a picture paints. -/
def blitF (mw : Nat) (px py : Int) (zs : List Int) (i j _u : Int) : Int := zs.getD ((j - py).toNat * mw + (i - px).toNat) 0
def blitP (W : Nat) (c : Rc) (a b : Int) (px py : Int) (zs pix : List Int) : List Int :=
  if picB a b zs.length = true then pnt W (fun i j => hasB px py a b i j && hasB c.x c.y c.w c.h i j) (blitF a.toNat px py zs) pix else pix
theorem blit_at {mw mh : Nat} {px py : Int} {zs : List Int} {u v : Nat} {k : Int} (hl : zs.length = mw * mh) (hh : hasB px py mw mh u v = true) :
    ∃ u' v' : Nat, IntKind.i64.wrap ((u : Int) - px) = (u' : Int) ∧ IntKind.i64.wrap ((v : Int) - py) = (v' : Int) ∧ u' < mw ∧ v' < mh ∧ v' * mw + u' < zs.length ∧ zs[v' * mw + u']? = some (blitF mw px py zs u v k) := by
  obtain ⟨hE, h1, h2, h3, h4⟩ := (hasB_iff _ _ _ _ _ _).1 hh
  obtain ⟨⟨g1, g2, g3, g4⟩, g5, g6, g7, g8⟩ := (emptyB_iff _ _ _ _).1 hE
  have hlt : ((v : Int) - py).toNat * mw + ((u : Int) - px).toNat < zs.length := by rw [hl]; exact place_lt (by omega) (by omega)
  refine ⟨((u : Int) - px).toNat, ((v : Int) - py).toNat, ?_, ?_, by omega, by omega, hlt, ?_⟩
  · rw [IntWalk.i64_in _ (by omega)]; omega
  · rw [IntWalk.i64_in _ (by omega)]; omega
  · unfold blitF
    rw [List.getD_eq_getElem?_getD, List.getElem?_eq_getElem hlt]; rfl
set_option maxRecDepth 100000 in
set_option maxHeartbeats 4000000 in
theorem blit_c (g : Nat) (A : Option Nat) (W H : Nat) (c : Rc) (pix zs : List Int) (a b px py : Int) (s : Value) (w : World) (hC : Canv w g A W H c pix) (hs : RdA A w s zs) (hz : Cols zs) :
    Calls Try.prog 43 #[.pointer (some ⟨g, 0, none⟩), .agg #[.int .i64 a, .int .i64 b, s], .agg #[.int .i64 px, .int .i64 py]] w fun e' w' => e' = .returned (.tuple #[]) ∧
      Canv w' g A W H c (blitP W c a b px py zs pix) ∧ w.grownBy w' A := by
  obtain ⟨p, cc, rfl, hs2⟩ := hs
  have hR := fun W1 => right_pic a b p zs.length cc W1
  have HS := Lib.hid (show RdA A w (.slice p zs.length cc) zs from ⟨p, cc, rfl, hs2⟩)
  clear hs2
  cases hP : picB a b zs.length
  · rw [hP] at hR
    have HR := Lib.hid hR
    have HB := Lib.hid (show blitP W c a b px py zs pix = pix by unfold blitP; rw [hP]; rfl)
    rw [HB.out]
    clear hR hP
    have HC := Lib.hid hC
    clear hC
    go_enter Try.func43, Try.ntmps43
    go_wp2_with (go_at_call 35; refine (HR.out _).mono ?_; rintro e w1 ⟨rfl, hb⟩)
    refine bodyPost_ret (results_none rfl _ _ _) rfl ?_
    have hbw : Below w.heap.size w w1 := (((Below.refl _ w).alloc (Nat.le_refl _) _).alloc (by simp) _).trans (hb.mono (by simp; omega))
    exact ⟨rfl, HC.out.next hbw, only_of_below hbw A⟩
  · have hP' := hP
    unfold picB at hP'
    rw [decide_eq_true_eq] at hP'
    obtain ⟨⟨a1, a2⟩, ⟨b1, b2⟩, hl⟩ := hP'
    obtain ⟨mw, rfl⟩ := Int.eq_ofNat_of_zero_le a1
    obtain ⟨mh, rfl⟩ := Int.eq_ofNat_of_zero_le b1
    have hlen : zs.length = mw * mh := by rw [← Int.natCast_mul] at hl; omega
    rw [hP] at hR
    have HR := Lib.hid hR
    have HB := Lib.hid (show blitP W c mw mh px py zs pix = pnt W (fun i j => hasB px py mw mh i j && hasB c.x c.y c.w c.h i j) (blitF mw px py zs) pix by unfold blitP; rw [hP, if_pos rfl, Int.toNat_natCast])
    rw [HB.out]
    have hpaint : ∀ w2, Canv w2 g A W H c pix → w.grownBy w2 A → RdA A w2 (.slice p zs.length cc) zs → Blk w2 w.heap.size 54 #[.int .i64 mw, .int .i64 mh, .slice p zs.length cc] → Blk w2 (w.heap.size + 1) 32 #[.int .i64 px, .int .i64 py] →
        Calls Try.prog 72 #[.pointer (some ⟨g, 0, none⟩), .agg #[.int .i64 px, .int .i64 py, .int .i64 mw, .int .i64 mh], .func (.func 75) #[] #[.pointer (some ⟨w.heap.size, 0, none⟩), .pointer (some ⟨w.heap.size + 1, 0, none⟩)]] w2 fun e' w' => e' = .returned (.tuple #[]) ∧
          Canv w' g A W H c (pnt W (fun i j => hasB px py mw mh i j && hasB c.x c.y c.w c.h i j) (blitF mw px py zs) pix) ∧ w.grownBy w' A := by
      intro w2 hC2 hg2 hS2 hm2 ha2
      refine (paint_c g A W H c pix px py mw mh 75 #[.pointer (some ⟨w.heap.size, 0, none⟩), .pointer (some ⟨w.heap.size + 1, 0, none⟩)] (blitF mw px py zs) w2 hC2 (enters_of Try.func75 (by kernel_rfl) rfl) (fun W1 u v k hg hh _ _ _ => ?_) (fun u v k hh _ _ _ => ?_)).mono fun e' w' h => ⟨h.1, h.2.1, only_trans hg2 h.2.2⟩
      · obtain ⟨u', v', e1, e2, e3, e4, e5, e6⟩ := blit_at (k := k) hlen hh
        obtain ⟨p', c', e7, e8⟩ := hS2.grown hg
        simp only [Value.slice.injEq, true_and] at e7
        obtain ⟨bb, bo, e9, e10, _, e11⟩ := e8 _ _ e6
        have e12 : p = some ⟨bb, bo, none⟩ := e7.1.trans e9
        subst e12
        exact blitc_c u v px py k u' v' mw mh w.heap.size (w.heap.size + 1) bb bo cc zs.length _ _ W1 (hm2.grown hg (hC.box (Nat.le_refl _))) (ha2.grown hg (hC.box (by omega))) e1 e2 (by omega) (by omega) (by omega) rfl e5 e11 e10
      · obtain ⟨u', v', _, _, _, _, _, e6⟩ := blit_at (k := k) hlen hh
        exact hz _ (List.mem_of_getElem? e6)
    have HP := Lib.hid hpaint
    have HC := Lib.hid hC
    clear hR hP hpaint hC hl hlen
    have hmf : ∀ (fn : Fn) (first cap : Array Value) (w : World), (Instr.makeFunc fn first cap).run Try.prog w = .ok (.func fn first cap) w := fun _ _ _ _ => rfl
    go_enter Try.func43, Try.ntmps43
    go_wp2_with (first
      | (go_at_call 35; refine (HR.out _).mono ?_; rintro e w1 ⟨rfl, hb⟩; have hbw : Below w.heap.size w w1 := (((Below.refl _ w).alloc (Nat.le_refl _) _).alloc (by simp) _).trans (hb.mono (by simp; omega)); have R0 := ((Blk.new w 54 #[.int .i64 mw, .int .i64 mh, .slice p zs.length cc]).alloc (.cells #[.int .i64 px, .int .i64 py] 32)).next hb; have R1 : Blk w1 (w.heap.size + 1) 32 #[.int .i64 px, .int .i64 py] := (by have h := (Blk.new (w.alloc (.cells #[.int .i64 mw, .int .i64 mh, .slice p zs.length cc] 54)) 32 #[.int .i64 px, .int .i64 py]).next hb; simpa using h); obtain ⟨⟨c0, c1, c2⟩, _⟩ := R0.c3; obtain ⟨⟨d0, d1⟩, _⟩ := R1.c2; clear hb)
      | (go_at_call 74; refine (sized_c _ _ _ _ _ _).mono ?_; rintro e w2 ⟨rfl, hb⟩; have hbw2 := hbw.trans (hb.mono hbw.size); have Q0 := R0.next hb; have Q1 := R1.next hb; clear hb)
      | (go_at_call 72; refine (HP.out w2 (HC.out.next hbw2) (only_of_below hbw2 A) (HS.out.next hbw2) Q0 Q1).mono ?_; rintro e w3 ⟨rfl, hC3, hg3⟩))
    go_end0
    exact ⟨rfl, hC3, hg3⟩
end Go.Proofs.Ytjgleibbhgfcpaa
