import Derived.Test.YtjgleibbhgfcpaaRcI
import Derived.Test.YtjgleibbhgfcpaaRcK
import Derived.Test.YtjgleibbhgfcpaaRbC
import Derived.LoopTactic
namespace Go.Proofs.Ytjgleibbhgfcpaa
open Go.RowKit Go.Shelf
/-- Both canvases: block rb has the reference's, its colours in row G. -/
def Lst (w0 : World) (g bb W H : Nat) (C : Rc) (pix : List Int) (rb : Nat) (R : Array Value) (G n : Nat) (pb : Nat) (Q : Array Value) (wx : World) : Prop :=
  Canv wx g (some bb) W H C pix ∧ Blk wx rb 56 R ∧ Row wx G n pix ∧ Blk wx pb 32 Q ∧ Below w0.heap.size w0 wx ∧
    w0.heap.size ≤ g ∧ w0.heap.size ≤ bb ∧ w0.heap.size ≤ rb ∧ w0.heap.size ≤ G ∧ G ≠ bb
section
variable {w0 wx w1 : World} {g bb W H rb G G' n pb : Nat} {C C' : Rc} {pix pix' : List Int} {R R' Q : Array Value}
theorem Lst.next (h : Lst w0 g bb W H C pix rb R G n pb Q wx) (hb : Below wx.heap.size wx w1) : Lst w0 g bb W H C pix rb R G n pb Q w1 :=
  ⟨h.1.next hb, h.2.1.next hb, h.2.2.1.next hb, h.2.2.2.1.next hb, h.2.2.2.2.1.trans (hb.mono h.2.2.2.2.1.size), h.2.2.2.2.2⟩
theorem Lst.drew (h : Lst w0 g bb W H C pix rb R G n pb Q wx) : Lst w0 g bb W H C pix rb R G n pb Q wx.drew := ⟨h.1, h.2.1, h.2.2.1, h.2.2.2.1, h.2.2.2.2.1.drew, h.2.2.2.2.2⟩
theorem Lst.img {v0 v1 v2 v3 v4 v5 v6 : Value} (h : Lst w0 g bb W H C pix rb #[v0, v1, v2, v3, v4, v5, v6] G n pb Q wx) : wx.cell? ⟨rb, 0, none⟩ = some v0 ∧ wx.cell? ⟨rb, 1, none⟩ = some v1 ∧ wx.cell? ⟨rb, 2, none⟩ = some v2 :=
  ⟨h.2.1.at_ (i := 0) rfl, h.2.1.at_ (i := 1) rfl, h.2.1.at_ (i := 2) rfl⟩
theorem row_kept {N : Nat → Prop} {b : Nat} {zs : List Int} (h : Row wx b n zs) (k : Kept N wx w1) (hn : N b) : Row w1 b n zs := by
  obtain ⟨cur, h1, h2⟩ := h
  exact ⟨cur, k.blk h1 hn, h2⟩
/-- Behind a thing painted on the canvas: the reference's is as it was. -/
def Mst (w0 : World) (g bb W H : Nat) (C' : Rc) (pix' pix : List Int) (rb : Nat) (R : Array Value) (G n : Nat) (pb : Nat) (Q : Array Value) (wx : World) : Prop :=
  Canv wx g (some bb) W H C' pix' ∧ Blk wx rb 56 R ∧ Row wx G n pix ∧ Blk wx pb 32 Q ∧ Below w0.heap.size w0 wx ∧
    w0.heap.size ≤ g ∧ w0.heap.size ≤ bb ∧ w0.heap.size ≤ rb ∧ w0.heap.size ≤ G ∧ G ≠ bb
theorem Lst.step (h : Lst w0 g bb W H C pix rb R G n pb Q wx) (hC : Canv w1 g (some bb) W H C' pix') (k : Kept (Off g (some bb)) wx w1) : Mst w0 g bb W H C' pix' pix rb R G n pb Q w1 := by
  obtain ⟨h1, h2, h3, h4, h5, h6, h7, h8, h9, h10⟩ := h
  have off : ∀ {i}, i ≠ g → i ≠ bb → Off g (some bb) i := fun hg hb => ⟨hg, fun e => hb (by injection e)⟩
  have n1 : rb ≠ g := h2.ne_ h1.1 (by decide)
  have n2 : rb ≠ bb := h2.ne_ (h1.2.1 bb rfl) (by decide)
  have n3 : G ≠ g := fun e => h3.ne_ h1.1 (by decide) e.symm
  have n4 : pb ≠ g := h4.ne_ h1.1 (by decide)
  have n5 : pb ≠ bb := h4.ne_ (h1.2.1 bb rfl) (by decide)
  have b1 : Below w0.heap.size w0 w1 := Kept.below h5 k h5.size (fun i hi => off (by omega) (by omega))
  have k2 := k.blk h2 (off n1 n2)
  have k3 := row_kept h3 k (off n3 h10)
  have k4 := k.blk h4 (off n4 n5)
  exact ⟨hC, k2, k3, k4, b1, h6, h7, h8, h9, h10⟩
theorem Mst.next (h : Mst w0 g bb W H C' pix' pix rb R G n pb Q wx) (hb : Below wx.heap.size wx w1) : Mst w0 g bb W H C' pix' pix rb R G n pb Q w1 :=
  ⟨h.1.next hb, h.2.1.next hb, h.2.2.1.next hb, h.2.2.2.1.next hb, h.2.2.2.2.1.trans (hb.mono h.2.2.2.2.1.size), h.2.2.2.2.2⟩
theorem Mst.drew (h : Mst w0 g bb W H C' pix' pix rb R G n pb Q wx) : Mst w0 g bb W H C' pix' pix rb R G n pb Q wx.drew := ⟨h.1, h.2.1, h.2.2.1, h.2.2.2.1, h.2.2.2.2.1.drew, h.2.2.2.2.2⟩
theorem Mst.to (h : Mst w0 g bb W H C' pix' pix rb R G n pb Q wx) (hG : Row wx G' n pix') (hG2 : w0.heap.size ≤ G') (hG3 : G' ≠ bb) : Lst w0 g bb W H C' pix' rb R G' n pb Q wx :=
  ⟨h.1, h.2.1, hG, h.2.2.2.1, h.2.2.2.2.1, h.2.2.2.2.2.1, h.2.2.2.2.2.2.1, h.2.2.2.2.2.2.2.1, hG2, hG3⟩
theorem Lst.rset (h : Lst w0 g bb W H C pix rb R G n pb Q wx) (i : Nat) (v : Value) : Lst w0 g bb W H C pix rb (R.setIfInBounds i v) G n pb Q (wx.setCell ⟨rb, i, none⟩ v) := by
  obtain ⟨h1, h2, h3, h4, h5, h6, h7, h8, h9, h10⟩ := h
  exact ⟨⟨h1.1.far (h1.1.ne_ h2 (by decide)) _, fun b hb => (h1.2.1 b hb).far ((h1.2.1 b hb).ne_ h2 (by decide)) _, h1.2.2⟩, h2.set_ i v, h3.far (fun e => h3.ne_ h2 (by decide) e.symm) _, h4.far (h4.ne_ h2 (by decide)) _, h5.setCell h8 _, h6, h7, h8, h9, h10⟩
theorem Lst.row (h : Lst w0 g bb W H C pix rb R G n pb Q wx) (e : R = R') : Lst w0 g bb W H C pix rb R' G n pb Q wx := e ▸ h
theorem Lst.seven (h : Lst w0 g bb W H C pix rb R G n pb Q wx) (hR : R.size = 7) (v0 v1 v2 v3 v4 v5 v6 : Value) :
    Lst w0 g bb W H C pix rb #[v0, v1, v2, v3, v4, v5, v6] G n pb Q (((((((wx.setCell ⟨rb, 0, none⟩ v0).setCell ⟨rb, 1, none⟩ v1).setCell ⟨rb, 2, none⟩ v2).setCell ⟨rb, 3, none⟩ v3).setCell ⟨rb, 4, none⟩ v4).setCell ⟨rb, 5, none⟩ v5).setCell ⟨rb, 6, none⟩ v6) := by
  have e : ((((((R.setIfInBounds 0 v0).setIfInBounds 1 v1).setIfInBounds 2 v2).setIfInBounds 3 v3).setIfInBounds 4 v4).setIfInBounds 5 v5).setIfInBounds 6 v6 = #[v0, v1, v2, v3, v4, v5, v6] := by
    obtain ⟨l⟩ := R
    match l, hR with
    | [a0, a1, a2, a3, a4, a5, a6], _ => simp
  have k0 := h.rset 0 v0
  have k1 := k0.rset 1 v1
  have k2 := k1.rset 2 v2
  have k3 := k2.rset 3 v3
  have k4 := k3.rset 4 v4
  have k5 := k4.rset 5 v5
  have k6 := k5.rset 6 v6
  exact k6.row e
end
/-- One of the things painted, as it lies in memory below B. -/
def Est (B eb eo : Nat) (t : Pt) (s : Value) (wx : World) : Prop := eb < B ∧ ∀ (i : Nat) (u : Value), (t.cells s)[i]? = some u → wx.cell? ⟨eb, eo + i, none⟩ = some u
theorem Est.below {B eb eo : Nat} {t : Pt} {s : Value} {wx w1 : World} (h : Est B eb eo t s wx) (hb : Below B wx w1) : Est B eb eo t s w1 := ⟨h.1, fun i u hu => (hb.cell (p := ⟨eb, eo + i, none⟩) h.1).trans (h.2 i u hu)⟩
theorem Est.drew {B eb eo : Nat} {t : Pt} {s : Value} {wx : World} (h : Est B eb eo t s wx) : Est B eb eo t s wx.drew := h
theorem Est.out {B eb eo k : Nat} {t : Pt} {s : Value} {wx : World} (h : Est B eb (eo + k * 10) t s wx) : wx.cell? ⟨eb, eo + k * 10, none⟩ = some (.int .i64 t.k) ∧ wx.cell? ⟨eb, eo + k * 10 + 1, none⟩ = some (.int .i64 t.x) ∧ wx.cell? ⟨eb, eo + k * 10 + 2, none⟩ = some (.int .i64 t.y) ∧ wx.cell? ⟨eb, eo + k * 10 + 3, none⟩ = some (.int .i64 t.a) ∧ wx.cell? ⟨eb, eo + k * 10 + 4, none⟩ = some (.int .i64 t.e) ∧ wx.cell? ⟨eb, eo + k * 10 + 5, none⟩ = some (.int .u32 t.col) ∧ wx.cell? ⟨eb, eo + k * 10 + 6, none⟩ = some (.int .i64 t.wd) ∧ wx.cell? ⟨eb, eo + k * 10 + 7, none⟩ = some (.int .i64 t.mw) ∧ wx.cell? ⟨eb, eo + k * 10 + 8, none⟩ = some (.int .i64 t.mh) ∧ wx.cell? ⟨eb, eo + k * 10 + 9, none⟩ = some (s) :=
  ⟨h.2 0 _ rfl, h.2 1 _ rfl, h.2 2 _ rfl, h.2 3 _ rfl, h.2 4 _ rfl, h.2 5 _ rfl, h.2 6 _ rfl, h.2 7 _ rfl, h.2 8 _ rfl, h.2 9 _ rfl⟩
theorem Est.img {B eb eo k : Nat} {t : Pt} {wx : World} {ep : Option Addr} {em ec : Nat} (h : Est B eb (eo + k * 10) t (.slice ep em ec) wx) :
    wx.cell? ⟨eb, eo + k * 10 + 7, none⟩ = some (.int .i64 t.mw) ∧ wx.cell? ⟨eb, eo + k * 10 + 8, none⟩ = some (.int .i64 t.mh) ∧ wx.cell? ⟨eb, eo + k * 10 + 9, none⟩ = some (.slice ep em ec) :=
  ⟨h.2 7 _ rfl, h.2 8 _ rfl, h.2 9 _ rfl⟩
set_option maxRecDepth 100000 in
set_option maxHeartbeats 16000000 in
theorem paints_good (W H : Nat) (col x y : Int) (v : Value) (ts : List Pt) (w : World) (hW : W ≤ 60) (hH : H ≤ 60) (hcol : 0 ≤ col ∧ col < 4294967296) (hv : IsPaints w.heap.size w v ts) :
    Calls Try.prog 10 #[.int .i64 W, .int .i64 H, .int .u32 col, v, .agg #[.int .i64 x, .int .i64 y]] w fun e' w' => e' = .returned (.bool true) ∧ Below w.heap.size w w' := by
  obtain ⟨p, cp, rfl, hn, hts⟩ := hv
  obtain ⟨n, hn'⟩ : ∃ n, n = ts.length := ⟨_, rfl⟩
  have HV := Lib.hid (show IsPaints w.heap.size w (.slice p ts.length cp) ts from ⟨p, cp, rfl, hn, hts⟩)
  rw [← hn'] at hn ⊢
  have HN := Lib.hid hn'
  obtain ⟨n2, hn2⟩ : ∃ n2, n2 = W * H := ⟨_, rfl⟩
  have HN2 := Lib.hid hn2
  have hnb : n2 ≤ 3600 := by rw [hn2]; exact Nat.le_trans (Nat.mul_le_mul hW hH) (by omega)
  have HRN := Lib.hid (fun W1 => rnew_y2 W H col W1 (by omega) (by omega))
  have HNN := Lib.hid (fun W1 => new_yes W H col W1 (by omega) (by omega) hcol)
  rw [← hn2] at HRN HNN
  clear hts hn' hn2
  have a1 : ¬ 60 < (W : Int) := by omega
  have a2 : ¬ 60 < (H : Int) := by omega
  go_enter Try.func10, Try.ntmps10
  go_wp2_with (first
    | (go_at_call 31; refine (HNN.out _).mono ?_; rintro e1 w1 ⟨g, bb, rfl, hC1, hg1, hbb1, hb1⟩)
    | (go_at_call 32; refine (HRN.out _).mono ?_; rintro e2 w2 ⟨G, rfl, hR2, hG2, hb2⟩))
  have hs1 := hb1.size
  have hs2 := hb2.size
  have hbl := (hC1.2.1 bb rfl).lt
  simp at hg1 hbb1 hs1
  have L0 : Lst w g bb W H (int ⟨0, 0, W, H⟩ ⟨0, 0, W, H⟩) (List.replicate n2 col) w2.heap.size #[.int .i64 W, .int .i64 H, .slice (some ⟨G, 0, none⟩) n2 n2, .int .i64 0, .int .i64 0, .int .i64 W, .int .i64 H] G n2 w.heap.size #[.int .i64 x, .int .i64 y] (w2.alloc (.cells #[.int .i64 W, .int .i64 H, .slice (some ⟨G, 0, none⟩) n2 n2, .int .i64 0, .int .i64 0, .int .i64 W, .int .i64 H] 56)) :=
    ⟨(hC1.next hb2).alloc _, Blk.new _ _ _, hR2.next ((Below.refl _ _).alloc (Nat.le_refl _) _), (((Blk.new w _ _).next hb1).next hb2).alloc _, ((((Below.refl _ w).alloc (Nat.le_refl _) _).trans (hb1.mono (by simp))).trans (hb2.mono (by omega))).alloc (by omega) _, by omega, by omega, by omega, by omega, by omega⟩
  have hCD := clip_first W H
  clear hC1 hg1 hbb1 hb1 hR2 hG2 hb2 hs1 hs2 hbl
  generalize w2.alloc (.cells #[.int .i64 W, .int .i64 H, .slice (some ⟨G, 0, none⟩) n2 n2, .int .i64 0, .int .i64 0, .int .i64 W, .int .i64 H] 56) = wa at L0 ⊢
  generalize w2.heap.size = rb at L0 ⊢
  generalize int ⟨0, 0, W, H⟩ ⟨0, 0, W, H⟩ = C0 at L0 hCD
  go_loopw [15] (fun z wr => ∃ k : Nat, z = .int .i64 k ∧ k ≤ n ∧ ∃ (C D : Rc) (pix : List Int) (G cap : Nat), Alike2 C D ∧ Lst w g bb W H C pix rb #[.int .i64 W, .int .i64 H, .slice (some ⟨G, 0, none⟩) n2 cap, .int .i64 D.x, .int .i64 D.y, .int .i64 D.w, .int .i64 D.h] G n2 w.heap.size #[.int .i64 x, .int .i64 y] wr) (fun z _ => n - (intOf z).toNat)
  case atStart => exact ⟨0, rfl, Nat.zero_le _, C0, ⟨0, 0, W, H⟩, _, G, n2, hCD, L0⟩
  case round =>
    clear L0 hCD
    obtain ⟨k, rfl, hk, C, D, pix, G, cap, hCD, L2⟩ := hrel
    have HCD := Lib.hid hCD
    clear hCD
    by_cases hlt : k < n ∧ k < 20
    · obtain ⟨hlt, hl20⟩ := hlt
      obtain ⟨t, ht⟩ : ∃ t, ts[k]? = some t := ⟨_, List.getElem?_eq_getElem (by rw [← HN.out]; exact hlt)⟩
      obtain ⟨p', cp', hpe, _, hts⟩ := HV.out
      simp only [Value.slice.injEq] at hpe
      obtain ⟨eb, eo, s, hp', hbb, hcell, hz, hok⟩ := hts k t ht
      have hpp : p = some ⟨eb, eo, none⟩ := hpe.1.trans hp'
      subst hpp
      clear hpe hts hp'
      have E2 : Est w.heap.size eb (eo + k * 10) t s wr := (show Est w.heap.size eb (eo + k * 10) t s w from ⟨hbb, hcell⟩).below L2.2.2.2.2.1
      have hD := does_c g (some bb) W H C pix t s wr L2.1 ((hz.below L2.2.2.2.2.1).rdA L2.2.2.2.2.1.size (fun b' hb' => by injection hb' with hb'; have := L2.2.2.2.2.2.2.1; omega)) hok
      unfold Pt.val at hD
      have HD := Lib.hid hD
      have hcols : Cols pix := L2.1.2.2.2.2.1
      have hlenp : pix.length = W * H := L2.1.2.2.2.1
      have hRD : ∀ wx, Row wx G n2 pix → Below w.heap.size w wx → Calls Try.prog 34 #[cvA W H G n2 cap D, t.val s] wx fun e' w' => ∃ G' cap', e' = .returned (cvA W H G' n2 cap' (refClip W H D t)) ∧ Row w' G' n2 (refPix W D t pix) ∧ (G' = G ∨ wx.heap.size ≤ G') ∧ Below wx.heap.size wx w' := by
        intro wx hR hb
        exact rdoes_c W H G n2 cap D pix t s wx (by omega) (by omega) HN2.out hR hcols (by
          obtain ⟨q, c', f1, f2, f3⟩ := hz.below hb
          exact ⟨q, c', f1, f2, fun j u hu => by obtain ⟨b', o', g1, g2, g3⟩ := f3 j u hu; exact ⟨b', o', g1, by have := hb.size; omega, g3⟩⟩) hok
      unfold Pt.val cvA at hRD
      have HRD := Lib.hid hRD
      have HST := Lib.hid (step_ref (C := C) (D := D) (t := t) hlenp HCD.out hok)
      have HCL := Lib.hid (clip_ref (W := W) (H := H) (t := t) HCD.out)
      obtain ⟨ep, ec, rfl, _, _⟩ := hz
      obtain ⟨em, hem⟩ : ∃ em, em = t.zs.length := ⟨_, rfl⟩
      have hP1 := fun W1 => right_pic t.mw t.mh ep t.zs.length ec W1
      have hP2 := fun W1 => rright_pic t.mw t.mh ep t.zs.length ec W1
      generalize picB t.mw t.mh t.zs.length = pbv at hP1 hP2
      rw [← hem] at hP1 hP2 HD HRD E2
      have HP1 := Lib.hid hP1
      have HP2 := Lib.hid hP2
      clear hD hcell hok ht hRD hcols hlenp hP1 hP2 hem
      have hi0 : (0 : Int) ≤ (k : Int) := by omega
      have hi1 : (k : Int) < (n : Int) := by omega
      obtain ⟨d0, d1, d2, d3, d4, d5, d6, d7, d8, d9⟩ := E2.out
      go_wp2_with (go_at_call 33; refine HD.out.mono ?_; rintro e3 w3 ⟨rfl, hC3, hk3⟩)
      have L3 := L2.step hC3 hk3
      have E3 := E2.below (Kept.below (Below.refl w.heap.size wr) hk3 L2.2.2.2.2.1.size (fun i hi => ⟨by have := L2.2.2.2.2.2.1; omega, fun e => by injection e with e; have := L2.2.2.2.2.2.2.1; omega⟩))
      have hlow := L2.2.2.2.2.1.size
      have hbbw := (L2.1.2.1 bb rfl).lt
      have hk3s := hk3.2.2.2.1
      clear hC3 hk3 L2 E2 d0 d1 d2 d3 d4 d5 d6 d7 d8 d9
      obtain ⟨⟨r0, r1, r2, r3, r4, r5, r6⟩, _⟩ := L3.2.1.c7
      refine wp_region_noPanic ?_
      refine wp_region_held_drew (S := fun wx => wx.cell? ⟨eb, eo + k * 10, none⟩ = some (.int .i64 t.k) ∧ wx.cell? ⟨eb, eo + k * 10 + 1, none⟩ = some (.int .i64 t.x) ∧ wx.cell? ⟨eb, eo + k * 10 + 2, none⟩ = some (.int .i64 t.y) ∧ wx.cell? ⟨eb, eo + k * 10 + 3, none⟩ = some (.int .i64 t.a) ∧ wx.cell? ⟨eb, eo + k * 10 + 4, none⟩ = some (.int .i64 t.e) ∧ wx.cell? ⟨eb, eo + k * 10 + 5, none⟩ = some (.int .u32 t.col) ∧ wx.cell? ⟨eb, eo + k * 10 + 6, none⟩ = some (.int .i64 t.wd) ∧ wx.cell? ⟨eb, eo + k * 10 + 7, none⟩ = some (.int .i64 t.mw) ∧ wx.cell? ⟨eb, eo + k * 10 + 8, none⟩ = some (.int .i64 t.mh) ∧ wx.cell? ⟨eb, eo + k * 10 + 9, none⟩ = some (.slice ep em ec)) (by kernel_rfl) (by exact E3.drew.out) (fun hHeld => ?_)
      refine wpAnyH_take (i := 1) (v := ?ve1) rfl (by kernel_rfl) (by kernel_rfl) (by kernel_rfl) (fun _ _ _ h => h) (Or.inl ⟨by kernel_rfl, ?ye1⟩) (by assumption) ?re1
      case ye1 => (intro wq hSw; (try dsimp only at hSw); go_simp; (try with_reducible rfl))
      (try simp only [Act.put, List.getElem_toArray, List.getElem_cons_succ, List.getElem_cons_zero, List.setIfInBounds_toArray, List.set_cons_zero, List.set_cons_succ])
      refine wpAnyH_take (i := 2) (v := ?ve2) rfl (by kernel_rfl) (by kernel_rfl) (by kernel_rfl) (fun _ _ _ h => h) (Or.inl ⟨by kernel_rfl, ?ye2⟩) (by assumption) ?re2
      case ye2 => (intro wq hSw; (try dsimp only at hSw); go_simp; (try with_reducible rfl))
      (try simp only [Act.put, List.getElem_toArray, List.getElem_cons_succ, List.getElem_cons_zero, List.setIfInBounds_toArray, List.set_cons_zero, List.set_cons_succ])
      refine wpAnyH_take (i := 3) (v := ?ve3) rfl (by kernel_rfl) (by kernel_rfl) (by kernel_rfl) (fun _ _ _ h => h) (Or.inl ⟨by kernel_rfl, ?ye3⟩) (by assumption) ?re3
      case ye3 => (intro wq hSw; (try dsimp only at hSw); go_simp; (try with_reducible rfl))
      (try simp only [Act.put, List.getElem_toArray, List.getElem_cons_succ, List.getElem_cons_zero, List.setIfInBounds_toArray, List.set_cons_zero, List.set_cons_succ])
      refine wpAnyH_take (i := 4) (v := ?ve4) rfl (by kernel_rfl) (by kernel_rfl) (by kernel_rfl) (fun _ _ _ h => h) (Or.inl ⟨by kernel_rfl, ?ye4⟩) (by assumption) ?re4
      case ye4 => (intro wq hSw; (try dsimp only at hSw); go_simp; (try with_reducible rfl))
      (try simp only [Act.put, List.getElem_toArray, List.getElem_cons_succ, List.getElem_cons_zero, List.setIfInBounds_toArray, List.set_cons_zero, List.set_cons_succ])
      refine wpAnyH_ready (rs := [0]) (by kernel_rfl) (by simp) ?_
      refine AllReadyH.cons rfl (fun K hK => ?_) AllReadyH.nil
      go_simp
      refine hK.out _ _ (by exact E3.drew.out) (fun hHeld => ?_)
      clear hK K
      (try simp only [Act.put, List.getElem_toArray, List.getElem_cons_succ, List.getElem_cons_zero, List.setIfInBounds_toArray, List.set_cons_zero, List.set_cons_succ])
      refine wpAnyH_ready (rs := [5]) (by kernel_rfl) (by simp) ?_
      refine AllReadyH.cons rfl (fun K hK => ?_) AllReadyH.nil
      go_simp
      refine (HRD.out w3.drew L3.drew.2.2.1 L3.drew.2.2.2.2.1).mono ?_
      rintro e4 w4 ⟨G', cap', rfl, hR4, hG4, hb4⟩; have E4 := E3.drew.below (hb4.mono L3.drew.2.2.2.2.1.size); have L4 := (L3.drew.next hb4).to (by rw [HST.out]; exact hR4) (by rcases hG4 with rfl | hG4; (exact L3.2.2.2.2.2.2.2.2.1); (have := L3.drew.2.2.2.2.1.size; omega)) (by rcases hG4 with rfl | hG4; (exact L3.2.2.2.2.2.2.2.2.2); (have : w3.drew.heap.size = w3.heap.size := rfl; omega)); clear hb4 hR4; obtain ⟨⟨q0, q1, q2, q3, q4, q5, q6⟩, f0, f1, f2, f3, f4, f5, f6⟩ := L4.2.1.c7
      (try dsimp only)
      refine hK.out _ _ (by exact E4.out) (fun hHeld => ?_)
      clear hK K
      (try simp only [Act.put, List.getElem_toArray, List.getElem_cons_succ, List.getElem_cons_zero, List.setIfInBounds_toArray, List.set_cons_zero, List.set_cons_succ])
      refine wpAnyH_ready (rs := [6]) (by kernel_rfl) (by simp) ?_
      refine AllReadyH.cons rfl (fun K hK => ?_) AllReadyH.nil
      go_simp
      refine hK.out _ _ (by exact (E4.below (((((((((Below.refl _ _).setCell (p := ⟨rb, 0, none⟩) L4.2.2.2.2.2.2.2.1 _).setCell (p := ⟨rb, 1, none⟩) L4.2.2.2.2.2.2.2.1 _).setCell (p := ⟨rb, 2, none⟩) L4.2.2.2.2.2.2.2.1 _).setCell (p := ⟨rb, 3, none⟩) L4.2.2.2.2.2.2.2.1 _).setCell (p := ⟨rb, 4, none⟩) L4.2.2.2.2.2.2.2.1 _).setCell (p := ⟨rb, 5, none⟩) L4.2.2.2.2.2.2.2.1 _).setCell (p := ⟨rb, 6, none⟩) L4.2.2.2.2.2.2.2.1 _))).out) (fun hHeld => ?_)
      clear hK K
      (try simp only [Act.put, List.getElem_toArray, List.getElem_cons_succ, List.getElem_cons_zero, List.setIfInBounds_toArray, List.set_cons_zero, List.set_cons_succ])
      refine wpAnyH_done (by kernel_rfl) ?_ _
      refine NoPanic.normal ?_
      have L5 := L4.seven rfl (.int .i64 W) (.int .i64 H) (.slice (some ⟨G', 0, none⟩) n2 cap') (.int .i64 (refClip W H D t).x) (.int .i64 (refClip W H D t).y) (.int .i64 (refClip W H D t).w) (.int .i64 (refClip W H D t).h)
      have E5 := E4.below (((((((((Below.refl w.heap.size w4).setCell (p := ⟨rb, 0, none⟩) L4.2.2.2.2.2.2.2.1 (.int .i64 W)).setCell (p := ⟨rb, 1, none⟩) L4.2.2.2.2.2.2.2.1 (.int .i64 H)).setCell (p := ⟨rb, 2, none⟩) L4.2.2.2.2.2.2.2.1 (.slice (some ⟨G', 0, none⟩) n2 cap')).setCell (p := ⟨rb, 3, none⟩) L4.2.2.2.2.2.2.2.1 (.int .i64 (refClip W H D t).x)).setCell (p := ⟨rb, 4, none⟩) L4.2.2.2.2.2.2.2.1 (.int .i64 (refClip W H D t).y)).setCell (p := ⟨rb, 5, none⟩) L4.2.2.2.2.2.2.2.1 (.int .i64 (refClip W H D t).w)).setCell (p := ⟨rb, 6, none⟩) L4.2.2.2.2.2.2.2.1 (.int .i64 (refClip W H D t).h)))
      clear hHeld q0 q1 q2 q3 q4 q5 q6 f0 f1 f2 f3 f4 f5 f6 r0 r1 r2 r3 r4 r5 r6 L3 E3 E4
      generalize ((((((w4.setCell ⟨rb, 0, none⟩ (.int .i64 W)).setCell ⟨rb, 1, none⟩ (.int .i64 H)).setCell ⟨rb, 2, none⟩ (.slice (some ⟨G', 0, none⟩) n2 cap')).setCell ⟨rb, 3, none⟩ (.int .i64 (refClip W H D t).x)).setCell ⟨rb, 4, none⟩ (.int .i64 (refClip W H D t).y)).setCell ⟨rb, 5, none⟩ (.int .i64 (refClip W H D t).w)).setCell ⟨rb, 6, none⟩ (.int .i64 (refClip W H D t).h) = w5 at L5 E5 ⊢
      clear L4
      go_wp2
      refine wp_region_noPanic ?_
      refine wp_region_held_drew (S := fun wx => wx.cell? ⟨eb, eo + k * 10 + 7, none⟩ = some (.int .i64 t.mw) ∧ wx.cell? ⟨eb, eo + k * 10 + 8, none⟩ = some (.int .i64 t.mh) ∧ wx.cell? ⟨eb, eo + k * 10 + 9, none⟩ = some (.slice ep em ec)) (by kernel_rfl) (by exact E5.drew.img) (fun hHeld => ?_)
      refine wpAnyH_take (i := 0) (v := ?vf0) rfl (by kernel_rfl) (by kernel_rfl) (by kernel_rfl) (fun _ _ _ h => h) (Or.inl ⟨by kernel_rfl, ?yf0⟩) (by assumption) ?rf0
      case yf0 => (intro wq hSw; (try dsimp only at hSw); go_simp; (try with_reducible rfl))
      (try simp only [Act.put, List.getElem_toArray, List.getElem_cons_zero, List.setIfInBounds_toArray, List.set_cons_zero, List.set_cons_succ])
      refine wpAnyH_take (i := 1) (v := ?vf1) rfl (by kernel_rfl) (by kernel_rfl) (by kernel_rfl) (fun _ _ _ h => h) (Or.inl ⟨by kernel_rfl, ?yf1⟩) (by assumption) ?rf1
      case yf1 => (intro wq hSw; (try dsimp only at hSw); go_simp; (try with_reducible rfl))
      (try simp only [Act.put, List.getElem_toArray, List.getElem_cons_succ, List.getElem_cons_zero, List.setIfInBounds_toArray, List.set_cons_zero, List.set_cons_succ])
      refine wpAnyH_take (i := 2) (v := ?vf2) rfl (by kernel_rfl) (by kernel_rfl) (by kernel_rfl) (fun _ _ _ h => h) (Or.inl ⟨by kernel_rfl, ?yf2⟩) (by assumption) ?rf2
      case yf2 => (intro wq hSw; (try dsimp only at hSw); go_simp; (try with_reducible rfl))
      (try simp only [Act.put, List.getElem_toArray, List.getElem_cons_succ, List.getElem_cons_zero, List.setIfInBounds_toArray, List.set_cons_zero, List.set_cons_succ])
      refine wpAnyH_take (i := 3) (v := ?vf3) rfl (by kernel_rfl) (by kernel_rfl) (by kernel_rfl) (fun _ _ _ h => h) (Or.inl ⟨by kernel_rfl, ?yf3⟩) (by assumption) ?rf3
      case yf3 => (intro wq hSw; (try dsimp only at hSw); go_simp; (try with_reducible rfl))
      (try simp only [Act.put, List.getElem_toArray, List.getElem_cons_succ, List.getElem_cons_zero, List.setIfInBounds_toArray, List.set_cons_zero, List.set_cons_succ])
      refine wpAnyH_take (i := 4) (v := ?vf4) rfl (by kernel_rfl) (by kernel_rfl) (by kernel_rfl) (fun _ _ _ h => h) (Or.inl ⟨by kernel_rfl, ?yf4⟩) (by assumption) ?rf4
      case yf4 => (intro wq hSw; (try dsimp only at hSw); go_simp; (try with_reducible rfl))
      (try simp only [Act.put, List.getElem_toArray, List.getElem_cons_succ, List.getElem_cons_zero, List.setIfInBounds_toArray, List.set_cons_zero, List.set_cons_succ])
      refine wpAnyH_take (i := 6) (v := ?vf6) rfl (by kernel_rfl) (by kernel_rfl) (by kernel_rfl) (fun _ _ _ h => h) (Or.inl ⟨by kernel_rfl, ?yf6⟩) (by assumption) ?rf6
      case yf6 => (intro wq hSw; (try dsimp only at hSw); go_simp; (try with_reducible rfl))
      (try simp only [Act.put, List.getElem_toArray, List.getElem_cons_succ, List.getElem_cons_zero, List.setIfInBounds_toArray, List.set_cons_zero, List.set_cons_succ])
      refine wpAnyH_take (i := 7) (v := ?vf7) rfl (by kernel_rfl) (by kernel_rfl) (by kernel_rfl) (fun _ _ _ h => h) (Or.inl ⟨by kernel_rfl, ?yf7⟩) (by assumption) ?rf7
      case yf7 => (intro wq hSw; (try dsimp only at hSw); go_simp; (try with_reducible rfl))
      (try simp only [Act.put, List.getElem_toArray, List.getElem_cons_succ, List.getElem_cons_zero, List.setIfInBounds_toArray, List.set_cons_zero, List.set_cons_succ])
      refine wpAnyH_take (i := 8) (v := ?vf8) rfl (by kernel_rfl) (by kernel_rfl) (by kernel_rfl) (fun _ _ _ h => h) (Or.inl ⟨by kernel_rfl, ?yf8⟩) (by assumption) ?rf8
      case yf8 => (intro wq hSw; (try dsimp only at hSw); go_simp; (try with_reducible rfl))
      (try simp only [Act.put, List.getElem_toArray, List.getElem_cons_succ, List.getElem_cons_zero, List.setIfInBounds_toArray, List.set_cons_zero, List.set_cons_succ])
      refine wpAnyH_take (i := 9) (v := ?vf9) rfl (by kernel_rfl) (by kernel_rfl) (by kernel_rfl) (fun _ _ _ h => h) (Or.inl ⟨by kernel_rfl, ?yf9⟩) (by assumption) ?rf9
      case yf9 => (intro wq hSw; (try dsimp only at hSw); go_simp; (try with_reducible rfl))
      (try simp only [Act.put, List.getElem_toArray, List.getElem_cons_succ, List.getElem_cons_zero, List.setIfInBounds_toArray, List.set_cons_zero, List.set_cons_succ])
      refine wpAnyH_take (i := 10) (v := ?vf10) rfl (by kernel_rfl) (by kernel_rfl) (by kernel_rfl) (fun _ _ _ h => h) (Or.inl ⟨by kernel_rfl, ?yf10⟩) (by assumption) ?rf10
      case yf10 => (intro wq hSw; (try dsimp only at hSw); go_simp; (try with_reducible rfl))
      (try simp only [Act.put, List.getElem_toArray, List.getElem_cons_succ, List.getElem_cons_zero, List.setIfInBounds_toArray, List.set_cons_zero, List.set_cons_succ])
      refine wpAnyH_ready (rs := [5]) (by kernel_rfl) (by simp) ?_
      refine AllReadyH.cons rfl (fun K hK => ?_) AllReadyH.nil
      go_simp
      refine (HP1.out _).mono ?_
      rintro e5 w6 ⟨rfl, hb6⟩; have E6 := E5.drew.below (hb6.mono L5.drew.2.2.2.2.1.size); have L6 := L5.drew.next hb6; clear hb6
      (try dsimp only)
      refine hK.out _ _ (by exact E6.img) (fun hHeld => ?_)
      clear hK K
      (try simp only [Act.put, List.getElem_toArray, List.getElem_cons_succ, List.getElem_cons_zero, List.setIfInBounds_toArray, List.set_cons_zero, List.set_cons_succ])
      refine wpAnyH_ready (rs := [11]) (by kernel_rfl) (by simp) ?_
      refine AllReadyH.cons rfl (fun K hK => ?_) AllReadyH.nil
      go_simp
      refine (HP2.out _).mono ?_
      rintro e6 w7 ⟨rfl, hb7⟩; have E7 := E6.below (hb7.mono L6.2.2.2.2.1.size); have L7 := L6.next hb7; clear hb7
      (try dsimp only)
      refine hK.out _ _ (by exact E7.img) (fun hHeld => ?_)
      clear hK K
      (try simp only [Act.put, List.getElem_toArray, List.getElem_cons_succ, List.getElem_cons_zero, List.setIfInBounds_toArray, List.set_cons_zero, List.set_cons_succ])
      refine wpAnyH_take (i := 12) (v := ?vf12) rfl (by kernel_rfl) (by kernel_rfl) (by kernel_rfl) (fun _ _ _ h => h) (Or.inl ⟨by kernel_rfl, ?yf12⟩) (by assumption) ?rf12
      case yf12 => (intro wq hSw; (try dsimp only at hSw); go_simp; (try with_reducible rfl))
      (try simp only [Act.put, List.getElem_toArray, List.getElem_cons_succ, List.getElem_cons_zero, List.setIfInBounds_toArray, List.set_cons_zero, List.set_cons_succ])
      refine wpAnyH_done (by kernel_rfl) ?_ _
      refine NoPanic.normal ?_
      clear hHeld E5 E6 E7
      go_wp2
      go_roundw
      case rel => exact ⟨k + 1, by go_num, by omega, _, _, _, G', cap', HCL.out, L7⟩
      case measure => simp [intOf]; omega
    · have hcase : ¬ k < n ∨ (k < n ∧ ¬ k < 20) := by omega
      clear hlt
      rcases hcase with hlt | ⟨hlt, hl20⟩
      · have HL2 := Lib.hid (show pix.length ≤ 1073741824 by rw [L2.1.2.2.2.1]; exact Nat.le_trans (Nat.mul_le_mul hW hH) (by omega))
        obtain ⟨⟨q0, q1⟩, _⟩ := L2.2.2.2.1.c2
        go_wp2_with (first
          | (go_at_call 37; refine (at_c g (some bb) W H C pix x y _ L2.1).mono ?_; rintro e5 w8 ⟨rfl, hb⟩; have L8 := L2.next hb; clear hb q0 q1 L2; obtain ⟨⟨q0, q1⟩, _⟩ := L8.2.2.2.1.c2; obtain ⟨⟨r0, r1, r2, r3, r4, r5, r6⟩, _⟩ := L8.2.1.c7)
          | (go_at_call 38; refine (rat_c W H G n2 cap _ _ _ _ pix x y _ (by omega) (by omega) HN2.out L8.2.2.1).mono ?_; rintro e6 w9 ⟨rfl, hb⟩; have L9 := L8.next hb; clear hb q0 q1 r0 r1 r2 r3 r4 r5 r6 L8))
        generalize atI W H pix x y = av
        generalize atB W H x y = bv
        refine wp_region_noPanic ?_
        refine wp_region_held_drew (S := fun wx => wx.cell? ⟨rb, 0, none⟩ = some (.int .i64 W) ∧ wx.cell? ⟨rb, 1, none⟩ = some (.int .i64 H) ∧ wx.cell? ⟨rb, 2, none⟩ = some (.slice (some ⟨G, 0, none⟩) n2 cap)) (by kernel_rfl) (by exact L9.drew.img) (fun hHeld => ?_)
        refine wpAnyH_take (i := 0) (v := ?vg0) rfl (by kernel_rfl) (by kernel_rfl) (by kernel_rfl) (fun _ _ _ h => h) (Or.inl ⟨by kernel_rfl, ?yg0⟩) (by assumption) ?rg0
        case yg0 => (intro wq hSw; (try dsimp only at hSw); go_simp; (try with_reducible rfl))
        (try simp only [Act.put, List.getElem_toArray, List.getElem_cons_zero, List.setIfInBounds_toArray, List.set_cons_zero, List.set_cons_succ])
        refine wpAnyH_take (i := 2) (v := ?vg2) rfl (by kernel_rfl) (by kernel_rfl) (by kernel_rfl) (fun _ _ _ h => h) (Or.inl ⟨by kernel_rfl, ?yg2⟩) (by assumption) ?rg2
        case yg2 => (intro wq hSw; (try dsimp only at hSw); go_simp; (try with_reducible rfl))
        (try simp only [Act.put, List.getElem_toArray, List.getElem_cons_succ, List.getElem_cons_zero, List.setIfInBounds_toArray, List.set_cons_zero, List.set_cons_succ])
        refine wpAnyH_take (i := 3) (v := ?vg3) rfl (by kernel_rfl) (by kernel_rfl) (by kernel_rfl) (fun _ _ _ h => h) (Or.inl ⟨by kernel_rfl, ?yg3⟩) (by assumption) ?rg3
        case yg3 => (intro wq hSw; (try dsimp only at hSw); go_simp; (try with_reducible rfl))
        (try simp only [Act.put, List.getElem_toArray, List.getElem_cons_succ, List.getElem_cons_zero, List.setIfInBounds_toArray, List.set_cons_zero, List.set_cons_succ])
        refine wpAnyH_ready (rs := [1]) (by kernel_rfl) (by simp) ?_
        refine AllReadyH.cons rfl (fun K hK => ?_) AllReadyH.nil
        go_simp
        refine (image_c g bb W H C pix _ L9.drew.1).mono ?_
        rintro e8 w10 ⟨v8, rfl, hO8, hb⟩; have L10 := L9.drew.next hb; clear hb
        (try dsimp only)
        refine hK.out _ _ (by exact L10.img) (fun hHeld => ?_)
        clear hK K
        (try simp only [Act.put, List.getElem_toArray, List.getElem_cons_succ, List.getElem_cons_zero, List.setIfInBounds_toArray, List.set_cons_zero, List.set_cons_succ])
        refine wpAnyH_ready (rs := [4]) (by kernel_rfl) (by simp) ?_
        refine AllReadyH.cons rfl (fun K hK => ?_) AllReadyH.nil
        go_simp
        refine (same_c W H _ _ pix _ hO8.rd L10.2.2.1.rd HL2.out).mono ?_
        rintro e9 w11 ⟨rfl, hb⟩; have L11 := L10.next hb; clear hb
        (try dsimp only)
        refine hK.out _ _ (by exact L11.img) (fun hHeld => ?_)
        clear hK K
        (try simp only [Act.put, List.getElem_toArray, List.getElem_cons_succ, List.getElem_cons_zero, List.setIfInBounds_toArray, List.set_cons_zero, List.set_cons_succ])
        refine wpAnyH_take (i := 5) (v := ?vg5) rfl (by kernel_rfl) (by kernel_rfl) (by kernel_rfl) (fun _ _ _ h => h) (Or.inl ⟨by kernel_rfl, ?yg5⟩) (by assumption) ?rg5
        case yg5 => (intro wq hSw; (try dsimp only at hSw); go_simp; (try with_reducible rfl))
        (try simp only [Act.put, List.getElem_toArray, List.getElem_cons_succ, List.getElem_cons_zero, List.setIfInBounds_toArray, List.set_cons_zero, List.set_cons_succ])
        refine wpAnyH_take (i := 6) (v := ?vg6) rfl (by kernel_rfl) (by kernel_rfl) (by kernel_rfl) (fun _ _ _ h => h) (Or.inl ⟨by kernel_rfl, ?yg6⟩) (by assumption) ?rg6
        case yg6 => (intro wq hSw; (try dsimp only at hSw); go_simp; (try with_reducible rfl))
        (try simp only [Act.put, List.getElem_toArray, List.getElem_cons_succ, List.getElem_cons_zero, List.setIfInBounds_toArray, List.set_cons_zero, List.set_cons_succ])
        refine wpAnyH_take (i := 7) (v := ?vg7) rfl (by kernel_rfl) (by kernel_rfl) (by kernel_rfl) (fun _ _ _ h => h) (Or.inl ⟨by kernel_rfl, ?yg7⟩) (by assumption) ?rg7
        case yg7 => (intro wq hSw; (try dsimp only at hSw); go_simp; (try with_reducible rfl))
        (try simp only [Act.put, List.getElem_toArray, List.getElem_cons_succ, List.getElem_cons_zero, List.setIfInBounds_toArray, List.set_cons_zero, List.set_cons_succ])
        refine wpAnyH_take (i := 8) (v := ?vg8) rfl (by kernel_rfl) (by kernel_rfl) (by kernel_rfl) (fun _ _ _ h => h) (Or.inl ⟨by kernel_rfl, ?yg8⟩) (by assumption) ?rg8
        case yg8 => (intro wq hSw; (try dsimp only at hSw); go_simp; (try with_reducible rfl))
        (try simp only [Act.put, List.getElem_toArray, List.getElem_cons_succ, List.getElem_cons_zero, List.setIfInBounds_toArray, List.set_cons_zero, List.set_cons_succ])
        refine wpAnyH_take (i := 9) (v := ?vg9) rfl (by kernel_rfl) (by kernel_rfl) (by kernel_rfl) (fun _ _ _ h => h) (Or.inl ⟨by kernel_rfl, ?yg9⟩) (by assumption) ?rg9
        case yg9 => (intro wq hSw; (try dsimp only at hSw); go_simp; (try with_reducible rfl))
        (try simp only [Act.put, List.getElem_toArray, List.getElem_cons_succ, List.getElem_cons_zero, List.setIfInBounds_toArray, List.set_cons_zero, List.set_cons_succ])
        refine wpAnyH_take (i := 10) (v := ?vg10) rfl (by kernel_rfl) (by kernel_rfl) (by kernel_rfl) (fun _ _ _ h => h) (Or.inl ⟨by kernel_rfl, ?yg10⟩) (by assumption) ?rg10
        case yg10 => (intro wq hSw; (try dsimp only at hSw); go_simp; (try with_reducible rfl))
        (try simp only [Act.put, List.getElem_toArray, List.getElem_cons_succ, List.getElem_cons_zero, List.setIfInBounds_toArray, List.set_cons_zero, List.set_cons_succ])
        refine wpAnyH_take (i := 11) (v := ?vg11) rfl (by kernel_rfl) (by kernel_rfl) (by kernel_rfl) (fun _ _ _ h => h) (Or.inl ⟨by kernel_rfl, ?yg11⟩) (by assumption) ?rg11
        case yg11 => (intro wq hSw; (try dsimp only at hSw); go_simp; (try with_reducible rfl))
        (try simp only [Act.put, List.getElem_toArray, List.getElem_cons_succ, List.getElem_cons_zero, List.setIfInBounds_toArray, List.set_cons_zero, List.set_cons_succ])
        refine wpAnyH_take (i := 12) (v := ?vg12) rfl (by kernel_rfl) (by kernel_rfl) (by kernel_rfl) (fun _ _ _ h => h) (Or.inl ⟨by kernel_rfl, ?yg12⟩) (by assumption) ?rg12
        case yg12 => (intro wq hSw; (try dsimp only at hSw); go_simp; (try with_reducible rfl))
        (try simp only [Act.put, List.getElem_toArray, List.getElem_cons_succ, List.getElem_cons_zero, List.setIfInBounds_toArray, List.set_cons_zero, List.set_cons_succ])
        refine wpAnyH_take (i := 13) (v := ?vg13) rfl (by kernel_rfl) (by kernel_rfl) (by kernel_rfl) (fun _ _ _ h => h) (Or.inl ⟨by kernel_rfl, ?yg13⟩) (by assumption) ?rg13
        case yg13 => (intro wq hSw; (try dsimp only at hSw); go_simp; (try with_reducible rfl))
        (try simp only [Act.put, List.getElem_toArray, List.getElem_cons_succ, List.getElem_cons_zero, List.setIfInBounds_toArray, List.set_cons_zero, List.set_cons_succ])
        refine wpAnyH_take (i := 14) (v := ?vg14) rfl (by kernel_rfl) (by kernel_rfl) (by kernel_rfl) (fun _ _ _ h => h) (Or.inl ⟨by kernel_rfl, ?yg14⟩) (by assumption) ?rg14
        case yg14 => (intro wq hSw; (try dsimp only at hSw); go_simp; (try with_reducible rfl))
        (try simp only [Act.put, List.getElem_toArray, List.getElem_cons_succ, List.getElem_cons_zero, List.setIfInBounds_toArray, List.set_cons_zero, List.set_cons_succ])
        refine wpAnyH_take (i := 15) (v := ?vg15) rfl (by kernel_rfl) (by kernel_rfl) (by kernel_rfl) (fun _ _ _ h => h) (Or.inl ⟨by kernel_rfl, ?yg15⟩) (by assumption) ?rg15
        case yg15 => (intro wq hSw; (try dsimp only at hSw); go_simp; (try with_reducible rfl))
        (try simp only [Act.put, List.getElem_toArray, List.getElem_cons_succ, List.getElem_cons_zero, List.setIfInBounds_toArray, List.set_cons_zero, List.set_cons_succ])
        refine wpAnyH_ready (rs := [16]) (by kernel_rfl) (by simp) ?_
        refine AllReadyH.cons rfl (fun K hK => ?_) AllReadyH.nil
        go_simp
        refine (awake_c _).mono ?_
        rintro e10 w12 ⟨rfl, hb⟩; have L12 := L11.next hb; clear hb
        (try dsimp only)
        refine hK.out _ _ (by exact L12.img) (fun hHeld => ?_)
        clear hK K
        (try simp only [Act.put, List.getElem_toArray, List.getElem_cons_succ, List.getElem_cons_zero, List.setIfInBounds_toArray, List.set_cons_zero, List.set_cons_succ])
        refine wpAnyH_take (i := 17) (v := ?vg17) rfl (by kernel_rfl) (by kernel_rfl) (by kernel_rfl) (fun _ _ _ h => h) (Or.inl ⟨by kernel_rfl, ?yg17⟩) (by assumption) ?rg17
        case yg17 => (intro wq hSw; (try dsimp only at hSw); go_simp; (try with_reducible rfl))
        (try simp only [Act.put, List.getElem_toArray, List.getElem_cons_succ, List.getElem_cons_zero, List.setIfInBounds_toArray, List.set_cons_zero, List.set_cons_succ])
        refine wpAnyH_take (i := 18) (v := ?vg18) rfl (by kernel_rfl) (by kernel_rfl) (by kernel_rfl) (fun _ _ _ h => h) (Or.inl ⟨by kernel_rfl, ?yg18⟩) (by assumption) ?rg18
        case yg18 => (intro wq hSw; (try dsimp only at hSw); go_simp; (try with_reducible rfl))
        (try simp only [Act.put, List.getElem_toArray, List.getElem_cons_succ, List.getElem_cons_zero, List.setIfInBounds_toArray, List.set_cons_zero, List.set_cons_succ])
        refine wpAnyH_done (by kernel_rfl) ?_ _
        refine NoPanic.normal ?_
        clear hHeld
        go_wp2
        go_ret
        exact ⟨rfl, L12.2.2.2.2.1⟩
      · have HL2 := Lib.hid (show pix.length ≤ 1073741824 by rw [L2.1.2.2.2.1]; exact Nat.le_trans (Nat.mul_le_mul hW hH) (by omega))
        obtain ⟨⟨q0, q1⟩, _⟩ := L2.2.2.2.1.c2
        go_wp2_with (first
          | (go_at_call 37; refine (at_c g (some bb) W H C pix x y _ L2.1).mono ?_; rintro e5 w8 ⟨rfl, hb⟩; have L8 := L2.next hb; clear hb q0 q1 L2; obtain ⟨⟨q0, q1⟩, _⟩ := L8.2.2.2.1.c2; obtain ⟨⟨r0, r1, r2, r3, r4, r5, r6⟩, _⟩ := L8.2.1.c7)
          | (go_at_call 38; refine (rat_c W H G n2 cap _ _ _ _ pix x y _ (by omega) (by omega) HN2.out L8.2.2.1).mono ?_; rintro e6 w9 ⟨rfl, hb⟩; have L9 := L8.next hb; clear hb q0 q1 r0 r1 r2 r3 r4 r5 r6 L8))
        generalize atI W H pix x y = av
        generalize atB W H x y = bv
        refine wp_region_noPanic ?_
        refine wp_region_held_drew (S := fun wx => wx.cell? ⟨rb, 0, none⟩ = some (.int .i64 W) ∧ wx.cell? ⟨rb, 1, none⟩ = some (.int .i64 H) ∧ wx.cell? ⟨rb, 2, none⟩ = some (.slice (some ⟨G, 0, none⟩) n2 cap)) (by kernel_rfl) (by exact L9.drew.img) (fun hHeld => ?_)
        refine wpAnyH_take (i := 0) (v := ?vh0) rfl (by kernel_rfl) (by kernel_rfl) (by kernel_rfl) (fun _ _ _ h => h) (Or.inl ⟨by kernel_rfl, ?yh0⟩) (by assumption) ?rh0
        case yh0 => (intro wq hSw; (try dsimp only at hSw); go_simp; (try with_reducible rfl))
        (try simp only [Act.put, List.getElem_toArray, List.getElem_cons_zero, List.setIfInBounds_toArray, List.set_cons_zero, List.set_cons_succ])
        refine wpAnyH_take (i := 2) (v := ?vh2) rfl (by kernel_rfl) (by kernel_rfl) (by kernel_rfl) (fun _ _ _ h => h) (Or.inl ⟨by kernel_rfl, ?yh2⟩) (by assumption) ?rh2
        case yh2 => (intro wq hSw; (try dsimp only at hSw); go_simp; (try with_reducible rfl))
        (try simp only [Act.put, List.getElem_toArray, List.getElem_cons_succ, List.getElem_cons_zero, List.setIfInBounds_toArray, List.set_cons_zero, List.set_cons_succ])
        refine wpAnyH_take (i := 3) (v := ?vh3) rfl (by kernel_rfl) (by kernel_rfl) (by kernel_rfl) (fun _ _ _ h => h) (Or.inl ⟨by kernel_rfl, ?yh3⟩) (by assumption) ?rh3
        case yh3 => (intro wq hSw; (try dsimp only at hSw); go_simp; (try with_reducible rfl))
        (try simp only [Act.put, List.getElem_toArray, List.getElem_cons_succ, List.getElem_cons_zero, List.setIfInBounds_toArray, List.set_cons_zero, List.set_cons_succ])
        refine wpAnyH_ready (rs := [1]) (by kernel_rfl) (by simp) ?_
        refine AllReadyH.cons rfl (fun K hK => ?_) AllReadyH.nil
        go_simp
        refine (image_c g bb W H C pix _ L9.drew.1).mono ?_
        rintro e8 w10 ⟨v8, rfl, hO8, hb⟩; have L10 := L9.drew.next hb; clear hb
        (try dsimp only)
        refine hK.out _ _ (by exact L10.img) (fun hHeld => ?_)
        clear hK K
        (try simp only [Act.put, List.getElem_toArray, List.getElem_cons_succ, List.getElem_cons_zero, List.setIfInBounds_toArray, List.set_cons_zero, List.set_cons_succ])
        refine wpAnyH_ready (rs := [4]) (by kernel_rfl) (by simp) ?_
        refine AllReadyH.cons rfl (fun K hK => ?_) AllReadyH.nil
        go_simp
        refine (same_c W H _ _ pix _ hO8.rd L10.2.2.1.rd HL2.out).mono ?_
        rintro e9 w11 ⟨rfl, hb⟩; have L11 := L10.next hb; clear hb
        (try dsimp only)
        refine hK.out _ _ (by exact L11.img) (fun hHeld => ?_)
        clear hK K
        (try simp only [Act.put, List.getElem_toArray, List.getElem_cons_succ, List.getElem_cons_zero, List.setIfInBounds_toArray, List.set_cons_zero, List.set_cons_succ])
        refine wpAnyH_take (i := 5) (v := ?vh5) rfl (by kernel_rfl) (by kernel_rfl) (by kernel_rfl) (fun _ _ _ h => h) (Or.inl ⟨by kernel_rfl, ?yh5⟩) (by assumption) ?rh5
        case yh5 => (intro wq hSw; (try dsimp only at hSw); go_simp; (try with_reducible rfl))
        (try simp only [Act.put, List.getElem_toArray, List.getElem_cons_succ, List.getElem_cons_zero, List.setIfInBounds_toArray, List.set_cons_zero, List.set_cons_succ])
        refine wpAnyH_take (i := 6) (v := ?vh6) rfl (by kernel_rfl) (by kernel_rfl) (by kernel_rfl) (fun _ _ _ h => h) (Or.inl ⟨by kernel_rfl, ?yh6⟩) (by assumption) ?rh6
        case yh6 => (intro wq hSw; (try dsimp only at hSw); go_simp; (try with_reducible rfl))
        (try simp only [Act.put, List.getElem_toArray, List.getElem_cons_succ, List.getElem_cons_zero, List.setIfInBounds_toArray, List.set_cons_zero, List.set_cons_succ])
        refine wpAnyH_take (i := 7) (v := ?vh7) rfl (by kernel_rfl) (by kernel_rfl) (by kernel_rfl) (fun _ _ _ h => h) (Or.inl ⟨by kernel_rfl, ?yh7⟩) (by assumption) ?rh7
        case yh7 => (intro wq hSw; (try dsimp only at hSw); go_simp; (try with_reducible rfl))
        (try simp only [Act.put, List.getElem_toArray, List.getElem_cons_succ, List.getElem_cons_zero, List.setIfInBounds_toArray, List.set_cons_zero, List.set_cons_succ])
        refine wpAnyH_take (i := 8) (v := ?vh8) rfl (by kernel_rfl) (by kernel_rfl) (by kernel_rfl) (fun _ _ _ h => h) (Or.inl ⟨by kernel_rfl, ?yh8⟩) (by assumption) ?rh8
        case yh8 => (intro wq hSw; (try dsimp only at hSw); go_simp; (try with_reducible rfl))
        (try simp only [Act.put, List.getElem_toArray, List.getElem_cons_succ, List.getElem_cons_zero, List.setIfInBounds_toArray, List.set_cons_zero, List.set_cons_succ])
        refine wpAnyH_take (i := 9) (v := ?vh9) rfl (by kernel_rfl) (by kernel_rfl) (by kernel_rfl) (fun _ _ _ h => h) (Or.inl ⟨by kernel_rfl, ?yh9⟩) (by assumption) ?rh9
        case yh9 => (intro wq hSw; (try dsimp only at hSw); go_simp; (try with_reducible rfl))
        (try simp only [Act.put, List.getElem_toArray, List.getElem_cons_succ, List.getElem_cons_zero, List.setIfInBounds_toArray, List.set_cons_zero, List.set_cons_succ])
        refine wpAnyH_take (i := 10) (v := ?vh10) rfl (by kernel_rfl) (by kernel_rfl) (by kernel_rfl) (fun _ _ _ h => h) (Or.inl ⟨by kernel_rfl, ?yh10⟩) (by assumption) ?rh10
        case yh10 => (intro wq hSw; (try dsimp only at hSw); go_simp; (try with_reducible rfl))
        (try simp only [Act.put, List.getElem_toArray, List.getElem_cons_succ, List.getElem_cons_zero, List.setIfInBounds_toArray, List.set_cons_zero, List.set_cons_succ])
        refine wpAnyH_take (i := 11) (v := ?vh11) rfl (by kernel_rfl) (by kernel_rfl) (by kernel_rfl) (fun _ _ _ h => h) (Or.inl ⟨by kernel_rfl, ?yh11⟩) (by assumption) ?rh11
        case yh11 => (intro wq hSw; (try dsimp only at hSw); go_simp; (try with_reducible rfl))
        (try simp only [Act.put, List.getElem_toArray, List.getElem_cons_succ, List.getElem_cons_zero, List.setIfInBounds_toArray, List.set_cons_zero, List.set_cons_succ])
        refine wpAnyH_take (i := 12) (v := ?vh12) rfl (by kernel_rfl) (by kernel_rfl) (by kernel_rfl) (fun _ _ _ h => h) (Or.inl ⟨by kernel_rfl, ?yh12⟩) (by assumption) ?rh12
        case yh12 => (intro wq hSw; (try dsimp only at hSw); go_simp; (try with_reducible rfl))
        (try simp only [Act.put, List.getElem_toArray, List.getElem_cons_succ, List.getElem_cons_zero, List.setIfInBounds_toArray, List.set_cons_zero, List.set_cons_succ])
        refine wpAnyH_take (i := 13) (v := ?vh13) rfl (by kernel_rfl) (by kernel_rfl) (by kernel_rfl) (fun _ _ _ h => h) (Or.inl ⟨by kernel_rfl, ?yh13⟩) (by assumption) ?rh13
        case yh13 => (intro wq hSw; (try dsimp only at hSw); go_simp; (try with_reducible rfl))
        (try simp only [Act.put, List.getElem_toArray, List.getElem_cons_succ, List.getElem_cons_zero, List.setIfInBounds_toArray, List.set_cons_zero, List.set_cons_succ])
        refine wpAnyH_take (i := 14) (v := ?vh14) rfl (by kernel_rfl) (by kernel_rfl) (by kernel_rfl) (fun _ _ _ h => h) (Or.inl ⟨by kernel_rfl, ?yh14⟩) (by assumption) ?rh14
        case yh14 => (intro wq hSw; (try dsimp only at hSw); go_simp; (try with_reducible rfl))
        (try simp only [Act.put, List.getElem_toArray, List.getElem_cons_succ, List.getElem_cons_zero, List.setIfInBounds_toArray, List.set_cons_zero, List.set_cons_succ])
        refine wpAnyH_take (i := 15) (v := ?vh15) rfl (by kernel_rfl) (by kernel_rfl) (by kernel_rfl) (fun _ _ _ h => h) (Or.inl ⟨by kernel_rfl, ?yh15⟩) (by assumption) ?rh15
        case yh15 => (intro wq hSw; (try dsimp only at hSw); go_simp; (try with_reducible rfl))
        (try simp only [Act.put, List.getElem_toArray, List.getElem_cons_succ, List.getElem_cons_zero, List.setIfInBounds_toArray, List.set_cons_zero, List.set_cons_succ])
        refine wpAnyH_ready (rs := [16]) (by kernel_rfl) (by simp) ?_
        refine AllReadyH.cons rfl (fun K hK => ?_) AllReadyH.nil
        go_simp
        refine (awake_c _).mono ?_
        rintro e10 w12 ⟨rfl, hb⟩; have L12 := L11.next hb; clear hb
        (try dsimp only)
        refine hK.out _ _ (by exact L12.img) (fun hHeld => ?_)
        clear hK K
        (try simp only [Act.put, List.getElem_toArray, List.getElem_cons_succ, List.getElem_cons_zero, List.setIfInBounds_toArray, List.set_cons_zero, List.set_cons_succ])
        refine wpAnyH_take (i := 17) (v := ?vh17) rfl (by kernel_rfl) (by kernel_rfl) (by kernel_rfl) (fun _ _ _ h => h) (Or.inl ⟨by kernel_rfl, ?yh17⟩) (by assumption) ?rh17
        case yh17 => (intro wq hSw; (try dsimp only at hSw); go_simp; (try with_reducible rfl))
        (try simp only [Act.put, List.getElem_toArray, List.getElem_cons_succ, List.getElem_cons_zero, List.setIfInBounds_toArray, List.set_cons_zero, List.set_cons_succ])
        refine wpAnyH_take (i := 18) (v := ?vh18) rfl (by kernel_rfl) (by kernel_rfl) (by kernel_rfl) (fun _ _ _ h => h) (Or.inl ⟨by kernel_rfl, ?yh18⟩) (by assumption) ?rh18
        case yh18 => (intro wq hSw; (try dsimp only at hSw); go_simp; (try with_reducible rfl))
        (try simp only [Act.put, List.getElem_toArray, List.getElem_cons_succ, List.getElem_cons_zero, List.setIfInBounds_toArray, List.set_cons_zero, List.set_cons_succ])
        refine wpAnyH_done (by kernel_rfl) ?_ _
        refine NoPanic.normal ?_
        clear hHeld
        go_wp2
        go_ret
        exact ⟨rfl, L12.2.2.2.2.1⟩
end Go.Proofs.Ytjgleibbhgfcpaa
