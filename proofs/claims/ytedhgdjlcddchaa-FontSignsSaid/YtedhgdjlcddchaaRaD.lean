import Derived.Test.YtedhgdjlcddchaaRaC
import Derived.LoopTactic
import Derived.Deep.DeepCutAuto
namespace Go.Proofs.Ytedhgdjlcddchaa
open Go.RowKit
/-- What a canvas that is painted on keeps, beside the box of its rectangle. -/
def Pst (w0 : World) (g b W H : Nat) (c : Rc) (n0 : Nat) (R : Array Value) (pix : List Int) (wx : World) : Prop :=
  Canv wx g (some b) W H c pix ∧ Blk wx n0 40 R ∧ w0.grownBy wx (some b) ∧ n0 ≠ b ∧ w0.heap.size ≤ n0
def Pbx (w0 : World) (g b W H : Nat) (c : Rc) (n0 : Nat) (R : Array Value) (pix : List Int) (p : Nat) (B : Array Value) (wx : World) : Prop :=
  Pst w0 g b W H c n0 R pix wx ∧ Blk wx p 32 B
section
variable {w0 wx w1 : World} {g b W H : Nat} {c : Rc} {n0 : Nat} {R : Array Value} {pix : List Int} {p : Nat} {B : Array Value}
theorem Pst.next (h : Pst w0 g b W H c n0 R pix wx) (hb : Below wx.heap.size wx w1) : Pst w0 g b W H c n0 R pix w1 :=
  ⟨h.1.next hb, h.2.1.next hb, only_next h.2.2.1 hb, h.2.2.2⟩
theorem Pst.drew (h : Pst w0 g b W H c n0 R pix wx) : Pst w0 g b W H c n0 R pix wx.drew := ⟨h.1, h.2.1, only_drew h.2.2.1, h.2.2.2⟩
theorem Pst.alloc (h : Pst w0 g b W H c n0 R pix wx) (o : Obj) : Pst w0 g b W H c n0 R pix (wx.alloc o) := ⟨h.1.alloc o, h.2.1.alloc o, only_alloc h.2.2.1 o, h.2.2.2⟩
theorem Pst.set (h : Pst w0 g b W H c n0 R pix wx) (i : Nat) (u : Int) (hu : 0 ≤ u ∧ u < 4294967296) : Pst w0 g b W H c n0 R (pix.set i u) (wx.setCell ⟨b, i, none⟩ (.int .u32 u)) :=
  ⟨h.1.set i u hu, h.2.1.far h.2.2.2.1 _, only_setCell h.2.2.1 (.inl rfl) _, h.2.2.2⟩
theorem Pst.box (h : Pst w0 g b W H c n0 R pix wx) (t : TypeId) (cs : Array Value) (ht : t = 32) : Pbx w0 g b W H c n0 R pix wx.heap.size cs (wx.alloc (.cells cs t)) :=
  ⟨h.alloc _, ht ▸ Blk.new wx t cs⟩
theorem Pbx.next (h : Pbx w0 g b W H c n0 R pix p B wx) (hb : Below wx.heap.size wx w1) : Pbx w0 g b W H c n0 R pix p B w1 := ⟨h.1.next hb, h.2.next hb⟩
theorem Pbx.drew (h : Pbx w0 g b W H c n0 R pix p B wx) : Pbx w0 g b W H c n0 R pix p B wx.drew := ⟨h.1.drew, h.2⟩
theorem pixk {pix : List Int} {W H u v : Nat} (hl : pix.length = W * H) (hv : v < H) (hu : u < W) : ∃ k, pix[v * W + u]? = some k :=
  ⟨_, List.getElem?_eq_getElem (by rw [hl]; exact place_lt hu hv)⟩
theorem Pst.to {pix' : List Int} (h : Pst w0 g b W H c n0 R pix wx) (e : pix = pix') : Pst w0 g b W H c n0 R pix' wx := e ▸ h
theorem Pst.canv (h : Pst w0 g b W H c n0 R pix wx) : wx.cell? ⟨g, 0, none⟩ = some (.int .i64 W) ∧ wx.cell? ⟨g, 1, none⟩ = some (.int .i64 H) ∧ wx.cell? ⟨g, 2, none⟩ = some (.slice (some ⟨b, 0, none⟩) (W * H) (W * H)) :=
  ⟨h.1.1.at_ (i := 0) rfl, h.1.1.at_ (i := 1) rfl, h.1.1.at_ (i := 2) rfl⟩
theorem Pst.clip (h : Pst w0 g b W H c n0 R pix wx) : wx.cell? ⟨g, 3, none⟩ = some (.int .i64 c.x) ∧ wx.cell? ⟨g, 4, none⟩ = some (.int .i64 c.y) ∧ wx.cell? ⟨g, 5, none⟩ = some (.int .i64 c.w) ∧ wx.cell? ⟨g, 6, none⟩ = some (.int .i64 c.h) :=
  ⟨h.1.1.at_ (i := 3) rfl, h.1.1.at_ (i := 4) rfl, h.1.1.at_ (i := 5) rfl, h.1.1.at_ (i := 6) rfl⟩
theorem Pst.pixel (h : Pst w0 g b W H c n0 R pix wx) {i : Nat} {u : Int} (hu : pix[i]? = some u) : wx.cell? ⟨b, i, none⟩ = some (.int .u32 u) ∧ wx.frozen? ⟨b, i, none⟩ = false :=
  ⟨(h.1.2.1 b rfl).at_ (by rw [colA_get, hu]; rfl), (h.1.2.1 b rfl).frozen i⟩
theorem Pbx.point {x y : Int} (h : Pbx w0 g b W H c n0 R pix p #[.int .i64 x, .int .i64 y] wx) : wx.cell? ⟨p, 0, none⟩ = some (.int .i64 x) ∧ wx.cell? ⟨p, 1, none⟩ = some (.int .i64 y) :=
  ⟨h.2.at_ (i := 0) rfl, h.2.at_ (i := 1) rfl⟩
theorem Pst.rset (h : Pst w0 g b W H c n0 R pix wx) (hg : g ≠ n0) (i : Nat) (v : Value) : Pst w0 g b W H c n0 (R.setIfInBounds i v) pix (wx.setCell ⟨n0, i, none⟩ v) :=
  ⟨⟨h.1.1.far hg _, fun b' hb => (h.1.2.1 b' hb).far (by injection hb with hb; subst hb; exact fun e => h.2.2.2.1 e.symm) _, h.1.2.2⟩, h.2.1.set_ i v, only_setCell h.2.2.1 (.inr h.2.2.2.2) _, h.2.2.2⟩
theorem Pst.four (h : Pst w0 g b W H c n0 R pix wx) (hR : R.size = 4) (hg : g ≠ n0) (v0 v1 v2 v3 : Value) :
    Pst w0 g b W H c n0 #[v0, v1, v2, v3] pix ((((wx.setCell ⟨n0, 0, none⟩ v0).setCell ⟨n0, 1, none⟩ v1).setCell ⟨n0, 2, none⟩ v2).setCell ⟨n0, 3, none⟩ v3) := by
  obtain ⟨l⟩ := R
  match l, hR with
  | [a0, a1, a2, a3], _ => exact (((h.rset hg 0 v0).rset hg 1 v1).rset hg 2 v2).rset hg 3 v3
theorem Pst.rect {x y a e : Int} (h : Pst w0 g b W H c n0 #[.int .i64 x, .int .i64 y, .int .i64 a, .int .i64 e] pix wx) : wx.cell? ⟨n0, 0, none⟩ = some (.int .i64 x) ∧ wx.cell? ⟨n0, 1, none⟩ = some (.int .i64 y) ∧ wx.cell? ⟨n0, 2, none⟩ = some (.int .i64 a) ∧ wx.cell? ⟨n0, 3, none⟩ = some (.int .i64 e) :=
  ⟨h.2.1.at_ (i := 0) rfl, h.2.1.at_ (i := 1) rfl, h.2.1.at_ (i := 2) rfl, h.2.1.at_ (i := 3) rfl⟩
end

set_option maxHeartbeats 4000000 in
theorem paint_yes (g b W H X Y RW RH : Nat) (c : Rc) (pix : List Int) (x y a e : Int) (fc : Nat) (cb : Array Value) (f : Int → Int → Int → Int) (w : World)
    (hC : Canv w g (some b) W H c pix) (hR : interR x y a e c.x c.y c.w c.h = ⟨X, Y, RW, RH⟩) (hX : X + RW ≤ W) (hY : Y + RH ≤ H)
    (eg : ∀ args w, (callFunc fc args).run Try.prog w = .ok (.enter fc args) w)
    (Hto : ∀ W1 (x y : Nat) (u : Int), w.grownBy W1 (some b) → X ≤ x → x < X + RW → Y ≤ y → y < Y + RH → pix[y * W + x]? = some u →
      Calls Try.prog fc (#[.agg #[.int .i64 x, .int .i64 y], .int .u32 u] ++ cb) W1 fun e w' => e = .returned (.int .u32 (f x y u)) ∧ Below W1.heap.size W1 w')
    (Hf : ∀ (x y : Nat) (u : Int), X ≤ x → x < X + RW → Y ≤ y → y < Y + RH → pix[y * W + x]? = some u → 0 ≤ f x y u ∧ f x y u < 4294967296) :
    Calls Try.prog 110 #[.pointer (some ⟨g, 0, none⟩), .agg #[.int .i64 x, .int .i64 y, .int .i64 a, .int .i64 e], .func (.func fc) #[] cb] w fun e w' => e = .returned (.tuple #[]) ∧
      Canv w' g (some b) W H c (pnt W (done X Y RW (Y + RH) X) f pix) ∧ w.grownBy w' (some b) := by
  have HR := Lib.hid hR
  have hbl : b < w.heap.size := (hC.2.1 b rfl).lt
  have P0 : Pst w g b W H c w.heap.size #[.int .i64 x, .int .i64 y, .int .i64 a, .int .i64 e] pix (w.alloc (.cells #[.int .i64 x, .int .i64 y, .int .i64 a, .int .i64 e] 40)) :=
    ⟨hC.alloc _, Blk.new _ _ _, only_alloc (only_refl _ _) _, by omega, Nat.le_refl _⟩
  have hgl := hC.lt
  have hI : ∀ W, Calls Try.prog 65 #[.agg #[.int .i64 x, .int .i64 y, .int .i64 a, .int .i64 e], .agg #[.int .i64 c.x, .int .i64 c.y, .int .i64 c.w, .int .i64 c.h]] W fun e w' => e = .returned (.agg #[.int .i64 X, .int .i64 Y, .int .i64 RW, .int .i64 RH]) ∧ Below W.heap.size W w' := fun W => by
    have h := inter_c x y a e c.x c.y c.w c.h W
    rw [HR.out] at h
    exact h
  have HI := Lib.hid hI
  have hW := hC.2.2.2.2.2.1
  have hH := hC.2.2.2.2.2.2.1
  clear hR hC hI
  go_enter Try.func110, Try.ntmps110
  go_wp2
  generalize w.alloc (.cells #[.int .i64 x, .int .i64 y, .int .i64 a, .int .i64 e] 40) = wa at P0 ⊢
  obtain ⟨a0, a1, a2, a3⟩ := P0.rect
  refine wp_region_noPanic ?_
  refine wp_region_held_drew (S := fun wx => wx.cell? ⟨g, 3, none⟩ = some (.int .i64 c.x) ∧ wx.cell? ⟨g, 4, none⟩ = some (.int .i64 c.y) ∧ wx.cell? ⟨g, 5, none⟩ = some (.int .i64 c.w) ∧ wx.cell? ⟨g, 6, none⟩ = some (.int .i64 c.h)) (by kernel_rfl) (by exact P0.drew.clip) (fun hHeld => ?_)
  refine wpAnyH_take (i := 1) (v := ?v1) rfl (by kernel_rfl) (by kernel_rfl) (by kernel_rfl) (fun _ _ _ h => h) (Or.inl ⟨by kernel_rfl, ?y1⟩) (by assumption) ?r1
  case y1 => (intro wq hSw; (try dsimp only at hSw); go_simp; (try with_reducible rfl))
  (try simp only [Act.put, List.getElem_toArray, List.getElem_cons_succ, List.getElem_cons_zero, List.setIfInBounds_toArray, List.set_cons_zero, List.set_cons_succ])
  refine wpAnyH_take (i := 2) (v := ?v2) rfl (by kernel_rfl) (by kernel_rfl) (by kernel_rfl) (fun _ _ _ h => h) (Or.inl ⟨by kernel_rfl, ?y2⟩) (by assumption) ?r2
  case y2 => (intro wq hSw; (try dsimp only at hSw); go_simp; (try with_reducible rfl))
  (try simp only [Act.put, List.getElem_toArray, List.getElem_cons_succ, List.getElem_cons_zero, List.setIfInBounds_toArray, List.set_cons_zero, List.set_cons_succ])
  refine wpAnyH_take (i := 3) (v := ?v3) rfl (by kernel_rfl) (by kernel_rfl) (by kernel_rfl) (fun _ _ _ h => h) (Or.inl ⟨by kernel_rfl, ?y3⟩) (by assumption) ?r3
  case y3 => (intro wq hSw; (try dsimp only at hSw); go_simp; (try with_reducible rfl))
  (try simp only [Act.put, List.getElem_toArray, List.getElem_cons_succ, List.getElem_cons_zero, List.setIfInBounds_toArray, List.set_cons_zero, List.set_cons_succ])
  refine wpAnyH_take (i := 4) (v := ?v4) rfl (by kernel_rfl) (by kernel_rfl) (by kernel_rfl) (fun _ _ _ h => h) (Or.inl ⟨by kernel_rfl, ?y4⟩) (by assumption) ?r4
  case y4 => (intro wq hSw; (try dsimp only at hSw); go_simp; (try with_reducible rfl))
  (try simp only [Act.put, List.getElem_toArray, List.getElem_cons_succ, List.getElem_cons_zero, List.setIfInBounds_toArray, List.set_cons_zero, List.set_cons_succ])
  refine wpAnyH_ready (rs := [0]) (by kernel_rfl) (by simp) ?_
  refine AllReadyH.cons rfl (fun K hK => ?_) AllReadyH.nil
  go_simp
  refine hK.out _ _ (by exact P0.drew.clip) (fun hHeld => ?_)
  clear hK K
  (try simp only [Act.put, List.getElem_toArray, List.getElem_cons_succ, List.getElem_cons_zero, List.setIfInBounds_toArray, List.set_cons_zero, List.set_cons_succ])
  refine wpAnyH_ready (rs := [5]) (by kernel_rfl) (by simp) ?_
  refine AllReadyH.cons rfl (fun K hK => ?_) AllReadyH.nil
  go_simp
  refine (HI.out _).mono ?_
  rintro e w1 ⟨rfl, hb⟩; have P1 := P0.drew.next hb; obtain ⟨b0, b1, b2, b3⟩ := P1.rect; have f0 := P1.2.1.frozen 0; have f1 := P1.2.1.frozen 1; have f2 := P1.2.1.frozen 2; have f3 := P1.2.1.frozen 3; clear hb
  (try dsimp only)
  refine hK.out _ _ (by exact P1.clip) (fun hHeld => ?_)
  clear hK K
  (try simp only [Act.put, List.getElem_toArray, List.getElem_cons_succ, List.getElem_cons_zero, List.setIfInBounds_toArray, List.set_cons_zero, List.set_cons_succ])
  refine wpAnyH_ready (rs := [6]) (by kernel_rfl) (by simp) ?_
  refine AllReadyH.cons rfl (fun K hK => ?_) AllReadyH.nil
  go_simp
  refine hK.out _ _ (by exact (P1.four rfl (by omega) _ _ _ _).clip) (fun hHeld => ?_)
  clear hK K
  (try simp only [Act.put, List.getElem_toArray, List.getElem_cons_succ, List.getElem_cons_zero, List.setIfInBounds_toArray, List.set_cons_zero, List.set_cons_succ])
  refine wpAnyH_done (by kernel_rfl) ?_ _
  refine NoPanic.normal ?_
  have P2 := P1.four rfl (by omega) (.int .i64 X) (.int .i64 Y) (.int .i64 RW) (.int .i64 RH)
  clear b0 b1 b2 b3 f0 f1 f2 f3 hHeld P0 a0 a1 a2 a3
  generalize (((w1.setCell ⟨w.heap.size, 0, none⟩ (.int .i64 X)).setCell ⟨w.heap.size, 1, none⟩ (.int .i64 Y)).setCell ⟨w.heap.size, 2, none⟩ (.int .i64 RW)).setCell ⟨w.heap.size, 3, none⟩ (.int .i64 RH) = w2 at P2 ⊢
  clear P1
  obtain ⟨a0, a1, a2, a3⟩ := P2.rect
  go_wp2
  have hlen := P2.1.2.2.2.1
  clear a0 a1 a2 a3
  go_loopw [6] (fun z wr => ∃ v : Nat, Y ≤ v ∧ v ≤ Y + RH ∧ z = .int .i64 v ∧ Pst w g b W H c w.heap.size #[.int .i64 X, .int .i64 Y, .int .i64 RW, .int .i64 RH] (pnt W (done X Y RW v X) f pix) wr) (fun z _ => Y + RH - (intOf z).toNat)
  case atStart => exact ⟨Y, Nat.le_refl _, by omega, rfl, P2.to (pnt_id (fun _ _ => done_start X Y RW _ _)).symm⟩
  case round =>
    obtain ⟨v, hv1, hv2, rfl, P3⟩ := hrel
    obtain ⟨a0, a1, a2, a3⟩ := P3.rect
    have hlen' := Lib.hid hlen
    clear hlen
    by_cases hlt : v < Y + RH
    · have e1 : decide ((v : Int) < (Y : Int) + (RH : Int)) = true := by simp; omega
      rename_i _ _ wo
      go_wp2
      clear a0 a1 a2 a3 e1
      go_loopw [7] (fun z wr => ∃ u : Nat, X ≤ u ∧ u ≤ X + RW ∧ z = .int .i64 u ∧ Pst w g b W H c w.heap.size #[.int .i64 X, .int .i64 Y, .int .i64 RW, .int .i64 RH] (pnt W (done X Y RW v u) f pix) wr) (fun z _ => X + RW - (intOf z).toNat)
      case atStart => exact ⟨X, Nat.le_refl _, by omega, rfl, P3⟩
      case round =>
        obtain ⟨u, hu1, hu2, rfl, P4⟩ := hrel
        obtain ⟨a0, a1, a2, a3⟩ := P4.rect
        by_cases hlu : u < X + RW
        · have e1 : decide ((u : Int) < (X : Int) + (RW : Int)) = true := by simp; omega
          rename_i _ _ wi
          obtain ⟨i, hi⟩ : ∃ i, i = v * W + u := ⟨_, rfl⟩
          have hiN : i < W * H := hi ▸ place_lt (show u < W by omega) (show v < H by omega)
          have Hi := Lib.hid hi
          clear hi
          obtain ⟨N, hN⟩ : ∃ N, N = W * H := ⟨_, rfl⟩
          have HN := Lib.hid hN
          rw [← hN] at hiN
          clear hN
          go_wp2
          have P5 := P4.box 32 #[.int .i64 u, .int .i64 v] rfl
          generalize wr.alloc (.cells #[.int .i64 u, .int .i64 v] 32) = wb at P5 ⊢
          generalize wr.heap.size = pb at P5 ⊢
          clear a0 a1 a2 a3 e1
          refine wp_region_noPanic ?_
          refine wp_region_held_drew (S := fun wx => (wx.cell? ⟨g, 0, none⟩ = some (.int .i64 W) ∧ wx.cell? ⟨g, 1, none⟩ = some (.int .i64 H) ∧ wx.cell? ⟨g, 2, none⟩ = some (.slice (some ⟨b, 0, none⟩) N N)) ∧ (wx.cell? ⟨pb, 0, none⟩ = some (.int .i64 u) ∧ wx.cell? ⟨pb, 1, none⟩ = some (.int .i64 v))) (by kernel_rfl) (by exact ⟨HN.out ▸ P5.drew.1.canv, P5.drew.point⟩) (fun hHeld => ?_)
          refine wpAnyH_take (i := 0) (v := ?va0) rfl (by kernel_rfl) (by kernel_rfl) (by kernel_rfl) (fun _ _ _ h => h) (Or.inl ⟨by kernel_rfl, ?ya0⟩) (by assumption) ?ra0
          case ya0 => (intro wq hSw; (try dsimp only at hSw); go_simp; (try with_reducible rfl))
          (try simp only [Act.put, List.getElem_toArray, List.getElem_cons_zero, List.setIfInBounds_toArray, List.set_cons_zero, List.set_cons_succ])
          refine wpAnyH_take (i := 1) (v := ?va1) rfl (by kernel_rfl) (by kernel_rfl) (by kernel_rfl) (fun _ _ _ h => h) (Or.inl ⟨by kernel_rfl, ?ya1⟩) (by assumption) ?ra1
          case ya1 => (intro wq hSw; (try dsimp only at hSw); go_simp; (try with_reducible rfl))
          (try simp only [Act.put, List.getElem_toArray, List.getElem_cons_succ, List.getElem_cons_zero, List.setIfInBounds_toArray, List.set_cons_zero, List.set_cons_succ])
          refine wpAnyH_take (i := 2) (v := ?va2) rfl (by kernel_rfl) (by kernel_rfl) (by kernel_rfl) (fun _ _ _ h => h) (Or.inl ⟨by kernel_rfl, ?ya2⟩) (by assumption) ?ra2
          case ya2 => (intro wq hSw; (try dsimp only at hSw); go_simp; (try with_reducible rfl))
          (try simp only [Act.put, List.getElem_toArray, List.getElem_cons_succ, List.getElem_cons_zero, List.setIfInBounds_toArray, List.set_cons_zero, List.set_cons_succ])
          refine wpAnyH_take (i := 3) (v := ?va3) rfl (by kernel_rfl) (by kernel_rfl) (by kernel_rfl) (fun _ _ _ h => h) (Or.inl ⟨by kernel_rfl, ?ya3⟩) (by assumption) ?ra3
          case ya3 => (intro wq hSw; (try dsimp only at hSw); go_simp; (try with_reducible rfl))
          (try simp only [Act.put, List.getElem_toArray, List.getElem_cons_succ, List.getElem_cons_zero, List.setIfInBounds_toArray, List.set_cons_zero, List.set_cons_succ])
          refine wpAnyH_take (i := 4) (v := ?va4) rfl (by kernel_rfl) (by kernel_rfl) (by kernel_rfl) (fun _ _ _ h => h) (Or.inl ⟨by kernel_rfl, ?ya4⟩) (by assumption) ?ra4
          case ya4 => (intro wq hSw; (try dsimp only at hSw); go_simp; (try with_reducible rfl))
          (try simp only [Act.put, List.getElem_toArray, List.getElem_cons_succ, List.getElem_cons_zero, List.setIfInBounds_toArray, List.set_cons_zero, List.set_cons_succ])
          refine wpAnyH_ready (rs := [5]) (by kernel_rfl) (by simp) ?_
          refine AllReadyH.cons rfl (fun K hK => ?_) AllReadyH.nil
          go_simp
          refine (index_n W H i u v _ _ Hi.out (by omega) (by omega) (by omega)).mono ?_
          rintro e w1 ⟨rfl, hb⟩
          (try dsimp only)
          refine hK.out _ _ (by exact ⟨HN.out ▸ (P5.drew.next hb).1.canv, (P5.drew.next hb).point⟩) (fun hHeld => ?_)
          clear hK K
          (try simp only [Act.put, List.getElem_toArray, List.getElem_cons_succ, List.getElem_cons_zero, List.setIfInBounds_toArray, List.set_cons_zero, List.set_cons_succ])
          refine wpAnyH_take (i := 6) (v := ?va6) rfl (by kernel_rfl) (by kernel_rfl) (by kernel_rfl) (fun _ _ _ h => h) (Or.inl ⟨by kernel_rfl, ?ya6⟩) (by assumption) ?ra6
          case ya6 => (intro wq hSw; (try dsimp only at hSw); go_simp; (try with_reducible rfl))
          (try simp only [Act.put, List.getElem_toArray, List.getElem_cons_succ, List.getElem_cons_zero, List.setIfInBounds_toArray, List.set_cons_zero, List.set_cons_succ])
          refine wpAnyH_done (by kernel_rfl) ?_ _
          refine NoPanic.normal ?_
          have P6 := P5.drew.next hb
          clear hHeld hb P5
          obtain ⟨k, hk⟩ := pixk hlen'.out (show v < H by omega) (show u < W by omega)
          have hpk : (pnt W (done X Y RW v u) f pix)[i]? = some k := by
            rw [Hi.out, pnt_at (by omega), hk, Option.map_some, done_now, if_neg (by simp)]
          obtain ⟨pc, pf⟩ := P6.1.pixel hpk
          have HK := Lib.hid hk
          have HPK := Lib.hid hpk
          clear hk hpk
          obtain ⟨c0, c1, c2⟩ := P6.1.canv
          rw [← HN.out] at c2
          go_wp2
          generalize w1 = wc at *
          have hi0 : (0 : Int) ≤ (i : Int) := by omega
          have hi1 : (i : Int) < (N : Int) := by omega
          refine wp_region_noPanic ?_
          refine wp_region_held_drew (S := fun wx => (wx.cell? ⟨g, 2, none⟩ = some (.slice (some ⟨b, 0, none⟩) N N)) ∧ (wx.cell? ⟨pb, 0, none⟩ = some (.int .i64 u) ∧ wx.cell? ⟨pb, 1, none⟩ = some (.int .i64 v))) (by kernel_rfl) (by exact ⟨(HN.out ▸ P6.drew.1.canv).2.2, P6.drew.point⟩) (fun hHeld => ?_)
          refine wpAnyH_take (i := 0) (v := ?vb0) rfl (by kernel_rfl) (by kernel_rfl) (by kernel_rfl) (fun _ _ _ h => h) (Or.inl ⟨by kernel_rfl, ?yb0⟩) (by assumption) ?rb0
          case yb0 => (intro wq hSw; (try dsimp only at hSw); go_simp; (try with_reducible rfl))
          (try simp only [Act.put, List.getElem_toArray, List.getElem_cons_zero, List.setIfInBounds_toArray, List.set_cons_zero, List.set_cons_succ])
          refine wpAnyH_take (i := 1) (v := ?vb1) rfl (by kernel_rfl) (by kernel_rfl) (by kernel_rfl) (fun _ _ _ h => h) (Or.inl ⟨by kernel_rfl, ?yb1⟩) (by assumption) ?rb1
          case yb1 => (intro wq hSw; (try dsimp only at hSw); go_simp; (try with_reducible rfl))
          (try simp only [Act.put, List.getElem_toArray, List.getElem_cons_succ, List.getElem_cons_zero, List.setIfInBounds_toArray, List.set_cons_zero, List.set_cons_succ])
          refine wpAnyH_take (i := 2) (v := ?vb2) rfl (by kernel_rfl) (by kernel_rfl) (by kernel_rfl) (fun _ _ _ h => h) (Or.inl ⟨by kernel_rfl, ?yb2⟩) (by assumption) ?rb2
          case yb2 => (intro wq hSw; (try dsimp only at hSw); go_simp; (try with_reducible rfl))
          (try simp only [Act.put, List.getElem_toArray, List.getElem_cons_succ, List.getElem_cons_zero, List.setIfInBounds_toArray, List.set_cons_zero, List.set_cons_succ])
          refine wpAnyH_take (i := 3) (v := ?vb3) rfl (by kernel_rfl) (by kernel_rfl) (by kernel_rfl) (fun _ _ _ h => h) (Or.inl ⟨by kernel_rfl, ?yb3⟩) (by assumption) ?rb3
          case yb3 => (intro wq hSw; (try dsimp only at hSw); go_simp; (try with_reducible rfl))
          (try simp only [Act.put, List.getElem_toArray, List.getElem_cons_succ, List.getElem_cons_zero, List.setIfInBounds_toArray, List.set_cons_zero, List.set_cons_succ])
          refine wpAnyH_take (i := 4) (v := ?vb4) rfl (by kernel_rfl) (by kernel_rfl) (by kernel_rfl) (fun _ _ _ h => h) (Or.inl ⟨by kernel_rfl, ?yb4⟩) (by assumption) ?rb4
          case yb4 => (intro wq hSw; (try dsimp only at hSw); go_simp; (try with_reducible rfl))
          (try simp only [Act.put, List.getElem_toArray, List.getElem_cons_succ, List.getElem_cons_zero, List.setIfInBounds_toArray, List.set_cons_zero, List.set_cons_succ])
          refine wpAnyH_take (i := 5) (v := ?vb5) rfl (by kernel_rfl) (by kernel_rfl) (by kernel_rfl) (fun _ _ _ h => h) (Or.inl ⟨by kernel_rfl, ?yb5⟩) (by assumption) ?rb5
          case yb5 => (intro wq hSw; (try dsimp only at hSw); go_simp; (try with_reducible rfl))
          (try simp only [Act.put, List.getElem_toArray, List.getElem_cons_succ, List.getElem_cons_zero, List.setIfInBounds_toArray, List.set_cons_zero, List.set_cons_succ])
          refine wpAnyH_take (i := 6) (v := ?vb6) rfl (by kernel_rfl) (by kernel_rfl) (by kernel_rfl) (fun _ _ _ h => h) (Or.inl ⟨by kernel_rfl, ?yb6⟩) (by assumption) ?rb6
          case yb6 => (intro wq hSw; (try dsimp only at hSw); go_simp; (try with_reducible rfl))
          (try simp only [Act.put, List.getElem_toArray, List.getElem_cons_succ, List.getElem_cons_zero, List.setIfInBounds_toArray, List.set_cons_zero, List.set_cons_succ])
          refine wpAnyH_take (i := 7) (v := ?vb7) rfl (by kernel_rfl) (by kernel_rfl) (by kernel_rfl) (fun _ _ _ h => h) (Or.inl ⟨by kernel_rfl, ?yb7⟩) (by assumption) ?rb7
          case yb7 => (intro wq hSw; (try dsimp only at hSw); go_simp; (try with_reducible rfl))
          (try simp only [Act.put, List.getElem_toArray, List.getElem_cons_succ, List.getElem_cons_zero, List.setIfInBounds_toArray, List.set_cons_zero, List.set_cons_succ])
          refine wpAnyH_take (i := 8) (v := ?vb8) rfl (by kernel_rfl) (by kernel_rfl) (by kernel_rfl) (fun _ _ _ h => h) (Or.inl ⟨by kernel_rfl, ?yb8⟩) (by assumption) ?rb8
          case yb8 => (intro wq hSw; (try dsimp only at hSw); go_simp; (try with_reducible rfl))
          (try simp only [Act.put, List.getElem_toArray, List.getElem_cons_succ, List.getElem_cons_zero, List.setIfInBounds_toArray, List.set_cons_zero, List.set_cons_succ])
          refine wpAnyH_take (i := 9) (v := ?vb9) rfl (by kernel_rfl) (by kernel_rfl) (by kernel_rfl) (fun _ _ _ h => h) (Or.inl ⟨by kernel_rfl, ?yb9⟩) (by assumption) ?rb9
          case yb9 => (intro wq hSw; (try dsimp only at hSw); go_simp; (try with_reducible rfl))
          (try simp only [Act.put, List.getElem_toArray, List.getElem_cons_succ, List.getElem_cons_zero, List.setIfInBounds_toArray, List.set_cons_zero, List.set_cons_succ])
          refine wpAnyH_take (i := 10) (v := ?vb10) rfl (by kernel_rfl) (by kernel_rfl) (by kernel_rfl) (fun _ _ _ h => h) (Or.inl ⟨by kernel_rfl, ?yb10⟩) (by assumption) ?rb10
          case yb10 => (intro wq hSw; (try dsimp only at hSw); go_simp; (try with_reducible rfl))
          (try simp only [Act.put, List.getElem_toArray, List.getElem_cons_succ, List.getElem_cons_zero, List.setIfInBounds_toArray, List.set_cons_zero, List.set_cons_succ])
          refine wpAnyH_take (i := 11) (v := ?vb11) rfl (by kernel_rfl) (by kernel_rfl) (by kernel_rfl) (fun _ _ _ h => h) (Or.inl ⟨by kernel_rfl, ?yb11⟩) (by assumption) ?rb11
          case yb11 => (intro wq hSw; (try dsimp only at hSw); go_simp; (try with_reducible rfl))
          (try simp only [Act.put, List.getElem_toArray, List.getElem_cons_succ, List.getElem_cons_zero, List.setIfInBounds_toArray, List.set_cons_zero, List.set_cons_succ])
          refine wpAnyH_take (i := 12) (v := ?vb12) rfl (by kernel_rfl) (by kernel_rfl) (by kernel_rfl) (fun _ _ _ h => h) (Or.inl ⟨by kernel_rfl, ?yb12⟩) (by assumption) ?rb12
          case yb12 => (intro wq hSw; (try dsimp only at hSw); go_simp; (try with_reducible rfl))
          (try simp only [Act.put, List.getElem_toArray, List.getElem_cons_succ, List.getElem_cons_zero, List.setIfInBounds_toArray, List.set_cons_zero, List.set_cons_succ])
          refine wpAnyH_take (i := 13) (v := ?vb13) rfl (by kernel_rfl) (by kernel_rfl) (by kernel_rfl) (fun _ _ _ h => h) (Or.inl ⟨by kernel_rfl, ?yb13⟩) (by assumption) ?rb13
          case yb13 => (intro wq hSw; (try dsimp only at hSw); go_simp; (try with_reducible rfl))
          (try simp only [Act.put, List.getElem_toArray, List.getElem_cons_succ, List.getElem_cons_zero, List.setIfInBounds_toArray, List.set_cons_zero, List.set_cons_succ])
          refine wpAnyH_take (i := 14) (v := ?vb14) rfl (by kernel_rfl) (by kernel_rfl) (by kernel_rfl) (fun _ _ _ h => h) (Or.inl ⟨by kernel_rfl, ?yb14⟩) (by assumption) ?rb14
          case yb14 => (intro wq hSw; (try dsimp only at hSw); go_simp; (try with_reducible rfl))
          (try simp only [Act.put, List.getElem_toArray, List.getElem_cons_succ, List.getElem_cons_zero, List.setIfInBounds_toArray, List.set_cons_zero, List.set_cons_succ])
          refine wpAnyH_ready (rs := [15]) (by kernel_rfl) (by simp) ?_
          refine AllReadyH.cons rfl (fun K hK => ?_) AllReadyH.nil
          go_simp
          refine hK.out _ _ (by exact ⟨(HN.out ▸ P6.drew.1.canv).2.2, P6.drew.point⟩) (fun hHeld => ?_)
          clear hK K
          (try simp only [Act.put, List.getElem_toArray, List.getElem_cons_succ, List.getElem_cons_zero, List.setIfInBounds_toArray, List.set_cons_zero, List.set_cons_succ])
          refine wpAnyH_ready (rs := [16]) (by kernel_rfl) (by simp) ?_
          refine AllReadyH.cons rfl (fun K hK => ?_) AllReadyH.nil
          go_simp
          refine (Hto wc.drew u v k P6.drew.1.2.2.1 hu1 hlu hv1 hlt HK.out).mono ?_
          rintro e w2 ⟨rfl, hb⟩; have P8 := P6.drew.next hb; obtain ⟨qc, qf⟩ := P8.1.pixel HPK.out; clear hb
          (try dsimp only)
          refine hK.out _ _ (by exact ⟨(HN.out ▸ P8.1.canv).2.2, P8.point⟩) (fun hHeld => ?_)
          clear hK K
          (try simp only [Act.put, List.getElem_toArray, List.getElem_cons_succ, List.getElem_cons_zero, List.setIfInBounds_toArray, List.set_cons_zero, List.set_cons_succ])
          refine wpAnyH_take (i := 17) (v := ?vb17) rfl (by kernel_rfl) (by kernel_rfl) (by kernel_rfl) (fun _ _ _ h => h) (Or.inl ⟨by kernel_rfl, ?yb17⟩) (by assumption) ?rb17
          case yb17 => (intro wq hSw; (try dsimp only at hSw); go_simp; (try with_reducible rfl))
          (try simp only [Act.put, List.getElem_toArray, List.getElem_cons_succ, List.getElem_cons_zero, List.setIfInBounds_toArray, List.set_cons_zero, List.set_cons_succ])
          refine wpAnyH_ready (rs := [18]) (by kernel_rfl) (by simp) ?_
          refine AllReadyH.cons rfl (fun K hK => ?_) AllReadyH.nil
          go_simp
          refine hK.out _ _ (by exact ⟨(HN.out ▸ (P8.1.set i (f u v k) (Hf u v k hu1 hlu hv1 hlt HK.out)).canv).2.2, (P8.2.far (P8.2.ne_ (P8.1.1.2.1 b rfl) (by decide)) _).at_ (i := 0) rfl, (P8.2.far (P8.2.ne_ (P8.1.1.2.1 b rfl) (by decide)) _).at_ (i := 1) rfl⟩) (fun hHeld => ?_)
          clear hK K
          (try simp only [Act.put, List.getElem_toArray, List.getElem_cons_succ, List.getElem_cons_zero, List.setIfInBounds_toArray, List.set_cons_zero, List.set_cons_succ])
          refine wpAnyH_done (by kernel_rfl) ?_ _
          refine NoPanic.normal ?_
          clear hHeld
          have P9 := P8.1.set i (f u v k) (Hf u v k hu1 hlu hv1 hlt HK.out)
          generalize w2.setCell ⟨b, i, none⟩ (.int .u32 (f u v k)) = w3 at P9 ⊢
          clear P8 qc qf pc pf P6 c0 c1 c2 P4
          go_wp2
          go_roundw
          case rel => exact ⟨u + 1, by omega, by omega, by go_num, P9.to (by rw [Hi.out, pnt_step (by omega) HK.out]; exact pnt_congr hlen'.out (fun i j _ _ _ => by rw [done_next X Y RW v u hu1]))⟩
          case measure => simp [intOf]; omega
        · have e1 : decide ((u : Int) < (X : Int) + (RW : Int)) = false := by simp; omega
          go_wp2
          go_roundw
          case rel => 
            have : u = X + RW := by omega
            subst this
            exact ⟨v + 1, by omega, by omega, by go_num, P4.to (pnt_congr hlen'.out (fun i j _ _ _ => by rw [done_row X Y RW v hv1]))⟩
          case measure => simp [intOf]; omega
    · have e1 : decide ((v : Int) < (Y : Int) + (RH : Int)) = false := by simp; omega
      go_wp2
      go_end0
      have : v = Y + RH := by omega
      subst this
      exact ⟨rfl, P3.1, P3.2.2.1⟩
end Go.Proofs.Ytedhgdjlcddchaa
