import Derived.Test.YtedhgdjlcddchaaRaI
namespace Go.Proofs.Ytedhgdjlcddchaa
open Go.RowKit
/-- A rectangle's box, and a canvas. -/
def Rcv (w0 : World) (g : Nat) (A : Option Nat) (W H : Nat) (c : Rc) (pix : List Int) (p : Nat) (B : Array Value) (row : Option Nat) (wx : World) : Prop :=
  Canv wx g A W H c pix ∧ Blk wx p 40 B ∧ w0.grownBy wx row
section
variable {w0 wx w1 : World} {g W H : Nat} {A row : Option Nat} {c : Rc} {pix : List Int} {p : Nat} {B : Array Value}
theorem Rcv.next (h : Rcv w0 g A W H c pix p B row wx) (hb : Below wx.heap.size wx w1) : Rcv w0 g A W H c pix p B row w1 := ⟨h.1.next hb, h.2.1.next hb, only_next h.2.2 hb⟩
theorem Rcv.drew (h : Rcv w0 g A W H c pix p B row wx) : Rcv w0 g A W H c pix p B row wx.drew := ⟨h.1, h.2.1, only_drew h.2.2⟩
theorem Rcv.rect {x y a e : Int} (h : Rcv w0 g A W H c pix p #[.int .i64 x, .int .i64 y, .int .i64 a, .int .i64 e] row wx) : wx.cell? ⟨p, 0, none⟩ = some (.int .i64 x) ∧ wx.cell? ⟨p, 1, none⟩ = some (.int .i64 y) ∧ wx.cell? ⟨p, 2, none⟩ = some (.int .i64 a) ∧ wx.cell? ⟨p, 3, none⟩ = some (.int .i64 e) :=
  ⟨h.2.1.at_ (i := 0) rfl, h.2.1.at_ (i := 1) rfl, h.2.1.at_ (i := 2) rfl, h.2.1.at_ (i := 3) rfl⟩
theorem Rcv.clip (h : Rcv w0 g A W H c pix p B row wx) : (wx.cell? ⟨g, 3, none⟩ = some (.int .i64 c.x) ∧ wx.cell? ⟨g, 4, none⟩ = some (.int .i64 c.y) ∧ wx.cell? ⟨g, 5, none⟩ = some (.int .i64 c.w) ∧ wx.cell? ⟨g, 6, none⟩ = some (.int .i64 c.h)) ∧ (wx.frozen? ⟨g, 3, none⟩ = false ∧ wx.frozen? ⟨g, 4, none⟩ = false ∧ wx.frozen? ⟨g, 5, none⟩ = false ∧ wx.frozen? ⟨g, 6, none⟩ = false) :=
  ⟨⟨h.1.1.at_ (i := 3) rfl, h.1.1.at_ (i := 4) rfl, h.1.1.at_ (i := 5) rfl, h.1.1.at_ (i := 6) rfl⟩, h.1.1.frozen 3, h.1.1.frozen 4, h.1.1.frozen 5, h.1.1.frozen 6⟩
theorem Rcv.four (h : Rcv w0 g A W H c pix p B (some g) wx) (d : Rc) (hd : ∀ x y, hasB d.x d.y d.w d.h x y = true → 0 ≤ x ∧ x < W ∧ 0 ≤ y ∧ y < H) :
    Rcv w0 g A W H d pix p B (some g) ((((wx.setCell ⟨g, 3, none⟩ (.int .i64 d.x)).setCell ⟨g, 4, none⟩ (.int .i64 d.y)).setCell ⟨g, 5, none⟩ (.int .i64 d.w)).setCell ⟨g, 6, none⟩ (.int .i64 d.h)) := by
  obtain ⟨⟨h1, h2, h3, h4, h5, h6, h7, _⟩, hp, hg⟩ := h
  have k : Blk ((((wx.setCell ⟨g, 3, none⟩ (.int .i64 d.x)).setCell ⟨g, 4, none⟩ (.int .i64 d.y)).setCell ⟨g, 5, none⟩ (.int .i64 d.w)).setCell ⟨g, 6, none⟩ (.int .i64 d.h)) g 89 (canC A W H d) := (((h1.set_ 3 _).set_ 4 _).set_ 5 _).set_ 6 _
  have far : ∀ {q : Nat} {t : TypeId} {cs : Array Value}, Blk wx q t cs → q ≠ g → Blk ((((wx.setCell ⟨g, 3, none⟩ (.int .i64 d.x)).setCell ⟨g, 4, none⟩ (.int .i64 d.y)).setCell ⟨g, 5, none⟩ (.int .i64 d.w)).setCell ⟨g, 6, none⟩ (.int .i64 d.h)) q t cs :=
    fun hq hn => (((hq.far hn _).far hn _).far hn _).far hn _
  exact ⟨⟨k, fun b hb => far (h2 b hb) (fun e => (h2 b hb).ne_ h1 (by decide) e), h3, h4, h5, h6, h7, hd⟩, far hp (fun e => hp.ne_ h1 (by decide) e),
    only_setCell (only_setCell (only_setCell (only_setCell hg (.inl rfl) _) (.inl rfl) _) (.inl rfl) _) (.inl rfl) _⟩
end
theorem clip_in {r : Rc} {W H : Nat} (x y : Int) (h : hasB (int r ⟨0, 0, W, H⟩).x (int r ⟨0, 0, W, H⟩).y (int r ⟨0, 0, W, H⟩).w (int r ⟨0, 0, W, H⟩).h x y = true) : 0 ≤ x ∧ x < W ∧ 0 ≤ y ∧ y < H := by
  rw [has_int, Bool.and_eq_true] at h
  have := (hasB_iff _ _ _ _ _ _).1 h.2
  dsimp only at this
  omega
set_option maxHeartbeats 2000000 in
theorem clip_c (g : Nat) (A : Option Nat) (W H : Nat) (c : Rc) (pix : List Int) (x y a e : Int) (w : World) (hC : Canv w g A W H c pix) :
    Calls Try.prog 36 #[.pointer (some ⟨g, 0, none⟩), .agg #[.int .i64 x, .int .i64 y, .int .i64 a, .int .i64 e]] w fun e' w' => e' = .returned (.tuple #[]) ∧
      Canv w' g A W H (int ⟨x, y, a, e⟩ ⟨0, 0, W, H⟩) pix ∧ w.grownBy w' (some g) := by
  have P0 : Rcv w g A W H c pix w.heap.size #[.int .i64 x, .int .i64 y, .int .i64 a, .int .i64 e] (some g) (w.alloc (.cells #[.int .i64 x, .int .i64 y, .int .i64 a, .int .i64 e] 40)) := ⟨hC.alloc _, Blk.new _ _ _, only_alloc (only_refl _ _) _⟩
  have hgl := hC.lt
  have hI : ∀ W1, Calls Try.prog 65 #[.agg #[.int .i64 x, .int .i64 y, .int .i64 a, .int .i64 e], .agg #[.int .i64 0, .int .i64 0, .int .i64 W, .int .i64 H]] W1 fun e' w' => e' = .returned (.agg #[.int .i64 (int ⟨x, y, a, e⟩ ⟨0, 0, W, H⟩).x, .int .i64 (int ⟨x, y, a, e⟩ ⟨0, 0, W, H⟩).y, .int .i64 (int ⟨x, y, a, e⟩ ⟨0, 0, W, H⟩).w, .int .i64 (int ⟨x, y, a, e⟩ ⟨0, 0, W, H⟩).h]) ∧ Below W1.heap.size W1 w' := fun W1 => inter_c x y a e 0 0 W H W1
  have HI := Lib.hid hI
  have HD := Lib.hid (fun x' y' => clip_in (r := ⟨x, y, a, e⟩) (W := W) (H := H) x' y')
  generalize int ⟨x, y, a, e⟩ ⟨0, 0, W, H⟩ = d at HI HD ⊢
  clear hC hI
  go_enter Try.func36, Try.ntmps36
  go_wp2
  generalize w.alloc (.cells #[.int .i64 x, .int .i64 y, .int .i64 a, .int .i64 e] 40) = wa at P0 ⊢
  refine wp_region_noPanic ?_
  refine wp_region_held_drew (S := fun wx => wx.cell? ⟨w.heap.size, 0, none⟩ = some (.int .i64 x) ∧ wx.cell? ⟨w.heap.size, 1, none⟩ = some (.int .i64 y) ∧ wx.cell? ⟨w.heap.size, 2, none⟩ = some (.int .i64 a) ∧ wx.cell? ⟨w.heap.size, 3, none⟩ = some (.int .i64 e)) (by kernel_rfl) (by exact P0.drew.rect) (fun hHeld => ?_)
  refine wpAnyH_take (i := 0) (v := ?v0) rfl (by kernel_rfl) (by kernel_rfl) (by kernel_rfl) (fun _ _ _ h => h) (Or.inl ⟨by kernel_rfl, ?y0⟩) (by assumption) ?r0
  case y0 => (intro wq hSw; (try dsimp only at hSw); go_simp; (try with_reducible rfl))
  (try simp only [Act.put, List.getElem_toArray, List.getElem_cons_zero, List.setIfInBounds_toArray, List.set_cons_zero, List.set_cons_succ])
  refine wpAnyH_take (i := 1) (v := ?v1) rfl (by kernel_rfl) (by kernel_rfl) (by kernel_rfl) (fun _ _ _ h => h) (Or.inl ⟨by kernel_rfl, ?y1⟩) (by assumption) ?r1
  case y1 => (intro wq hSw; (try dsimp only at hSw); go_simp; (try with_reducible rfl))
  (try simp only [Act.put, List.getElem_toArray, List.getElem_cons_succ, List.getElem_cons_zero, List.setIfInBounds_toArray, List.set_cons_zero, List.set_cons_succ])
  refine wpAnyH_take (i := 2) (v := ?v2) rfl (by kernel_rfl) (by kernel_rfl) (by kernel_rfl) (fun _ _ _ h => h) (Or.inl ⟨by kernel_rfl, ?y2⟩) (by assumption) ?r2
  case y2 => (intro wq hSw; (try dsimp only at hSw); go_simp; (try with_reducible rfl))
  (try simp only [Act.put, List.getElem_toArray, List.getElem_cons_succ, List.getElem_cons_zero, List.setIfInBounds_toArray, List.set_cons_zero, List.set_cons_succ])
  refine wpAnyH_ready (rs := [3]) (by kernel_rfl) (by simp) ?_
  refine AllReadyH.cons rfl (fun K hK => ?_) AllReadyH.nil
  go_simp
  refine (all_c g W H _ _ _ _ _ _ P0.drew.1.1).mono ?_
  rintro e' w1 ⟨rfl, hb⟩; have P1 := P0.drew.next hb; clear hb
  (try dsimp only)
  refine hK.out _ _ (by exact P1.rect) (fun hHeld => ?_)
  clear hK K
  (try simp only [Act.put, List.getElem_toArray, List.getElem_cons_succ, List.getElem_cons_zero, List.setIfInBounds_toArray, List.set_cons_zero, List.set_cons_succ])
  refine wpAnyH_ready (rs := [4]) (by kernel_rfl) (by simp) ?_
  refine AllReadyH.cons rfl (fun K hK => ?_) AllReadyH.nil
  go_simp
  refine (HI.out _).mono ?_
  rintro e' w2 ⟨rfl, hb⟩; have P2 := P1.next hb; clear hb; obtain ⟨⟨b0, b1, b2, b3⟩, f0, f1, f2, f3⟩ := P2.clip
  (try dsimp only)
  refine hK.out _ _ (by exact P2.rect) (fun hHeld => ?_)
  clear hK K
  (try simp only [Act.put, List.getElem_toArray, List.getElem_cons_succ, List.getElem_cons_zero, List.setIfInBounds_toArray, List.set_cons_zero, List.set_cons_succ])
  refine wpAnyH_take (i := 5) (v := ?v5) rfl (by kernel_rfl) (by kernel_rfl) (by kernel_rfl) (fun _ _ _ h => h) (Or.inl ⟨by kernel_rfl, ?y5⟩) (by assumption) ?r5
  case y5 => (intro wq hSw; (try dsimp only at hSw); go_simp; (try with_reducible rfl))
  (try simp only [Act.put, List.getElem_toArray, List.getElem_cons_succ, List.getElem_cons_zero, List.setIfInBounds_toArray, List.set_cons_zero, List.set_cons_succ])
  refine wpAnyH_take (i := 6) (v := ?v6) rfl (by kernel_rfl) (by kernel_rfl) (by kernel_rfl) (fun _ _ _ h => h) (Or.inl ⟨by kernel_rfl, ?y6⟩) (by assumption) ?r6
  case y6 => (intro wq hSw; (try dsimp only at hSw); go_simp; (try with_reducible rfl))
  (try simp only [Act.put, List.getElem_toArray, List.getElem_cons_succ, List.getElem_cons_zero, List.setIfInBounds_toArray, List.set_cons_zero, List.set_cons_succ])
  refine wpAnyH_ready (rs := [7]) (by kernel_rfl) (by simp) ?_
  refine AllReadyH.cons rfl (fun K hK => ?_) AllReadyH.nil
  go_simp
  refine hK.out _ _ (by exact (P2.four d HD.out).rect) (fun hHeld => ?_)
  clear hK K
  (try simp only [Act.put, List.getElem_toArray, List.getElem_cons_succ, List.getElem_cons_zero, List.setIfInBounds_toArray, List.set_cons_zero, List.set_cons_succ])
  refine wpAnyH_done (by kernel_rfl) ?_ _
  refine NoPanic.normal ?_
  have P3 := P2.four d HD.out
  generalize (((w2.setCell ⟨g, 3, none⟩ (.int .i64 d.x)).setCell ⟨g, 4, none⟩ (.int .i64 d.y)).setCell ⟨g, 5, none⟩ (.int .i64 d.w)).setCell ⟨g, 6, none⟩ (.int .i64 d.h) = w3 at P3 ⊢
  clear hHeld b0 b1 b2 b3 f0 f1 f2 f3 P2 P1
  go_wp2
  go_end0
  exact ⟨rfl, P3.1, P3.2.2⟩
theorem clip_nil (x y a e : Int) (w : World) : Calls Try.prog 36 #[.pointer none, .agg #[.int .i64 x, .int .i64 y, .int .i64 a, .int .i64 e]] w fun e' w' => e' = .returned (.tuple #[]) ∧ Below w.heap.size w w' := by
  go_enter Try.func36, Try.ntmps36
  go_wp2
  go_end0
  exact ⟨rfl, by repeat' (first | (with_reducible exact Below.refl _ _) | (with_reducible assumption) | (with_reducible refine Below.alloc ?_ ?_ _) | (with_reducible refine Below.drew ?_) | (with_reducible refine Below.setCell ?_ ?_ _) | (with_reducible refine Below.on (by with_reducible assumption) ?_ ?_) | go_size)⟩
end Go.Proofs.Ytedhgdjlcddchaa
