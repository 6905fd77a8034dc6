import Derived.Test.YtjgleibbhgfcpaaRaX
import Derived.Test.YtjgleibbhgfcpaaRaT
namespace Go.Proofs.Ytjgleibbhgfcpaa
open Go.RowKit Go.Shelf
theorem Own.rdA {w : World} {B b : Nat} {v : Value} {zs : List Int} (h : Own w B v zs) (hb : b < B) : RdA (some b) w v zs := by
  rcases h with ⟨rfl, rfl⟩ | ⟨g, cap, cur, rfl, hB, hblk, hc⟩
  · exact ⟨none, 0, rfl, fun j u hu => by simp at hu⟩
  · exact ⟨_, _, rfl, fun j u hu => ⟨g, 0, rfl, hblk.lt, by intro e; injection e with e; omega, by rw [Nat.zero_add]; exact hblk.at_ (hc j u hu)⟩⟩
theorem pnt_twice {W H : Nat} {q : Int → Int → Bool} {col : Int} {pix : List Int} (hl : pix.length = W * H) :
    pnt W q (fun _ _ _ => col) (pnt W q (fun _ _ _ => col) pix) = pnt W q (fun _ _ _ => col) pix := by
  rw [pnt_over]
  exact pnt_congr hl fun i j _ _ u => by rw [Bool.or_self]
/-- A picture painted on itself. -/
theorem blit_self {W H : Nat} {c : Rc} {pix : List Int} (hl : pix.length = W * H) : blitP W c W H 0 0 pix pix = pix := by
  unfold blitP
  split
  · rw [Int.toNat_natCast]
    apply List.ext_getElem?
    intro i
    rw [pnt_get]
    cases hi : pix[i]? with
    | none => rfl
    | some u =>
      have hlt : i < W * H := by rw [← hl]; exact (List.getElem?_eq_some_iff.1 hi).1
      simp only [Option.map_some, Option.some.injEq]
      split
      · unfold blitF
        rw [Int.sub_zero, Int.sub_zero, Int.toNat_natCast, Int.toNat_natCast, Nat.mul_comm, Nat.div_add_mod, List.getD_eq_getElem?_getD, hi]
        rfl
      · rfl
  · rfl
theorem Own.kept {N : Nat → Prop} {w w' : World} {B : Nat} {v : Value} {zs : List Int} (h : Own w B v zs) (k : Kept N w w') (hN : ∀ i, B ≤ i → N i) : Own w' B v zs := by
  rcases h with h | ⟨g, cap, cur, h1, h2, h3, h4⟩
  · exact Or.inl h
  · exact Or.inr ⟨g, cap, cur, h1, h2, k.blk h3 (hN g h2), h4⟩
/-- The same, its block below hi. -/
def OwnI (w : World) (B hi : Nat) (v : Value) (zs : List Int) : Prop :=
  (zs = [] ∧ v = .slice none 0 0) ∨ ∃ (g cap : Nat) (cur : Array Value), v = .slice (some ⟨g, 0, none⟩) zs.length cap ∧ B ≤ g ∧ g < hi ∧ Blk w g 45 cur ∧ ∀ (j : Nat) (u : Int), zs[j]? = some u → cur[j]? = some (Value.int .u32 u)
theorem Own.in_ {w : World} {B : Nat} {v : Value} {zs : List Int} (h : Own w B v zs) : OwnI w B w.heap.size v zs := by
  rcases h with h | ⟨g, cap, cur, h1, h2, h3, h4⟩
  · exact Or.inl h
  · exact Or.inr ⟨g, cap, cur, h1, h2, h3.lt, h3, h4⟩
theorem OwnI.own {w : World} {B hi : Nat} {v : Value} {zs : List Int} (h : OwnI w B hi v zs) : Own w B v zs := by
  rcases h with h | ⟨g, cap, cur, h1, h2, h3, h4, h5⟩
  · exact Or.inl h
  · exact Or.inr ⟨g, cap, cur, h1, h2, h4, h5⟩
theorem OwnI.kept {N : Nat → Prop} {w w' : World} {B hi : Nat} {v : Value} {zs : List Int} (h : OwnI w B hi v zs) (k : Kept N w w') (hN : ∀ i, B ≤ i → i < hi → N i) : OwnI w' B hi v zs := by
  rcases h with h | ⟨g, cap, cur, h1, h2, h3, h4, h5⟩
  · exact Or.inl h
  · exact Or.inr ⟨g, cap, cur, h1, h2, h3, k.blk h4 (hN g h2 h3), h5⟩
theorem OwnI.below {w w' : World} {B hi : Nat} {v : Value} {zs : List Int} (h : OwnI w B hi v zs) (hb : Below w.heap.size w w') : OwnI w' B hi v zs := h.kept (N := fun _ => True) (Kept.of_below hb) (fun _ _ _ => trivial)
theorem kept_set {N : Nat → Prop} {a w : World} (h : Kept N a w) {g : Nat} (hg : ¬ N g) (i : Nat) (u : Value) : Kept N a (w.setCell ⟨g, i, none⟩ u) :=
  ⟨h.1, h.2.1, h.2.2.1, by simpa [World.setCell] using h.2.2.2.1, fun k hk hn => (Below.heap_setCell w ⟨g, i, none⟩ u k (fun e => hg (by subst e; exact hn))).trans (h.2.2.2.2 k hk hn)⟩
theorem kept_refl (N : Nat → Prop) (w : World) : Kept N w w := ⟨rfl, rfl, rfl, Nat.le_refl _, fun _ _ _ => rfl⟩
/-- What the law has behind its pictures: canvas, first picture (below hi), its box, the rectangle's box. -/
def Wst (w0 : World) (g b W H : Nat) (c : Rc) (pix : List Int) (mb Bm hi : Nat) (M : Array Value) (v : Value) (wx : World) : Prop :=
  Canv wx g (some b) W H c pix ∧ Blk wx mb 54 M ∧ OwnI wx Bm hi v pix ∧ Below w0.heap.size w0 wx ∧ g < hi ∧ b < hi ∧ mb < hi ∧ w0.heap.size ≤ hi
section
variable {w0 wx w1 : World} {g b W H : Nat} {c : Rc} {pix : List Int} {mb Bm hi : Nat} {M : Array Value} {v : Value}
theorem Wst.next (h : Wst w0 g b W H c pix mb Bm hi M v wx) (hb : Below wx.heap.size wx w1) : Wst w0 g b W H c pix mb Bm hi M v w1 := ⟨h.1.next hb, h.2.1.next hb, h.2.2.1.below hb, h.2.2.2.1.trans (hb.mono h.2.2.2.1.size), h.2.2.2.2⟩
theorem Wst.drew (h : Wst w0 g b W H c pix mb Bm hi M v wx) : Wst w0 g b W H c pix mb Bm hi M v wx.drew := ⟨h.1, h.2.1, h.2.2.1, h.2.2.2.1.drew, h.2.2.2.2⟩
theorem Wst.kept {gn : Nat} (h : Wst w0 g b W H c pix mb Bm hi M v wx) (k : Kept (fun i => i ≠ gn) wx w1) (hg : hi ≤ gn) : Wst w0 g b W H c pix mb Bm hi M v w1 := by
  obtain ⟨⟨h1, h2, h3⟩, h4, h5, h6, h7, h8, h9, h10⟩ := h
  exact ⟨⟨k.blk h1 (by omega), fun b' hb => k.blk (h2 b' hb) (by injection hb with hb; omega), h3⟩, k.blk h4 (by omega), h5.kept k (fun i _ hi => by omega), Kept.below h6 k h6.size (fun i hi => by omega), h7, h8, h9, h10⟩
end
/-- The canvas of the law, and a picture that was told. -/
def Tst (w0 : World) (g b W H : Nat) (c : Rc) (n0 : Nat) (R : Array Value) (pix : List Int) (mb Bm : Nat) (M : Array Value) (v : Value) (zs : List Int) (wx : World) : Prop :=
  Cst w0 g b W H c n0 R pix wx ∧ Blk wx mb 54 M ∧ Own wx Bm v zs ∧ b < Bm ∧ g < Bm ∧ w0.heap.size ≤ Bm
section
variable {w0 wx w1 : World} {g b W H : Nat} {c : Rc} {n0 : Nat} {R : Array Value} {pix pix' zs : List Int} {mb Bm : Nat} {M : Array Value} {v : Value}
theorem Tst.next (h : Tst w0 g b W H c n0 R pix mb Bm M v zs wx) (hb : Below wx.heap.size wx w1) : Tst w0 g b W H c n0 R pix mb Bm M v zs w1 := ⟨h.1.next hb, h.2.1.next hb, h.2.2.1.below hb, h.2.2.2⟩
theorem Tst.step (h : Tst w0 g b W H c n0 R pix mb Bm M v zs wx) (hC : Canv w1 g (some b) W H c pix') (hk : Kept (Off g (some b)) wx w1) : Tst w0 g b W H c n0 R pix' mb Bm M v zs w1 :=
  ⟨h.1.step hC hk, hk.blk h.2.1 ⟨h.2.1.ne_ h.1.1.1 (by decide), fun e => h.2.1.ne_ (h.1.1.2.1 b rfl) (by decide) (by injection e)⟩, h.2.2.1.kept hk (fun i hi => ⟨by have := h.2.2.2.2.1; omega, fun e => by injection e with e; have := h.2.2.2.1; omega⟩), h.2.2.2⟩
end
set_option maxRecDepth 100000 in
set_option maxHeartbeats 8000000 in
theorem twice_w (a0 a1 : Int) (x y a e col : Int) (w : World) (h0 : (Lit.int .u8 a0).wf = true) (h1 : (Lit.int .u8 a1).wf = true) (h3 : (Lit.int .u32 col).wf = true) :
    Calls Try.prog 13 #[.int .u8 a0, .int .u8 a1, .agg #[.int .i64 x, .int .i64 y, .int .i64 a, .int .i64 e], .int .u32 col] w fun e' w' => e' = .returned (.bool true) ∧ Below w.heap.size w w' := by
  obtain ⟨u1, u2⟩ := wf_u8 h0
  obtain ⟨u3, u4⟩ := wf_u8 h1
  have hcol := wf_u32 h3
  clear h0 h1 h3
  obtain ⟨W, hW⟩ : ∃ W : Nat, a0 % 40 = (W : Int) := ⟨(a0 % 40).toNat, by omega⟩
  obtain ⟨H, hH⟩ : ∃ H : Nat, a1 % 40 = (H : Int) := ⟨(a1 % 40).toNat, by omega⟩
  have hW4 : W < 40 := by omega
  have hH4 : H < 40 := by omega
  go_enter Try.func13, Try.ntmps13
  go_wp2_with (first
    | (go_at_call 31; refine (new_yes W H 5 _ (by omega) (by omega) (by omega)).mono ?_; rintro e1 w1 ⟨g, b, rfl, hC, hg, hbg, hb⟩; have P1 : Cst w g b W H _ w.heap.size #[.int .i64 x, .int .i64 y, .int .i64 a, .int .i64 e] (List.replicate (W * H) 5) w1 := ⟨hC, (Blk.new w _ _).next hb, ((Below.refl _ w).alloc (Nat.le_refl _) _).trans (hb.mono (by simp)), by simp at hg; omega, by simp at hbg; omega, by simp at hg; omega, by simp at hbg; omega, Nat.le_refl _⟩; obtain ⟨⟨c0, c1, c2, c3⟩, _⟩ := P1.2.1.c4; clear hb hC hg hbg; generalize int ⟨0, 0, W, H⟩ ⟨0, 0, W, H⟩ = C at P1)
    | (go_at_call 42; refine (fill_c g (some b) W H C _ x y a e col _ P1.1 hcol).mono ?_; rintro e2 w2 ⟨rfl, hC2, hg2⟩; have P2 := P1.step hC2 (Kept.of_only hg2 (fun i hi => hi.2)); have HT := Lib.hid (pnt_twice (W := W) (H := H) (q := fun i j => hasB x y a e i j && hasB C.x C.y C.w C.h i j) (col := col) P1.1.2.2.2.1); clear hC2 hg2 P1 c0 c1 c2 c3; generalize pnt W (fun i j => hasB x y a e i j && hasB C.x C.y C.w C.h i j) (fun _ _ _ => col) (List.replicate (W * H) 5) = pix at P2 HT; have HL := Lib.hid P2.1.2.2.2.1)
    | (go_at_call 40; refine (image_c g b W H C pix _ P2.1).mono ?_; rintro e3 w3 ⟨v, rfl, hO, hb⟩; obtain ⟨p, cp, rfl⟩ := hO.slice; have P3 : Tst w g b W H C w.heap.size #[.int .i64 x, .int .i64 y, .int .i64 a, .int .i64 e] pix w3.heap.size w2.heap.size #[.int .i64 W, .int .i64 H, .slice p pix.length cp] (.slice p pix.length cp) pix (w3.alloc (.cells #[.int .i64 W, .int .i64 H, .slice p pix.length cp] 54)) := ⟨(P2.next hb).next ((Below.refl _ _).alloc (Nat.le_refl _) _), Blk.new _ _ _, hO.below ((Below.refl _ _).alloc (Nat.le_refl _) _), (P2.1.2.1 b rfl).lt, P2.1.lt, P2.2.2.1.size⟩; obtain ⟨⟨c0, c1, c2, c3⟩, _⟩ := (P2.next hb).2.1.c4; have l0 := (P2.next hb).2.1.lt; clear hb hO P2))
  generalize w3.alloc (.cells #[.int .i64 W, .int .i64 H, .slice p pix.length cp] 54) = w4 at P3 ⊢
  generalize w3.heap.size = mb at P3 ⊢
  generalize w2.heap.size = Bm at P3 ⊢
  clear c0 c1 c2 c3 l0
  refine (fill_c g (some b) W H C pix x y a e col _ P3.1.1 hcol).mono ?_
  rintro e4 w5 ⟨rfl, hC4, hg4⟩
  have P4 := P3.step (hC4.to HT.out) (Kept.of_only hg4 (fun i hi => hi.2))
  clear hC4 hg4 P3
  obtain ⟨⟨m0, m1, m2⟩, _⟩ := P4.2.1.c3
  go_wp2_with (first
    | (go_at_call 43; refine (blit_c g (some b) W H C pix pix W H 0 0 (.slice p pix.length cp) _ P4.1.1 (P4.2.2.1.rdA P4.2.2.2.1) P4.1.1.2.2.2.2.1).mono ?_; rintro e5 w6 ⟨rfl, hC5, hg5⟩; have P5 := P4.step (hC5.to (blit_self HL.out)) (Kept.of_only hg5 (fun i hi => hi.2)); clear hC5 hg5 P4 m0 m1 m2)
    | (go_at_call 40; refine (image_c g b W H C pix _ P5.1.1).mono ?_; rintro e6 w7 ⟨v2, rfl, hO2, hb⟩; obtain ⟨p2, cp2, rfl⟩ := hO2.slice; have P6 : Wst w g b W H C pix mb Bm w6.heap.size #[.int .i64 W, .int .i64 H, .slice p pix.length cp] (.slice p pix.length cp) w7 := (show Wst w g b W H C pix mb Bm w6.heap.size _ _ w6 from ⟨P5.1.1, P5.2.1, P5.2.2.1.in_, P5.1.2.2.1, P5.1.1.lt, (P5.1.1.2.1 b rfl).lt, P5.2.1.lt, P5.1.2.2.1.size⟩).next hb; clear hb P5; obtain ⟨⟨m0, m1, m2⟩, _⟩ := P6.2.1.c3; have l1 := P6.2.1.lt)
    | (go_at_call 39; refine (same_c W H _ _ pix _ (P6.2.2.1.own.rd.below ((Below.refl _ _).alloc (Nat.le_refl _) _)) (hO2.rd.below ((Below.refl _ _).alloc (Nat.le_refl _) _)) (by rw [HL.out]; exact Nat.le_trans (Nat.mul_le_mul (Nat.le_of_lt hW4) (Nat.le_of_lt hH4)) (by omega))).mono ?_; rintro e7 w8 ⟨rfl, hb⟩; have P7 := (P6.next ((Below.refl _ _).alloc (Nat.le_refl _) _)).next hb; have O7 := (hO2.below ((Below.refl _ _).alloc (Nat.le_refl _) _)).below hb; have M7 := (Blk.new w7 54 #[.int .i64 W, .int .i64 H, .slice p2 pix.length cp2]).next hb; clear hb hO2 P6 m0 m1 m2 l1))
  -- the pictures' colours are written
  have HL2 := Lib.hid (show pix.length ≤ 1073741824 by rw [HL.out]; exact Nat.le_trans (Nat.mul_le_mul (Nat.le_of_lt hW4) (Nat.le_of_lt hH4)) (by omega))
  have hl2 := HL2.out
  obtain ⟨n, hn⟩ : ∃ n, n = pix.length := ⟨_, rfl⟩
  rw [← hn] at hl2 M7 P7 O7 ⊢
  generalize w7.heap.size = nb at M7 ⊢
  generalize w6.heap.size = hi at P7 O7
  have hG : 0 < n → ∃ (gn : Nat) (cur : Array Value), p2 = some ⟨gn, 0, none⟩ ∧ hi ≤ gn ∧ Blk w8 gn 45 cur ∧ n ≤ cur.size := by
    intro h0
    rcases O7 with ⟨hz, _⟩ | ⟨gn, cap, cur, hv, h1, h2, h3⟩
    · rw [hn, hz] at h0; simp at h0
    · simp only [Value.slice.injEq] at hv
      refine ⟨gn, cur, hv.1, h1, h2, ?_⟩
      rcases Nat.lt_or_ge cur.size n with hlt | hge
      · obtain ⟨u, hu⟩ : ∃ u, pix[n - 1]? = some u := ⟨_, List.getElem?_eq_getElem (by omega)⟩
        have h4 := h3 _ _ hu
        have h5 := (Array.getElem?_eq_some_iff.1 h4).1
        omega
      · exact hge
  clear O7 hn
  go_loopw [13] (fun z wr => ∃ k : Nat, z = .int .i64 k ∧ k ≤ n ∧ Wst w g b W H C pix mb Bm hi #[.int .i64 W, .int .i64 H, .slice p n cp] (.slice p n cp) wr ∧ Blk wr nb 54 #[.int .i64 W, .int .i64 H, .slice p2 n cp2] ∧
    (0 < n → ∃ (gn : Nat) (cur : Array Value), p2 = some ⟨gn, 0, none⟩ ∧ hi ≤ gn ∧ Blk wr gn 45 cur ∧ n ≤ cur.size)) (fun z _ => n - (intOf z).toNat)
  case atStart => exact ⟨0, rfl, Nat.zero_le _, P7, M7, hG⟩
  case round =>
    obtain ⟨k, rfl, hk, P8, M8, hG8⟩ := hrel
    clear P7 M7 hG
    by_cases hlt : k < n
    · obtain ⟨gn, cur, rfl, hge, hB, hsz⟩ := hG8 (by omega)
      obtain ⟨u, hu⟩ : ∃ u, cur[k]? = some u := ⟨_, Array.getElem?_eq_getElem (by omega)⟩
      have c0 := hB.at_ hu
      have f0 := hB.frozen k
      obtain ⟨⟨m0, m1, m2⟩, _⟩ := M8.c3
      have hi0 : (0 : Int) ≤ (k : Int) := by omega
      have hi1 : (k : Int) < (n : Int) := by omega
      have P8' := P8.kept (kept_set (kept_refl (fun i => i ≠ gn) wr) (g := gn) (by simp) k (.int .u32 77)) hge
      have M8' := M8.far (p := ⟨gn, k, none⟩) (M8.ne_ hB (by decide)) (.int .u32 77)
      have B8' := hB.set_ k (.int .u32 77)
      clear hu hG8 P8 hB
      go_wp2
      go_roundw
      case rel => exact ⟨k + 1, by go_num, by omega, P8', M8', fun _ => ⟨gn, _, rfl, hge, B8', by simpa using hsz⟩⟩
      case measure => simp [intOf]; omega
    · clear hG8
      obtain ⟨⟨m0, m1, m2⟩, _⟩ := M8.c3
      have P9 := P8
      clear P8 hk hl2
      go_wp2
      refine wp_region_noPanic ?_
      refine wp_region_held_drew (S := fun wx => wx.cell? ⟨mb, 0, none⟩ = some (.int .i64 W) ∧ wx.cell? ⟨mb, 1, none⟩ = some (.int .i64 H) ∧ wx.cell? ⟨mb, 2, none⟩ = some (.slice p n cp)) (by kernel_rfl) (by exact P9.drew.2.1.c3.1) (fun hHeld => ?_)
      refine wpAnyH_take (i := 0) (v := ?v0) rfl (by kernel_rfl) (by kernel_rfl) (by kernel_rfl) (fun _ _ _ h => h) (Or.inl ⟨by kernel_rfl, ?y0⟩) (by assumption) ?r0
      case y0 => (intro wq hSw; (try dsimp only at hSw); go_simp; (try with_reducible rfl))
      (try simp only [Act.put, List.getElem_toArray, List.getElem_cons_zero, List.setIfInBounds_toArray, List.set_cons_zero, List.set_cons_succ])
      refine wpAnyH_take (i := 2) (v := ?v2) rfl (by kernel_rfl) (by kernel_rfl) (by kernel_rfl) (fun _ _ _ h => h) (Or.inl ⟨by kernel_rfl, ?y2⟩) (by assumption) ?r2
      case y2 => (intro wq hSw; (try dsimp only at hSw); go_simp; (try with_reducible rfl))
      (try simp only [Act.put, List.getElem_toArray, List.getElem_cons_succ, List.getElem_cons_zero, List.setIfInBounds_toArray, List.set_cons_zero, List.set_cons_succ])
      refine wpAnyH_ready (rs := [1]) (by kernel_rfl) (by simp) ?_
      refine AllReadyH.cons rfl (fun K hK => ?_) AllReadyH.nil
      go_simp
      refine (image_c g b W H C pix _ P9.drew.1).mono ?_
      rintro e8 w9 ⟨v3, rfl, hO3, hb⟩; have P10 := P9.drew.next hb; clear hb
      (try dsimp only)
      refine hK.out _ _ (by exact P10.2.1.c3.1) (fun hHeld => ?_)
      clear hK K
      (try simp only [Act.put, List.getElem_toArray, List.getElem_cons_succ, List.getElem_cons_zero, List.setIfInBounds_toArray, List.set_cons_zero, List.set_cons_succ])
      refine wpAnyH_ready (rs := [3]) (by kernel_rfl) (by simp) ?_
      refine AllReadyH.cons rfl (fun K hK => ?_) AllReadyH.nil
      go_simp
      refine (same_c W H _ _ pix _ hO3.rd P10.2.2.1.own.rd HL2.out).mono ?_
      rintro e9 w10 ⟨rfl, hb⟩; have P11 := P10.next hb; clear hb
      (try dsimp only)
      refine hK.out _ _ (by exact P11.2.1.c3.1) (fun hHeld => ?_)
      clear hK K
      (try simp only [Act.put, List.getElem_toArray, List.getElem_cons_succ, List.getElem_cons_zero, List.setIfInBounds_toArray, List.set_cons_zero, List.set_cons_succ])
      refine wpAnyH_take (i := 4) (v := ?v4) rfl (by kernel_rfl) (by kernel_rfl) (by kernel_rfl) (fun _ _ _ h => h) (Or.inl ⟨by kernel_rfl, ?y4⟩) (by assumption) ?r4
      case y4 => (intro wq hSw; (try dsimp only at hSw); go_simp; (try with_reducible rfl))
      (try simp only [Act.put, List.getElem_toArray, List.getElem_cons_succ, List.getElem_cons_zero, List.setIfInBounds_toArray, List.set_cons_zero, List.set_cons_succ])
      refine wpAnyH_ready (rs := [5]) (by kernel_rfl) (by simp) ?_
      refine AllReadyH.cons rfl (fun K hK => ?_) AllReadyH.nil
      go_simp
      refine (awake_c _).mono ?_
      rintro e10 w11 ⟨rfl, hb⟩; have P12 := P11.next hb; clear hb
      (try dsimp only)
      refine hK.out _ _ (by exact P12.2.1.c3.1) (fun hHeld => ?_)
      clear hK K
      (try simp only [Act.put, List.getElem_toArray, List.getElem_cons_succ, List.getElem_cons_zero, List.setIfInBounds_toArray, List.set_cons_zero, List.set_cons_succ])
      refine wpAnyH_take (i := 6) (v := ?v6) rfl (by kernel_rfl) (by kernel_rfl) (by kernel_rfl) (fun _ _ _ h => h) (Or.inl ⟨by kernel_rfl, ?y6⟩) (by assumption) ?r6
      case y6 => (intro wq hSw; (try dsimp only at hSw); go_simp; (try with_reducible rfl))
      (try simp only [Act.put, List.getElem_toArray, List.getElem_cons_succ, List.getElem_cons_zero, List.setIfInBounds_toArray, List.set_cons_zero, List.set_cons_succ])
      refine wpAnyH_take (i := 7) (v := ?v7) rfl (by kernel_rfl) (by kernel_rfl) (by kernel_rfl) (fun _ _ _ h => h) (Or.inl ⟨by kernel_rfl, ?y7⟩) (by assumption) ?r7
      case y7 => (intro wq hSw; (try dsimp only at hSw); go_simp; (try with_reducible rfl))
      (try simp only [Act.put, List.getElem_toArray, List.getElem_cons_succ, List.getElem_cons_zero, List.setIfInBounds_toArray, List.set_cons_zero, List.set_cons_succ])
      refine wpAnyH_done (by kernel_rfl) ?_ _
      refine NoPanic.normal ?_
      clear hHeld
      go_wp2
      go_ret
      exact ⟨rfl, P12.2.2.2.1⟩
end Go.Proofs.Ytjgleibbhgfcpaa
