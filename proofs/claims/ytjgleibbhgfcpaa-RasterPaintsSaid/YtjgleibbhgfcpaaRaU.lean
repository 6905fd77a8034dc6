import Derived.Test.YtjgleibbhgfcpaaRaT
namespace Go.Proofs.Ytjgleibbhgfcpaa
open Go.RowKit Go.Shelf
/-- A thing painted. -/
structure Pt where
  k : Int
  x : Int
  y : Int
  a : Int
  e : Int
  col : Int
  wd : Int
  mw : Int
  mh : Int
  zs : List Int
def Pt.val (t : Pt) (s : Value) : Value := .agg #[.int .i64 t.k, .int .i64 t.x, .int .i64 t.y, .int .i64 t.a, .int .i64 t.e, .int .u32 t.col, .int .i64 t.wd, .int .i64 t.mw, .int .i64 t.mh, s]
def Pt.ok (t : Pt) : Prop := (0 ≤ t.col ∧ t.col < 4294967296) ∧ Cols t.zs ∧ t.wd ≤ 9223372036854775807
def stepPix (W : Nat) (c : Rc) (t : Pt) (pix : List Int) : List Int :=
  if t.k = 0 then pnt W (fun i j => hasB t.x t.y t.a t.e i j && hasB c.x c.y c.w c.h i j) (fun _ _ _ => t.col) pix
  else if t.k = 1 then pnt W (fun i j => hasB t.x t.y t.a t.e i j && hasB c.x c.y c.w c.h i j) (fun _ _ u => blendI u t.col) pix
  else if t.k = 2 then blitP W c t.mw t.mh t.x t.y t.zs pix
  else if t.k = 3 ∧ 1 ≤ t.wd then frm W c t.x t.y t.a t.e (IntKind.i64.wrap (t.a - t.wd)) (IntKind.i64.wrap (t.e - t.wd)) t.col pix
  else pix
def stepClip (W H : Nat) (c : Rc) (t : Pt) : Rc := if t.k = 4 then int ⟨t.x, t.y, t.a, t.e⟩ ⟨0, 0, W, H⟩ else c
abbrev Off (g : Nat) (A : Option Nat) (i : Nat) : Prop := i ≠ g ∧ some i ≠ A
set_option maxRecDepth 100000 in
set_option maxHeartbeats 4000000 in
theorem does_fill (g : Nat) (A : Option Nat) (W H : Nat) (c : Rc) (pix : List Int) (t : Pt) (s : Value) (w : World) (hC : Canv w g A W H c pix) (hs : RdA A w s t.zs) (ht : t.ok) (hk : t.k = 0) :
    Calls Try.prog 33 #[.pointer (some ⟨g, 0, none⟩), t.val s] w fun e' w' => e' = .returned (.tuple #[]) ∧ Canv w' g A W H (stepClip W H c t) (stepPix W c t pix) ∧ Kept (Off g A) w w' := by
  obtain ⟨k, x, y, a, e, col, wd, mw, mh, zs⟩ := t
  unfold Pt.val
  unfold Pt.ok at ht
  dsimp only at hs ht hk ⊢
  obtain ⟨hcol, hz, hw⟩ := ht
  obtain ⟨p, cc, rfl, hs2⟩ := hs
  have hS0 : RdA A w (.slice p zs.length cc) zs := ⟨p, cc, rfl, hs2⟩
  have HB := (Below.refl w.heap.size w).alloc (Nat.le_refl _) (.cells #[.int .i64 k, .int .i64 x, .int .i64 y, .int .i64 a, .int .i64 e, .int .u32 col, .int .i64 wd, .int .i64 mw, .int .i64 mh, .slice p zs.length cc] 61)
  have hC1 := hC.next HB
  have hS1 := hS0.next HB
  have HC := Lib.hid hC1
  have HS := Lib.hid hS1
  clear hC hC1 hS0 hS1 hs2
  obtain rfl := hk
  have HP := Lib.hid (show stepPix W c ⟨0, x, y, a, e, col, wd, mw, mh, zs⟩ pix = pnt W (fun i j => hasB x y a e i j && hasB c.x c.y c.w c.h i j) (fun _ _ _ => col) pix by unfold stepPix; simp)
  have HQ := Lib.hid (show stepClip W H c ⟨0, x, y, a, e, col, wd, mw, mh, zs⟩ = c by unfold stepClip; simp)
  rw [HP.out, HQ.out]
  go_enter Try.func33, Try.ntmps33
  go_wp2_with (go_at_call 42; refine (fill_c g A W H c pix x y a e col _ HC.out hcol).mono ?_; rintro e1 w1 ⟨rfl, hC2, hg⟩)
  go_end0
  exact ⟨rfl, hC2, (Kept.of_below HB).trans (Kept.of_only hg (fun i hi => hi.2))⟩
set_option maxRecDepth 100000 in
set_option maxHeartbeats 4000000 in
theorem does_over (g : Nat) (A : Option Nat) (W H : Nat) (c : Rc) (pix : List Int) (t : Pt) (s : Value) (w : World) (hC : Canv w g A W H c pix) (hs : RdA A w s t.zs) (ht : t.ok) (hk : t.k = 1) :
    Calls Try.prog 33 #[.pointer (some ⟨g, 0, none⟩), t.val s] w fun e' w' => e' = .returned (.tuple #[]) ∧ Canv w' g A W H (stepClip W H c t) (stepPix W c t pix) ∧ Kept (Off g A) w w' := by
  obtain ⟨k, x, y, a, e, col, wd, mw, mh, zs⟩ := t
  unfold Pt.val
  unfold Pt.ok at ht
  dsimp only at hs ht hk ⊢
  obtain ⟨hcol, hz, hw⟩ := ht
  obtain ⟨p, cc, rfl, hs2⟩ := hs
  have hS0 : RdA A w (.slice p zs.length cc) zs := ⟨p, cc, rfl, hs2⟩
  have HB := (Below.refl w.heap.size w).alloc (Nat.le_refl _) (.cells #[.int .i64 k, .int .i64 x, .int .i64 y, .int .i64 a, .int .i64 e, .int .u32 col, .int .i64 wd, .int .i64 mw, .int .i64 mh, .slice p zs.length cc] 61)
  have hC1 := hC.next HB
  have hS1 := hS0.next HB
  have HC := Lib.hid hC1
  have HS := Lib.hid hS1
  clear hC hC1 hS0 hS1 hs2
  obtain rfl := hk
  have HP := Lib.hid (show stepPix W c ⟨1, x, y, a, e, col, wd, mw, mh, zs⟩ pix = pnt W (fun i j => hasB x y a e i j && hasB c.x c.y c.w c.h i j) (fun _ _ u => blendI u col) pix by unfold stepPix; simp)
  have HQ := Lib.hid (show stepClip W H c ⟨1, x, y, a, e, col, wd, mw, mh, zs⟩ = c by unfold stepClip; simp)
  rw [HP.out, HQ.out]
  go_enter Try.func33, Try.ntmps33
  go_wp2_with (go_at_call 65; refine (over_c g A W H c pix x y a e col _ HC.out hcol).mono ?_; rintro e1 w1 ⟨rfl, hC2, hg⟩)
  go_end0
  exact ⟨rfl, hC2, (Kept.of_below HB).trans (Kept.of_only hg (fun i hi => hi.2))⟩
set_option maxRecDepth 100000 in
set_option maxHeartbeats 4000000 in
theorem does_blit (g : Nat) (A : Option Nat) (W H : Nat) (c : Rc) (pix : List Int) (t : Pt) (s : Value) (w : World) (hC : Canv w g A W H c pix) (hs : RdA A w s t.zs) (ht : t.ok) (hk : t.k = 2) :
    Calls Try.prog 33 #[.pointer (some ⟨g, 0, none⟩), t.val s] w fun e' w' => e' = .returned (.tuple #[]) ∧ Canv w' g A W H (stepClip W H c t) (stepPix W c t pix) ∧ Kept (Off g A) w w' := by
  obtain ⟨k, x, y, a, e, col, wd, mw, mh, zs⟩ := t
  unfold Pt.val
  unfold Pt.ok at ht
  dsimp only at hs ht hk ⊢
  obtain ⟨hcol, hz, hw⟩ := ht
  obtain ⟨p, cc, rfl, hs2⟩ := hs
  have hS0 : RdA A w (.slice p zs.length cc) zs := ⟨p, cc, rfl, hs2⟩
  have HB := (Below.refl w.heap.size w).alloc (Nat.le_refl _) (.cells #[.int .i64 k, .int .i64 x, .int .i64 y, .int .i64 a, .int .i64 e, .int .u32 col, .int .i64 wd, .int .i64 mw, .int .i64 mh, .slice p zs.length cc] 61)
  have hC1 := hC.next HB
  have hS1 := hS0.next HB
  have HC := Lib.hid hC1
  have HS := Lib.hid hS1
  clear hC hC1 hS0 hS1 hs2
  obtain rfl := hk
  have HP := Lib.hid (show stepPix W c ⟨2, x, y, a, e, col, wd, mw, mh, zs⟩ pix = blitP W c mw mh x y zs pix by unfold stepPix; simp)
  have HQ := Lib.hid (show stepClip W H c ⟨2, x, y, a, e, col, wd, mw, mh, zs⟩ = c by unfold stepClip; simp)
  rw [HP.out, HQ.out]
  go_enter Try.func33, Try.ntmps33
  go_wp2_with (go_at_call 43; refine (blit_c g A W H c pix zs mw mh x y _ _ HC.out HS.out hz).mono ?_; rintro e1 w1 ⟨rfl, hC2, hg⟩)
  go_end0
  exact ⟨rfl, hC2, (Kept.of_below HB).trans (Kept.of_only hg (fun i hi => hi.2))⟩
set_option maxRecDepth 100000 in
set_option maxHeartbeats 4000000 in
theorem does_frame (g : Nat) (A : Option Nat) (W H : Nat) (c : Rc) (pix : List Int) (t : Pt) (s : Value) (w : World) (hC : Canv w g A W H c pix) (hs : RdA A w s t.zs) (ht : t.ok) (hk : t.k = 3 ∧ 1 ≤ t.wd) :
    Calls Try.prog 33 #[.pointer (some ⟨g, 0, none⟩), t.val s] w fun e' w' => e' = .returned (.tuple #[]) ∧ Canv w' g A W H (stepClip W H c t) (stepPix W c t pix) ∧ Kept (Off g A) w w' := by
  obtain ⟨k, x, y, a, e, col, wd, mw, mh, zs⟩ := t
  unfold Pt.val
  unfold Pt.ok at ht
  dsimp only at hs ht hk ⊢
  obtain ⟨hcol, hz, hw⟩ := ht
  obtain ⟨p, cc, rfl, hs2⟩ := hs
  have hS0 : RdA A w (.slice p zs.length cc) zs := ⟨p, cc, rfl, hs2⟩
  have HB := (Below.refl w.heap.size w).alloc (Nat.le_refl _) (.cells #[.int .i64 k, .int .i64 x, .int .i64 y, .int .i64 a, .int .i64 e, .int .u32 col, .int .i64 wd, .int .i64 mw, .int .i64 mh, .slice p zs.length cc] 61)
  have hC1 := hC.next HB
  have hS1 := hS0.next HB
  have HC := Lib.hid hC1
  have HS := Lib.hid hS1
  clear hC hC1 hS0 hS1 hs2
  obtain ⟨rfl, hk⟩ := hk
  have HP := Lib.hid (show stepPix W c ⟨3, x, y, a, e, col, wd, mw, mh, zs⟩ pix = frm W c x y a e (IntKind.i64.wrap (a - wd)) (IntKind.i64.wrap (e - wd)) col pix by unfold stepPix; simp [hk])
  have HQ := Lib.hid (show stepClip W H c ⟨3, x, y, a, e, col, wd, mw, mh, zs⟩ = c by unfold stepClip; simp)
  rw [HP.out, HQ.out]
  go_enter Try.func33, Try.ntmps33
  go_wp2_with (go_at_call 66; refine (frame_yes g A W H c pix x y a e wd col _ HC.out hcol hk).mono ?_; rintro e1 w1 ⟨rfl, hC2, hg⟩)
  go_end0
  exact ⟨rfl, hC2, (Kept.of_below HB).trans (Kept.of_only hg (fun i hi => hi.2))⟩
set_option maxRecDepth 100000 in
set_option maxHeartbeats 4000000 in
theorem does_thin (g : Nat) (A : Option Nat) (W H : Nat) (c : Rc) (pix : List Int) (t : Pt) (s : Value) (w : World) (hC : Canv w g A W H c pix) (hs : RdA A w s t.zs) (ht : t.ok) (hk : t.k = 3 ∧ t.wd < 1) :
    Calls Try.prog 33 #[.pointer (some ⟨g, 0, none⟩), t.val s] w fun e' w' => e' = .returned (.tuple #[]) ∧ Canv w' g A W H (stepClip W H c t) (stepPix W c t pix) ∧ Kept (Off g A) w w' := by
  obtain ⟨k, x, y, a, e, col, wd, mw, mh, zs⟩ := t
  unfold Pt.val
  unfold Pt.ok at ht
  dsimp only at hs ht hk ⊢
  obtain ⟨hcol, hz, hw⟩ := ht
  obtain ⟨p, cc, rfl, hs2⟩ := hs
  have hS0 : RdA A w (.slice p zs.length cc) zs := ⟨p, cc, rfl, hs2⟩
  have HB := (Below.refl w.heap.size w).alloc (Nat.le_refl _) (.cells #[.int .i64 k, .int .i64 x, .int .i64 y, .int .i64 a, .int .i64 e, .int .u32 col, .int .i64 wd, .int .i64 mw, .int .i64 mh, .slice p zs.length cc] 61)
  have hC1 := hC.next HB
  have hS1 := hS0.next HB
  have HC := Lib.hid hC1
  have HS := Lib.hid hS1
  clear hC hC1 hS0 hS1 hs2
  obtain ⟨rfl, hk⟩ := hk
  have HP := Lib.hid (show stepPix W c ⟨3, x, y, a, e, col, wd, mw, mh, zs⟩ pix = pix by unfold stepPix; simp; omega)
  have HQ := Lib.hid (show stepClip W H c ⟨3, x, y, a, e, col, wd, mw, mh, zs⟩ = c by unfold stepClip; simp)
  rw [HP.out, HQ.out]
  go_enter Try.func33, Try.ntmps33
  go_wp2_with (go_at_call 66; refine (frame_no x y a e wd col _ _ hk).mono ?_; rintro e1 w1 ⟨rfl, hb⟩)
  go_end0
  have hbw := HB.trans (hb.mono (by simp))
  exact ⟨rfl, HC.out.next hb, Kept.of_below hbw⟩
set_option maxRecDepth 100000 in
set_option maxHeartbeats 4000000 in
theorem does_clip (g : Nat) (A : Option Nat) (W H : Nat) (c : Rc) (pix : List Int) (t : Pt) (s : Value) (w : World) (hC : Canv w g A W H c pix) (hs : RdA A w s t.zs) (ht : t.ok) (hk : t.k = 4) :
    Calls Try.prog 33 #[.pointer (some ⟨g, 0, none⟩), t.val s] w fun e' w' => e' = .returned (.tuple #[]) ∧ Canv w' g A W H (stepClip W H c t) (stepPix W c t pix) ∧ Kept (Off g A) w w' := by
  obtain ⟨k, x, y, a, e, col, wd, mw, mh, zs⟩ := t
  unfold Pt.val
  unfold Pt.ok at ht
  dsimp only at hs ht hk ⊢
  obtain ⟨hcol, hz, hw⟩ := ht
  obtain ⟨p, cc, rfl, hs2⟩ := hs
  have hS0 : RdA A w (.slice p zs.length cc) zs := ⟨p, cc, rfl, hs2⟩
  have HB := (Below.refl w.heap.size w).alloc (Nat.le_refl _) (.cells #[.int .i64 k, .int .i64 x, .int .i64 y, .int .i64 a, .int .i64 e, .int .u32 col, .int .i64 wd, .int .i64 mw, .int .i64 mh, .slice p zs.length cc] 61)
  have hC1 := hC.next HB
  have hS1 := hS0.next HB
  have HC := Lib.hid hC1
  have HS := Lib.hid hS1
  clear hC hC1 hS0 hS1 hs2
  obtain rfl := hk
  have HP := Lib.hid (show stepPix W c ⟨4, x, y, a, e, col, wd, mw, mh, zs⟩ pix = pix by unfold stepPix; simp)
  have HQ := Lib.hid (show stepClip W H c ⟨4, x, y, a, e, col, wd, mw, mh, zs⟩ = int ⟨x, y, a, e⟩ ⟨0, 0, W, H⟩ by unfold stepClip; simp)
  rw [HP.out, HQ.out]
  go_enter Try.func33, Try.ntmps33
  go_wp2_with (go_at_call 41; refine (clip_c g A W H c pix x y a e _ HC.out).mono ?_; rintro e1 w1 ⟨rfl, hC2, hg⟩)
  go_end0
  exact ⟨rfl, hC2, (Kept.of_below HB).trans (Kept.of_only hg (fun i hi hh => hi.1 (by injection hh)))⟩
set_option maxRecDepth 100000 in
set_option maxHeartbeats 4000000 in
theorem does_other (g : Nat) (A : Option Nat) (W H : Nat) (c : Rc) (pix : List Int) (t : Pt) (s : Value) (w : World) (hC : Canv w g A W H c pix) (hs : RdA A w s t.zs) (ht : t.ok) (hk : t.k ≠ 0 ∧ t.k ≠ 1 ∧ t.k ≠ 2 ∧ t.k ≠ 3 ∧ t.k ≠ 4) :
    Calls Try.prog 33 #[.pointer (some ⟨g, 0, none⟩), t.val s] w fun e' w' => e' = .returned (.tuple #[]) ∧ Canv w' g A W H (stepClip W H c t) (stepPix W c t pix) ∧ Kept (Off g A) w w' := by
  obtain ⟨k, x, y, a, e, col, wd, mw, mh, zs⟩ := t
  unfold Pt.val
  unfold Pt.ok at ht
  dsimp only at hs ht hk ⊢
  obtain ⟨hcol, hz, hw⟩ := ht
  obtain ⟨p, cc, rfl, hs2⟩ := hs
  have hS0 : RdA A w (.slice p zs.length cc) zs := ⟨p, cc, rfl, hs2⟩
  have HB := (Below.refl w.heap.size w).alloc (Nat.le_refl _) (.cells #[.int .i64 k, .int .i64 x, .int .i64 y, .int .i64 a, .int .i64 e, .int .u32 col, .int .i64 wd, .int .i64 mw, .int .i64 mh, .slice p zs.length cc] 61)
  have hC1 := hC.next HB
  have hS1 := hS0.next HB
  have HC := Lib.hid hC1
  have HS := Lib.hid hS1
  clear hC hC1 hS0 hS1 hs2
  obtain ⟨k0, k1, k2, k3, k4⟩ := hk
  have e0 : (k == 0) = false := by simpa using k0
  have e1 : (k == 1) = false := by simpa using k1
  have e2 : (k == 2) = false := by simpa using k2
  have e3 : (k == 3) = false := by simpa using k3
  have e4 : (k == 4) = false := by simpa using k4
  have HP := Lib.hid (show stepPix W c ⟨k, x, y, a, e, col, wd, mw, mh, zs⟩ pix = pix by unfold stepPix; simp [k0, k1, k2, k3])
  have HQ := Lib.hid (show stepClip W H c ⟨k, x, y, a, e, col, wd, mw, mh, zs⟩ = c by unfold stepClip; simp [k4])
  rw [HP.out, HQ.out]
  go_enter Try.func33, Try.ntmps33
  go_wp2
  go_end0
  exact ⟨rfl, HC.out, Kept.of_below HB⟩
theorem does_c (g : Nat) (A : Option Nat) (W H : Nat) (c : Rc) (pix : List Int) (t : Pt) (s : Value) (w : World) (hC : Canv w g A W H c pix) (hs : RdA A w s t.zs) (ht : t.ok) :
    Calls Try.prog 33 #[.pointer (some ⟨g, 0, none⟩), t.val s] w fun e' w' => e' = .returned (.tuple #[]) ∧ Canv w' g A W H (stepClip W H c t) (stepPix W c t pix) ∧ Kept (Off g A) w w' := by
  by_cases h0 : t.k = 0
  · exact does_fill g A W H c pix t s w hC hs ht h0
  by_cases h1 : t.k = 1
  · exact does_over g A W H c pix t s w hC hs ht h1
  by_cases h2 : t.k = 2
  · exact does_blit g A W H c pix t s w hC hs ht h2
  by_cases h3 : t.k = 3
  · by_cases hw : 1 ≤ t.wd
    · exact does_frame g A W H c pix t s w hC hs ht ⟨h3, hw⟩
    · exact does_thin g A W H c pix t s w hC hs ht ⟨h3, by omega⟩
  by_cases h4 : t.k = 4
  · exact does_clip g A W H c pix t s w hC hs ht h4
  exact does_other g A W H c pix t s w hC hs ht ⟨h0, h1, h2, h3, h4⟩
end Go.Proofs.Ytjgleibbhgfcpaa
