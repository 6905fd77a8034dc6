import Derived.Test.YtedhgdjlcddchaaRcF
import Derived.Test.YtedhgdjlcddchaaRcE
namespace Go.Proofs.Ytedhgdjlcddchaa
open Go.RowKit Go.Shelf
/-- What a thing painted makes of the reference's picture and clip. -/
def refPix (W : Nat) (c : Rc) (t : Pt) (pix : List Int) : List Int :=
  if t.k = 0 ∨ t.k = 1 ∨ t.k = 3 ∧ 1 ≤ t.wd then pnt W (inB c t.x t.y t.a t.e) (colF t) pix
  else if t.k = 2 ∧ picB t.mw t.mh t.zs.length = true then pnt W (inB c t.x t.y t.mw t.mh) (colF ⟨t.k, t.x, t.y, t.mw, t.mh, t.col, t.wd, t.mw, t.mh, t.zs⟩) pix
  else pix
def refClip (W H : Nat) (c : Rc) (t : Pt) : Rc := if t.k = 4 then int ⟨0, 0, W, H⟩ ⟨t.x, t.y, t.a, t.e⟩ else c
abbrev cvA (W H b n cap : Nat) (c : Rc) : Value := .agg #[.int .i64 W, .int .i64 H, .slice (some ⟨b, 0, none⟩) n cap, .int .i64 c.x, .int .i64 c.y, .int .i64 c.w, .int .i64 c.h]
set_option maxRecDepth 100000 in
set_option maxHeartbeats 4000000 in
theorem rdoes_same (W H b n cc : Nat) (c : Rc) (k x y a e col wd mw mh : Int) (p : Option Addr) (m pc : Nat) (w : World)
    (hk : k < 0 ∨ 4 < k ∨ (k = 3 ∧ wd < 1) ∨ (k = 2 ∧ picB mw mh m = false)) :
    Calls Try.prog 69 #[cvA W H b n cc c, .agg #[.int .i64 k, .int .i64 x, .int .i64 y, .int .i64 a, .int .i64 e, .int .u32 col, .int .i64 wd, .int .i64 mw, .int .i64 mh, .slice p m pc]] w fun e' w' =>
      e' = .returned (cvA W H b n cc c) ∧ Below w.heap.size w w' := by
  rcases hk with hk | hk | ⟨rfl, hk⟩ | ⟨rfl, hk⟩
  · have k4 : (k == 4) = false := by simp; omega
    have k2 : (k == 2) = false := by simp; omega
    have k3 : (k == 3) = false := by simp; omega
    go_enter Try.func69, Try.ntmps69
    go_wp2
    refine bodyPost_ret (v := cvA W H b n cc c) (by simp [results, Try.results69, go_sem]) rfl ?_
    exact ⟨rfl, by repeat' (first | (with_reducible exact Below.refl _ _) | (with_reducible assumption) | (with_reducible refine Below.alloc ?_ ?_ _) | (with_reducible refine Below.drew ?_) | (with_reducible refine Below.setCell ?_ ?_ _) | (with_reducible refine Below.on (by with_reducible assumption) ?_ ?_) | go_size)⟩
  · have k4 : (k == 4) = false := by simp; omega
    have k2 : (k == 2) = false := by simp; omega
    have k3 : (k == 3) = false := by simp; omega
    have k0 : ¬ k < 0 := by omega
    have k5 : 3 < k := by omega
    go_enter Try.func69, Try.ntmps69
    go_wp2
    refine bodyPost_ret (v := cvA W H b n cc c) (by simp [results, Try.results69, go_sem]) rfl ?_
    exact ⟨rfl, by repeat' (first | (with_reducible exact Below.refl _ _) | (with_reducible assumption) | (with_reducible refine Below.alloc ?_ ?_ _) | (with_reducible refine Below.drew ?_) | (with_reducible refine Below.setCell ?_ ?_ _) | (with_reducible refine Below.on (by with_reducible assumption) ?_ ?_) | go_size)⟩
  · go_enter Try.func69, Try.ntmps69
    go_wp2
    refine bodyPost_ret (v := cvA W H b n cc c) (by simp [results, Try.results69, go_sem]) rfl ?_
    exact ⟨rfl, by repeat' (first | (with_reducible exact Below.refl _ _) | (with_reducible assumption) | (with_reducible refine Below.alloc ?_ ?_ _) | (with_reducible refine Below.drew ?_) | (with_reducible refine Below.setCell ?_ ?_ _) | (with_reducible refine Below.on (by with_reducible assumption) ?_ ?_) | go_size)⟩
  · have hRT := fun W1 => rright_pic mw mh p m pc W1
    rw [hk] at hRT
    have HRT := Lib.hid hRT
    clear hRT hk
    go_enter Try.func69, Try.ntmps69
    go_wp2_with (go_at_call 94; refine (HRT.out _).mono ?_; rintro e0 wq ⟨rfl, hbq⟩; have Q0 := qst_start w #[.int .i64 W, .int .i64 H, .slice (some ⟨b, 0, none⟩) n cc, .int .i64 c.x, .int .i64 c.y, .int .i64 c.w, .int .i64 c.h] #[.int .i64 2, .int .i64 x, .int .i64 y, .int .i64 mw, .int .i64 mh, .int .u32 col, .int .i64 wd, .int .i64 mw, .int .i64 mh, .slice p m pc] #[.int .i64 0, .int .i64 0, .slice none 0 0, .int .i64 0, .int .i64 0, .int .i64 0, .int .i64 0] hbq; clear hbq; obtain ⟨⟨c0, c1, c2, c3, c4, c5, c6⟩, _⟩ := Q0.1.c7; obtain ⟨⟨z0, z1, z2, z3, z4, z5, z6⟩, f0, f1, f2, f3, f4, f5, f6⟩ := Q0.2.2.1.c7; have hB := Q0.2.2.2; clear Q0)
    refine bodyPost_ret (v := cvA W H b n cc c) (by simp [results, Try.results69, go_sem, *]) rfl ?_
    exact ⟨rfl, by repeat' (first | (with_reducible exact Below.refl _ _) | (with_reducible assumption) | (with_reducible refine Below.alloc ?_ ?_ _) | (with_reducible refine Below.drew ?_) | (with_reducible refine Below.setCell ?_ ?_ _) | (with_reducible refine Below.on (by with_reducible assumption) ?_ ?_) | go_size)⟩
set_option maxRecDepth 100000 in
set_option maxHeartbeats 4000000 in
theorem rdoes_clip (W H b n cc : Nat) (c : Rc) (x y a e col wd mw mh : Int) (p : Option Addr) (m pc : Nat) (w : World) :
    Calls Try.prog 69 #[cvA W H b n cc c, .agg #[.int .i64 4, .int .i64 x, .int .i64 y, .int .i64 a, .int .i64 e, .int .u32 col, .int .i64 wd, .int .i64 mw, .int .i64 mh, .slice p m pc]] w fun e' w' =>
      e' = .returned (cvA W H b n cc (int ⟨0, 0, W, H⟩ ⟨x, y, a, e⟩)) ∧ Below w.heap.size w w' := by
  have HC := Lib.hid (fun W1 => rclip_c W H (some ⟨b, 0, none⟩) n cc c x y a e W1)
  generalize int ⟨0, 0, W, H⟩ ⟨x, y, a, e⟩ = d at HC ⊢
  go_enter Try.func69, Try.ntmps69
  go_wp2_with (go_at_call 41; refine (HC.out _).mono ?_; rintro e0 wq ⟨rfl, hbq⟩; have Q0 := qst_start w #[.int .i64 W, .int .i64 H, .slice (some ⟨b, 0, none⟩) n cc, .int .i64 c.x, .int .i64 c.y, .int .i64 c.w, .int .i64 c.h] #[.int .i64 4, .int .i64 x, .int .i64 y, .int .i64 a, .int .i64 e, .int .u32 col, .int .i64 wd, .int .i64 mw, .int .i64 mh, .slice p m pc] #[.int .i64 0, .int .i64 0, .slice none 0 0, .int .i64 0, .int .i64 0, .int .i64 0, .int .i64 0] hbq; clear hbq; obtain ⟨⟨z0, z1, z2, z3, z4, z5, z6⟩, f0, f1, f2, f3, f4, f5, f6⟩ := Q0.2.2.1.c7; have hB := Q0.2.2.2; clear Q0)
  refine bodyPost_ret (v := cvA W H b n cc d) (by simp [results, Try.results69, go_sem, *]) rfl ?_
  exact ⟨rfl, by repeat' (first | (with_reducible exact Below.refl _ _) | (with_reducible assumption) | (with_reducible refine Below.alloc ?_ ?_ _) | (with_reducible refine Below.drew ?_) | (with_reducible refine Below.setCell ?_ ?_ _) | (with_reducible refine Below.on (by with_reducible assumption) ?_ ?_) | go_size)⟩
set_option maxRecDepth 100000 in
set_option maxHeartbeats 2000000 in
/-- Does, by the document's answer, whatever is painted. -/
theorem rdoes_c (W H b n cc : Nat) (c : Rc) (pix : List Int) (t : Pt) (s : Value) (w : World) (hW : W ≤ 1024) (hH : H ≤ 1024) (hn : n = W * H) (hR : Row w b n pix) (hcols : Cols pix) (hs : RdB w.heap.size w s t.zs) (ht : t.ok) :
    Calls Try.prog 69 #[cvA W H b n cc c, t.val s] w fun e' w' => ∃ G cap, e' = .returned (cvA W H G n cap (refClip W H c t)) ∧ Row w' G n (refPix W c t pix) ∧ (G = b ∨ w.heap.size ≤ G) ∧ Below w.heap.size w w' := by
  obtain ⟨k, x, y, a, e, col, wd, mw, mh, zs⟩ := t
  obtain ⟨p, pc, rfl, hl, hcell⟩ := hs
  have hs : RdB w.heap.size w (.slice p zs.length pc) zs := ⟨p, pc, rfl, hl, hcell⟩
  unfold Pt.val
  dsimp only
  by_cases h01 : k = 0 ∨ k = 1
  · have e1 : refClip W H c ⟨k, x, y, a, e, col, wd, mw, mh, zs⟩ = c := if_neg (by show ¬ k = 4; omega)
    have e2 : refPix W c ⟨k, x, y, a, e, col, wd, mw, mh, zs⟩ pix = pnt W (inB c x y a e) (colF ⟨k, x, y, a, e, col, wd, mw, mh, zs⟩) pix := if_pos (h01.elim .inl fun h => .inr (.inl h))
    rw [e1, e2]
    exact (rdoes_plain W H b n cc c pix k x y a e col wd mw mh zs p zs.length pc w hW hH hn hR hcols rfl hs ht h01).mono fun e' w' ⟨G, cap, h1, h2, h3, h4⟩ => ⟨G, cap, h1, h2, .inr h3, h4⟩
  by_cases h3 : k = 3 ∧ 1 ≤ wd
  · obtain ⟨rfl, h3⟩ := h3
    have e1 : refClip W H c ⟨3, x, y, a, e, col, wd, mw, mh, zs⟩ = c := if_neg (by show ¬ (3 : Int) = 4; omega)
    have e2 : refPix W c ⟨3, x, y, a, e, col, wd, mw, mh, zs⟩ pix = pnt W (inB c x y a e) (colF ⟨3, x, y, a, e, col, wd, mw, mh, zs⟩) pix := if_pos (.inr (.inr ⟨rfl, h3⟩))
    rw [e1, e2]
    exact (rdoes_frame W H b n cc c pix 3 x y a e col wd mw mh zs p zs.length pc w hW hH hn hR hcols rfl hs ht rfl h3).mono fun e' w' ⟨G, cap, h1, h2, h3, h4⟩ => ⟨G, cap, h1, h2, .inr h3, h4⟩
  have n1 : ¬ (k = 0 ∨ k = 1 ∨ k = 3 ∧ 1 ≤ wd) := by omega
  by_cases h2 : k = 2 ∧ picB mw mh zs.length = true
  · obtain ⟨rfl, h2⟩ := h2
    have e1 : refClip W H c ⟨2, x, y, a, e, col, wd, mw, mh, zs⟩ = c := if_neg (by show ¬ (2 : Int) = 4; omega)
    have e2 : refPix W c ⟨2, x, y, a, e, col, wd, mw, mh, zs⟩ pix = pnt W (inB c x y mw mh) (colF ⟨2, x, y, mw, mh, col, wd, mw, mh, zs⟩) pix := (if_neg n1).trans (if_pos ⟨rfl, h2⟩)
    rw [e1, e2]
    exact (rdoes_blit W H b n cc c pix 2 x y a e col wd mw mh zs p zs.length pc w hW hH hn hR hcols rfl hs ht rfl h2).mono fun e' w' ⟨G, cap, h1, h2, h3, h4⟩ => ⟨G, cap, h1, h2, .inr h3, h4⟩
  have e2 : refPix W c ⟨k, x, y, a, e, col, wd, mw, mh, zs⟩ pix = pix := (if_neg n1).trans (if_neg h2)
  rw [e2]
  by_cases h4 : k = 4
  · subst h4
    have e1 : refClip W H c ⟨4, x, y, a, e, col, wd, mw, mh, zs⟩ = int ⟨0, 0, W, H⟩ ⟨x, y, a, e⟩ := if_pos rfl
    rw [e1]
    exact (rdoes_clip W H b n cc c x y a e col wd mw mh p zs.length pc w).mono fun e' w' h => ⟨b, cc, h.1, hR.next h.2, .inl rfl, h.2⟩
  · have e1 : refClip W H c ⟨k, x, y, a, e, col, wd, mw, mh, zs⟩ = c := if_neg h4
    rw [e1]
    refine (rdoes_same W H b n cc c k x y a e col wd mw mh p zs.length pc w ?_).mono fun e' w' h => ⟨b, cc, h.1, hR.next h.2, .inl rfl, h.2⟩
    by_cases k2 : k = 2
    · refine .inr (.inr (.inr ⟨k2, ?_⟩))
      cases hh : picB mw mh zs.length
      · rfl
      · exact absurd ⟨k2, hh⟩ h2
    · by_cases k3 : k = 3
      · exact .inr (.inr (.inl ⟨k3, by omega⟩))
      · omega
end Go.Proofs.Ytedhgdjlcddchaa
