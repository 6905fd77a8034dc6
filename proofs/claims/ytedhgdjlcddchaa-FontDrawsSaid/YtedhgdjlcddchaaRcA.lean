import Derived.Test.YtedhgdjlcddchaaRaX
import Derived.Test.YtedhgdjlcddchaaRaY
import Derived.Test.YtedhgdjlcddchaaGeoE
import Derived.Test.YtedhgdjlcddchaaGeoF
namespace Go.Proofs.Ytedhgdjlcddchaa
open Go.RowKit Go.Shelf
/-- What a place becomes, by the document's answer. -/
def colF (t : Pt) (i j u : Int) : Int :=
  if t.k = 0 then t.col else if t.k = 1 then blendI u t.col else if t.k = 2 then blitF t.mw.toNat t.x t.y t.zs i j u
  else if hasB (insetR t.x t.y t.a t.e t.wd t.wd t.wd t.wd).x (insetR t.x t.y t.a t.e t.wd t.wd t.wd t.wd).y (insetR t.x t.y t.a t.e t.wd t.wd t.wd t.wd).w (insetR t.x t.y t.a t.e t.wd t.wd t.wd t.wd).h i j = true then u else t.col
/-- A picture's colours can be asked for at this place. -/
def AskP (w : World) (s : Value) (t : Pt) (i j : Nat) : Prop :=
  t.k = 2 → Rd w s t.zs ∧ ∃ mw mh : Nat, t.mw = mw ∧ t.mh = mh ∧ mw ≤ 1024 ∧ mh ≤ 1024 ∧ t.zs.length = mw * mh ∧ hasB t.x t.y mw mh i j = true
set_option maxRecDepth 100000 in
set_option maxHeartbeats 4000000 in
theorem rcol_c (t : Pt) (p : Option Addr) (n cc : Nat) (i j : Nat) (u : Int) (w : World) (ht : t.ok) (hu : 0 ≤ u ∧ u < 4294967296) (hk : 0 ≤ t.k ∧ t.k ≤ 3) (hn : n = t.zs.length) (ha : AskP w (.slice p n cc) t i j) :
    Calls Try.prog 95 #[t.val (.slice p n cc), .int .i64 i, .int .i64 j, .int .u32 u] w fun e' w' => e' = .returned (.int .u32 (colF t i j u)) ∧ Below w.heap.size w w' := by
  obtain ⟨k, x, y, a, e, col, wd, mw, mh, zs⟩ := t
  unfold Pt.val colF
  unfold Pt.ok at ht
  unfold AskP at ha
  dsimp only at ht hk hn ha ⊢
  obtain ⟨hcol, hz, hw⟩ := ht
  have HB := (Below.refl w.heap.size w).alloc (Nat.le_refl _) (.cells #[.int .i64 k, .int .i64 x, .int .i64 y, .int .i64 a, .int .i64 e, .int .u32 col, .int .i64 wd, .int .i64 mw, .int .i64 mh, .slice p n cc] 96)
  have hkk : k = 0 ∨ k = 1 ∨ k = 2 ∨ k = 3 := by omega
  rcases hkk with rfl | rfl | rfl | rfl
  · rw [if_pos rfl]
    clear ha hn
    go_enter Try.func95, Try.ntmps95
    go_wp2
    go_ret
    exact ⟨rfl, HB⟩
  · rw [if_neg (by decide), if_pos rfl]
    clear ha hn
    go_enter Try.func95, Try.ntmps95
    go_wp2_with (go_at_call 112; refine (rblend_c _ _ _ hu.1 hu.2 hcol.1 hcol.2).mono ?_; rintro e w1 ⟨rfl, rfl⟩)
    go_ret
    exact ⟨rfl, HB⟩
  · rw [if_neg (by decide), if_neg (by decide), if_pos rfl]
    obtain ⟨hrd, mw', mh', rfl, rfl, h1, h2, hl, hh⟩ := ha rfl
    obtain ⟨u', v', e1, e2, e3, e4, e5, e6⟩ := blit_at (k := u) hl hh
    obtain ⟨hE, k1, k2, k3, k4⟩ := (hasB_iff _ _ _ _ _ _).1 hh
    obtain ⟨⟨g1, g2, g3, g4⟩, g5, g6, g7, g8⟩ := (emptyB_iff _ _ _ _).1 hE
    rw [Int.toNat_natCast]
    generalize blitF mw' x y zs i j u = z at e6 ⊢
    have d1 : (i : Int) - x = u' := by rw [IntWalk.i64_in _ (by omega)] at e1; exact e1
    have d2 : (j : Int) - y = v' := by rw [IntWalk.i64_in _ (by omega)] at e2; exact e2
    obtain ⟨pp, c', hpe, hcell⟩ := hrd
    obtain ⟨b, o, e7, _, e8⟩ := hcell _ _ e6
    simp only [Value.slice.injEq] at hpe
    have hp : p = some ⟨b, o, none⟩ := hpe.1.trans e7
    obtain ⟨q, hq⟩ : ∃ q, q = v' * mw' + u' := ⟨_, rfl⟩
    rw [← hq] at e5 e8
    have m0 : (v' : Int) * (mw' : Int) = ((v' * mw' : Nat) : Int) := by rw [Int.natCast_mul]
    have m1 : v' * mw' ≤ 1024 * 1024 := Nat.mul_le_mul (by omega) h1
    have p0 : 0 ≤ ((j : Int) - y) * (mw' : Int) := by rw [d2, m0]; omega
    have p1 : ((j : Int) - y) * (mw' : Int) ≤ 1048576 := by rw [d2, m0]; omega
    have p2 : ((j : Int) - y) * (mw' : Int) + (i : Int) - x = (q : Int) := by rw [d2, m0, hq]; omega
    have p3 : (q : Int) < (n : Int) := by rw [hn]; omega
    have j1 : 0 ≤ (j : Int) - y := by omega
    have j2 : (j : Int) - y ≤ 70000 := by omega
    clear ha hn hl hh e1 e2 e3 e4 e6 hE hcell hpe e7 hq m0 d1 d2 e5
    subst hp
    go_enter Try.func95, Try.ntmps95
    go_wp2
    go_ret
    exact ⟨rfl, HB⟩
  · rw [if_neg (by decide), if_neg (by decide), if_neg (by decide)]
    clear ha hn
    have hI := fun W1 => rinset_c x y a e wd wd wd wd W1
    generalize insetR x y a e wd wd wd wd = R at hI ⊢
    have HI := Lib.hid hI
    have hH := fun W1 => rhas_c R.x R.y R.w R.h i j W1
    clear hI
    cases hh : hasB R.x R.y R.w R.h i j
    · rw [hh] at hH
      have HH := Lib.hid hH
      rw [if_neg (by decide)]
      clear hH hh
      go_enter Try.func95, Try.ntmps95
      go_wp2_with (first
        | (go_at_call 113; refine (HI.out _).mono ?_; rintro e1 w1 ⟨rfl, hb⟩; have hb1 := HB.trans (hb.mono (by simp)); have P1 := (Blk.new w _ _).next hb; have q5 := P1.at_ (i := 5) rfl)
        | (go_at_call 55; refine (HH.out _).mono ?_; rintro e2 w2 ⟨rfl, hb2⟩; have P2 := P1.next hb2; have r5 := P2.at_ (i := 5) rfl))
      go_ret
      exact ⟨rfl, hb1.trans (hb2.mono hb1.size)⟩
    · rw [hh] at hH
      have HH := Lib.hid hH
      rw [if_pos rfl]
      clear hH hh
      go_enter Try.func95, Try.ntmps95
      go_wp2_with (first
        | (go_at_call 113; refine (HI.out _).mono ?_; rintro e1 w1 ⟨rfl, hb⟩; have hb1 := HB.trans (hb.mono (by simp)))
        | (go_at_call 55; refine (HH.out _).mono ?_; rintro e2 w2 ⟨rfl, hb2⟩))
      go_ret
      exact ⟨rfl, hb1.trans (hb2.mono hb1.size)⟩
end Go.Proofs.Ytedhgdjlcddchaa
