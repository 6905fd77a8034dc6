import Derived.Test.YtjgleibbhgfcpaaRcG
import Derived.Test.YtjgleibbhgfcpaaRcH
namespace Go.Proofs.Ytjgleibbhgfcpaa
open Go.RowKit Go.Shelf
/-- Two rectangles that have the same places. -/
def Alike2 (C D : Rc) : Prop := ∀ i j, hasB C.x C.y C.w C.h i j = hasB D.x D.y D.w D.h i j
theorem step_ref {W H : Nat} {C D : Rc} {t : Pt} {pix : List Int} (hl : pix.length = W * H) (hcd : Alike2 C D) (ht : t.ok) : stepPix W C t pix = refPix W D t pix := by
  unfold Alike2 at hcd
  unfold stepPix refPix
  by_cases h0 : t.k = 0
  · rw [if_pos h0, if_pos (.inl h0)]
    refine pnt_congr hl fun i j _ _ u => ?_
    unfold inB colF
    rw [hcd, Bool.and_comm, if_pos h0]
  rw [if_neg h0]
  by_cases h1 : t.k = 1
  · rw [if_pos h1, if_pos (.inr (.inl h1))]
    refine pnt_congr hl fun i j _ _ u => ?_
    unfold inB colF
    rw [hcd, Bool.and_comm, if_neg h0, if_pos h1]
  rw [if_neg h1]
  by_cases h2 : t.k = 2
  · rw [if_pos h2, if_neg (by omega)]
    unfold blitP
    by_cases hp : picB t.mw t.mh t.zs.length = true
    · rw [if_pos hp, if_pos ⟨h2, hp⟩]
      refine pnt_congr hl fun i j _ _ u => ?_
      unfold inB colF
      dsimp only
      rw [hcd, Bool.and_comm, if_neg h0, if_neg h1, if_pos h2]
    · rw [if_neg hp, if_neg (fun h => hp h.2)]
  rw [if_neg h2]
  by_cases h3 : t.k = 3 ∧ 1 ≤ t.wd
  · rw [if_pos h3, if_pos (.inr (.inr h3)), frm_ref hl h3.2 ht.2.2]
    refine pnt_congr hl fun i j _ _ u => ?_
    unfold inB colF
    rw [hcd, if_neg h0, if_neg h1, if_neg h2]
  · rw [if_neg h3, if_neg (by omega), if_neg (fun h => h2 h.1)]
theorem clip_ref {W H : Nat} {C D : Rc} {t : Pt} (hcd : Alike2 C D) : Alike2 (stepClip W H C t) (refClip W H D t) := by
  unfold stepClip refClip
  by_cases h4 : t.k = 4
  · rw [if_pos h4, if_pos h4, int_comm]
    intro i j; rfl
  · rw [if_neg h4, if_neg h4]
    exact hcd
theorem clip_first (W H : Nat) : Alike2 (int ⟨0, 0, W, H⟩ ⟨0, 0, W, H⟩) ⟨0, 0, W, H⟩ := by
  intro i j
  rw [has_int, Bool.and_self]
end Go.Proofs.Ytjgleibbhgfcpaa
