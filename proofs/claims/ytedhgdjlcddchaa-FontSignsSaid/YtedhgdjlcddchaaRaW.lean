import Derived.Test.YtedhgdjlcddchaaRaV
namespace Go.Proofs.Ytedhgdjlcddchaa
open Go.RowKit Go.WideShapes Go.ChangeShapes Go.ChangeAt Go.Deep
theorem list_of {α : Type} {P : Nat → α → Prop} (n : Nat) (h : ∀ i, i < n → ∃ t, P i t) : ∃ l : List α, l.length = n ∧ ∀ (i : Nat) (t : α), l[i]? = some t → P i t := by
  induction n with
  | zero => exact ⟨[], rfl, fun i t ht => by simp at ht⟩
  | succ n ih =>
    obtain ⟨l, hl, hp⟩ := ih (fun i hi => h i (by omega))
    obtain ⟨t, ht⟩ := h n (by omega)
    refine ⟨l ++ [t], by simp [hl], fun i u hu => ?_⟩
    by_cases hi : i < n
    · rw [List.getElem?_append_left (by omega)] at hu
      exact hp i u hu
    · have hi' := (List.getElem?_eq_some_iff.1 hu).1
      simp at hi'
      have : i = n := by omega
      subst this
      rw [List.getElem?_append_right (by omega), hl] at hu
      simp at hu
      subst hu
      exact ht
def Pt.cells (t : Pt) (s : Value) : List Value := [.int .i64 t.k, .int .i64 t.x, .int .i64 t.y, .int .i64 t.a, .int .i64 t.e, .int .u32 t.col, .int .i64 t.wd, .int .i64 t.mw, .int .i64 t.mh, s]
/-- A slice of things painted, below block B. -/
def IsPaints (B : Nat) (w : World) (v : Value) (ts : List Pt) : Prop :=
  ∃ p c, v = .slice p ts.length c ∧ ts.length ≤ 9223372036854775807 ∧ ∀ (j : Nat) (t : Pt), ts[j]? = some t → ∃ b o s, p = some ⟨b, o, none⟩ ∧ b < B ∧
    (∀ (i : Nat) (u : Value), (t.cells s)[i]? = some u → w.cell? ⟨b, o + j * 10 + i, none⟩ = some u) ∧ RdB B w s t.zs ∧ t.ok
theorem IsPaints.below {B : Nat} {w w' : World} {v : Value} {ts : List Pt} (h : IsPaints B w v ts) (hb : Below B w w') : IsPaints B w' v ts := by
  obtain ⟨p, c, h1, h2, h3⟩ := h
  refine ⟨p, c, h1, h2, fun j t hu => ?_⟩
  obtain ⟨b, o, s, h4, h5, h6, h7, h8⟩ := h3 j t hu
  exact ⟨b, o, s, h4, h5, fun i u hi => (hb.cell (p := ⟨b, o + j * 10 + i, none⟩) h5).trans (h6 i u hi), h7.below hb, h8⟩
section
variable {H : Type} {enc : TypeId × Value → H} {w : World}
end
theorem step_out {W : Nat} {c : Rc} {t : Pt} {pix : List Int} {x y : Nat} (hx : x < W) (hn : hasB c.x c.y c.w c.h x y = false) : (stepPix W c t pix)[y * W + x]? = pix[y * W + x]? := by
  have key : ∀ (q : Int → Int → Bool) (f : Int → Int → Int → Int) (l : List Int), q x y = false → (pnt W q f l)[y * W + x]? = l[y * W + x]? := by
    intro q f l hq
    rw [pnt_at hx, hq]
    cases l[y * W + x]? <;> simp
  unfold stepPix
  split
  · exact key _ _ _ (by rw [hn, Bool.and_false])
  split
  · exact key _ _ _ (by rw [hn, Bool.and_false])
  split
  · unfold blitP
    split
    · exact key _ _ _ (by rw [hn, Bool.and_false])
    · rfl
  split
  · unfold frm
    rw [key _ _ _ (by unfold sideQ; rw [hn, Bool.and_false]), key _ _ _ (by unfold sideQ; rw [hn, Bool.and_false]), key _ _ _ (by unfold sideQ; rw [hn, Bool.and_false]), key _ _ _ (by unfold sideQ; rw [hn, Bool.and_false])]
  · rfl
end Go.Proofs.Ytedhgdjlcddchaa
