import Derived.Test.YtjgleibbhgfcpaaRaV
namespace Go.Proofs.Ytjgleibbhgfcpaa
open Go.RowKit Go.WideShapes Go.ChangeShapes Go.ChangeAt Go.Deep
theorem list_of {α : Type} {P : Nat → α → Prop} (n : Nat) (h : ∀ i, i < n → ∃ t, P i t) : ∃ l : List α, l.length = n ∧ ∀ (i : Nat) (t : α), l[i]? = some t → P i t := by
  induction n with
  | zero => exact ⟨[], rfl, fun i t ht => by simp at ht⟩
  | succ n ih =>
    obtain ⟨l, hl, hp⟩ := ih (fun i hi => h i (by omega))
    obtain ⟨t, ht⟩ := h n (by omega)
    refine ⟨l ++ [t], by simp [hl], fun i u hu => ?_⟩
    by_cases hi : i < n
    · rw [List.getElem?_append_left (by omega)] at hu
      exact hp i u hu
    · have hi' := (List.getElem?_eq_some_iff.1 hu).1
      simp at hi'
      have : i = n := by omega
      subst this
      rw [List.getElem?_append_right (by omega), hl] at hu
      simp at hu
      subst hu
      exact ht
def Pt.cells (t : Pt) (s : Value) : List Value := [.int .i64 t.k, .int .i64 t.x, .int .i64 t.y, .int .i64 t.a, .int .i64 t.e, .int .u32 t.col, .int .i64 t.wd, .int .i64 t.mw, .int .i64 t.mh, s]
/-- A slice of things painted, below block B. -/
def IsPaints (B : Nat) (w : World) (v : Value) (ts : List Pt) : Prop :=
  ∃ p c, v = .slice p ts.length c ∧ ts.length ≤ 9223372036854775807 ∧ ∀ (j : Nat) (t : Pt), ts[j]? = some t → ∃ b o s, p = some ⟨b, o, none⟩ ∧ b < B ∧
    (∀ (i : Nat) (u : Value), (t.cells s)[i]? = some u → w.cell? ⟨b, o + j * 10 + i, none⟩ = some u) ∧ RdB B w s t.zs ∧ t.ok
theorem IsPaints.below {B : Nat} {w w' : World} {v : Value} {ts : List Pt} (h : IsPaints B w v ts) (hb : Below B w w') : IsPaints B w' v ts := by
  obtain ⟨p, c, h1, h2, h3⟩ := h
  refine ⟨p, c, h1, h2, fun j t hu => ?_⟩
  obtain ⟨b, o, s, h4, h5, h6, h7, h8⟩ := h3 j t hu
  exact ⟨b, o, s, h4, h5, fun i u hi => (hb.cell (p := ⟨b, o + j * 10 + i, none⟩) h5).trans (h6 i u hi), h7.below hb, h8⟩
section
variable {H : Type} {enc : TypeId × Value → H} {w : World}
set_option maxRecDepth 100000 in
theorem paints_of {b0 : Nat} {v : Value} {d : DataW H} {q : List MemPlace} (hv : Value.okWide Try.prog w .any b0 48 v) (h : DataW.Trod enc Try.prog w 0 (fun _ => true) true 48 v d q) :
    ∃ ts, IsPaints w.heap.size w v ts := by
  obtain ⟨a0, len, cap, rfl⟩ := okWide_slice Try.underlying48 hv
  obtain ⟨fuel, hf⟩ := h
  rcases open_slice Try.underlying48 hf with ⟨hcs, _⟩ | ⟨a, len', cap', m, n, D, Pl, hcs, _, hl, hm, hmm, _, hi⟩
  · simp only [Value.cells, List.cons.injEq, Value.slice.injEq, and_true] at hcs
    obtain ⟨rfl, rfl, rfl⟩ := hcs
    exact ⟨[], none, 0, rfl, by simp, fun j t ht => by simp at ht⟩
  · simp only [Value.cells, List.cons.injEq, Value.slice.injEq, and_true] at hcs
    obtain ⟨rfl, rfl, rfl⟩ := hcs
    simp only [if_true] at hmm
    subst hmm
    have hel : ∀ i, i < len → ∃ t : Pt, ∃ s, (∀ (k : Nat) (u : Value), (t.cells s)[k]? = some u → w.cell? (a.add (i * 10 + k)) = some u) ∧ RdB w.heap.size w s t.zs ∧ t.ok := by
      intro i hlt
      obtain ⟨cs', hc, ht⟩ := hi i (by omega)
      rw [cs_paint] at hc
      obtain ⟨t, s, rfl, h1, h2⟩ := open_paint ht
      obtain ⟨_, _, hat⟩ := World.cells?_some hc
      refine ⟨t, s, fun k u hu => ?_, h1, h2⟩
      have hk : k < 10 := by have := (List.getElem?_eq_some_iff.1 hu).1; simpa [Pt.cells] using this
      have := hat k hk
      rw [← Go.Deep.add_add, this]
      exact hu
    obtain ⟨ts, hts, hp⟩ := list_of len hel
    refine ⟨ts, some a, m, by rw [hts], by rw [hts]; unfold maxLen at hm; omega, fun j t ht => ?_⟩
    obtain ⟨s, h1, h2, h3⟩ := hp j t ht
    have h0 : 0 < ts.length := by have := (List.getElem?_eq_some_iff.1 ht).1; omega
    obtain ⟨s0, k1, _, _⟩ := hp 0 _ (List.getElem?_eq_getElem h0)
    have h10 := k1 0 _ rfl
    rw [show 0 * 10 + 0 = 0 from rfl, show a.add 0 = a by unfold Addr.add; simp] at h10
    have e : a = ⟨a.block, a.off, none⟩ := cell_spot h10
    refine ⟨a.block, a.off, s, by rw [← e], block_of_cell h10, fun k u hu => ?_, h2, h3⟩
    have := h1 k u hu
    rw [e, Addr.add_lit] at this
    rw [← this, Nat.add_assoc]
end
theorem step_out {W : Nat} {c : Rc} {t : Pt} {pix : List Int} {x y : Nat} (hx : x < W) (hn : hasB c.x c.y c.w c.h x y = false) : (stepPix W c t pix)[y * W + x]? = pix[y * W + x]? := by
  have key : ∀ (q : Int → Int → Bool) (f : Int → Int → Int → Int) (l : List Int), q x y = false → (pnt W q f l)[y * W + x]? = l[y * W + x]? := by
    intro q f l hq
    rw [pnt_at hx, hq]
    cases l[y * W + x]? <;> simp
  unfold stepPix
  split
  · exact key _ _ _ (by rw [hn, Bool.and_false])
  split
  · exact key _ _ _ (by rw [hn, Bool.and_false])
  split
  · unfold blitP
    split
    · exact key _ _ _ (by rw [hn, Bool.and_false])
    · rfl
  split
  · unfold frm
    rw [key _ _ _ (by unfold sideQ; rw [hn, Bool.and_false]), key _ _ _ (by unfold sideQ; rw [hn, Bool.and_false]), key _ _ _ (by unfold sideQ; rw [hn, Bool.and_false]), key _ _ _ (by unfold sideQ; rw [hn, Bool.and_false])]
  · rfl
end Go.Proofs.Ytjgleibbhgfcpaa
