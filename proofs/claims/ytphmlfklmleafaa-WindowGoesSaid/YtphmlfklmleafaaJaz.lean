/- The state that the laws keep: the code's tree and the document's beside it. -/
import Derived.Test.YtphmlfklmleafaaJay
section
namespace Go.Proofs.Ytphmlfklmleafaa
open Go.RowKit Go.Shelf Go.Maps
theorem foot_ne {w : World} {t : Nat} {l : Lay} {nd : Int → Option Nd} {made : Int} {cnt : Nat} (h : TreeH w t l nd made cnt) {g : Nat} {T : TypeId} {cs : Array Value} (hg : Blk w g T cs) (h1 : T ≠ 68) (h2 : T ≠ 77) (h3 : T ≠ 3) : ¬ l.foot t g := by
  rintro (e | e | ⟨i, hi⟩ | ⟨i, hi, hv⟩)
  · subst e
    exact Blk.ne_ hg h.tree h1 rfl
  · exact blk_not_map hg h.map e
  · obtain ⟨d, hd⟩ := h.ndOf hi
    exact Blk.ne_ hg (h.node i g d hi hd).1 h2 rfl
  · obtain ⟨b', hb'⟩ := Option.isSome_iff_exists.1 hi
    obtain ⟨d, hd⟩ := h.ndOf hb'
    obtain ⟨cs', hc⟩ := row_type (h.node i b' d hb' hd).2 hv
    exact Blk.ne_ hg hc h3 rfl
theorem ro_blk {w : World} {B : Nat} {sv : Value} {M : List Win} (h : OwK encW 50 7 w B sv M) {q : Nat} (hq : sv.ownBlock = some q) : ∃ cs, Blk w q 50 cs := by
  obtain ⟨_, h⟩ := h
  rcases h with ⟨rfl, _⟩ | ⟨g, cap, cur, rfl, _, hg, _⟩
  · cases hq
  · obtain rfl : g = q := by simpa [Value.ownBlock] using hq
    exact ⟨_, hg⟩
theorem ro_kept {w w' : World} {sv : Value} {M : List Win} (h : RO w sv M) (hk : ∀ q cs, Blk w q 50 cs → w'.heap[q]? = w.heap[q]?) : RO w' sv M := by
  have h0 := fun q hq => ro_blk h (q := q) hq
  obtain ⟨h1, h2⟩ := h
  refine ⟨h1, ?_⟩
  rcases h2 with h2 | ⟨g, cap, cur, rfl, h3, h4, h5⟩
  · exact .inl h2
  · obtain ⟨cs, hc⟩ := h0 g rfl
    exact .inr ⟨g, cap, cur, rfl, h3, (hk g cs hc).trans h4, h5⟩
theorem ty1 : (50 : Nat) ≠ 68 ∧ (50 : Nat) ≠ 77 ∧ (50 : Nat) ≠ 3 := by decide
theorem ty2 : (36 : Nat) ≠ 68 ∧ (36 : Nat) ≠ 77 ∧ (36 : Nat) ≠ 3 ∧ (50 : Nat) ≠ 36 := by decide
/-- Both trees: the code's at t, the document's in the block rb. -/
def Bo (w0 : World) (t rb : Nat) (R : RT) (L : List Win) (w : World) : Prop :=
  ∃ l sv, TB w t l R L ∧ Blk w rb 36 (refA R sv) ∧ RO w sv L ∧ Below w0.heap.size w0 w ∧ w0.heap.size ≤ rb ∧ ∀ b, l.foot t b → w0.heap.size ≤ b
section
variable {w0 w w' : World} {t rb : Nat} {R R' : RT} {L L' : List Win}
theorem Bo.next (h : Bo w0 t rb R L w) (hb : Below w.heap.size w w') : Bo w0 t rb R L w' := by
  obtain ⟨l, sv, h1, h2, h3, h4, h5, h6⟩ := h
  exact ⟨l, sv, h1.next hb, h2.next hb, OwK.below h3 hb, hb.on h4 h4.size, h5, h6⟩
theorem Bo.below (h : Bo w0 t rb R L w) : Below w0.heap.size w0 w := by
  obtain ⟨_, _, _, _, _, h4, _⟩ := h
  exact h4
/-- What stays beside a tree that a call changed. -/
theorem CT.ref {l : Lay} (hT : TB w t l R L) (h : CT R' L' t l w w') {g : Nat} {sv : Value} (hb : Blk w g 36 (refA R sv)) : Blk w' g 36 (refA R sv) := by
  obtain ⟨l', _, k⟩ := h
  exact k.blk hb (foot_ne hT hb ty2.1 ty2.2.1 ty2.2.2.1)
theorem CT.row {l : Lay} (hT : TB w t l R L) (h : CT R' L' t l w w') {sv : Value} {M : List Win} (hr : RO w sv M) : RO w' sv M := by
  obtain ⟨l', _, k⟩ := h
  exact ro_kept hr fun q cs hq => k.block q hq.lt (foot_ne hT hq ty1.1 ty1.2.1 ty1.2.2)
theorem heap6 {w : World} {g j : Nat} (hj : j ≠ g) (v0 v1 v2 v3 v4 v5 : Value) : ((((((w.setCell ⟨g, 0, none⟩ v0).setCell ⟨g, 1, none⟩ v1).setCell ⟨g, 2, none⟩ v2).setCell ⟨g, 3, none⟩ v3).setCell ⟨g, 4, none⟩ v4).setCell ⟨g, 5, none⟩ v5).heap[j]? = w.heap[j]? := by
  rw [Below.heap_setCell _ _ _ _ hj, Below.heap_setCell _ _ _ _ hj, Below.heap_setCell _ _ _ _ hj, Below.heap_setCell _ _ _ _ hj, Below.heap_setCell _ _ _ _ hj, Below.heap_setCell _ _ _ _ hj]
/-- The document's tree written into its block. -/
theorem tree6 {l : Lay} (hT : TB w t l R L) {g : Nat} {cs : Array Value} (hb : Blk w g 36 cs) (v0 v1 v2 v3 v4 v5 : Value) : TB ((((((w.setCell ⟨g, 0, none⟩ v0).setCell ⟨g, 1, none⟩ v1).setCell ⟨g, 2, none⟩ v2).setCell ⟨g, 3, none⟩ v3).setCell ⟨g, 4, none⟩ v4).setCell ⟨g, 5, none⟩ v5) t l R L :=
  hT.kept fun b hf => heap6 (show b ≠ g from fun e => foot_ne hT hb ty2.1 ty2.2.1 ty2.2.2.1 (by rw [← e]; exact hf)) _ _ _ _ _ _
theorem rows6 {sv : Value} {M : List Win} {g : Nat} {cs : Array Value} (h : RO w sv M) (hb : Blk w g 36 cs) (v0 v1 v2 v3 v4 v5 : Value) : RO ((((((w.setCell ⟨g, 0, none⟩ v0).setCell ⟨g, 1, none⟩ v1).setCell ⟨g, 2, none⟩ v2).setCell ⟨g, 3, none⟩ v3).setCell ⟨g, 4, none⟩ v4).setCell ⟨g, 5, none⟩ v5) sv M :=
  ro_kept h fun _ _ hq => heap6 (fun e => Blk.ne_ hq hb ty2.2.2.2 e) _ _ _ _ _ _
/-- The call done on both sides, and the new list put into the block. -/
theorem Bo.put {l : Lay} {sv sv' : Value} (hT : TB w t l R' L') (hb : Blk w rb 36 (refA R sv)) (hr : RO w sv' L') (h4 : Below w0.heap.size w0 w) (h5 : w0.heap.size ≤ rb) (h6 : ∀ b, l.foot t b → w0.heap.size ≤ b) :
    Bo w0 t rb R' L' ((((((w.setCell ⟨rb, 0, none⟩ (.int .i64 R'.x)).setCell ⟨rb, 1, none⟩ (.int .i64 R'.y)).setCell ⟨rb, 2, none⟩ (.int .i64 R'.w)).setCell ⟨rb, 3, none⟩ (.int .i64 R'.h)).setCell ⟨rb, 4, none⟩ (.int .i64 R'.last)).setCell ⟨rb, 5, none⟩ sv') :=
  ⟨l, sv', tree6 hT hb _ _ _ _ _ _, put6 hb _ _ _ _ _ _, rows6 hr hb _ _ _ _ _ _, set6 h4 h5 _ _ _ _ _ _, h5, h6⟩
theorem CT.out {l : Lay} (h : CT R' L' t l w w') (h4 : Below w0.heap.size w0 w) (h6 : ∀ b, l.foot t b → w0.heap.size ≤ b) : ∃ l', TB w' t l' R' L' ∧ Below w0.heap.size w0 w' ∧ (∀ b, l'.foot t b → w0.heap.size ≤ b) := by
  obtain ⟨l', k1, k2⟩ := h
  exact ⟨l', k1, k2.below h4 h4.size h6, k2.least h4.size h6⟩
end
end Go.Proofs.Ytphmlfklmleafaa
end
