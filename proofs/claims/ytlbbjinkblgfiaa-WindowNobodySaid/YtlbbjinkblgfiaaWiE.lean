/- A tree turned: a cell of a node, a node's slice. -/
import Derived.Test.YtlbbjinkblgfiaaWiD
namespace Go.Proofs.Ytlbbjinkblgfiaa
open Go.RowKit Go.Shelf Go.Maps
/-- The tree behind a call: where its nodes lie, what it holds; only its own blocks have turned. -/
def TreeTo (w : World) (t : Nat) (l : Lay) (nb' : Int → Option Nat) (nd' : Int → Option Nd) (made' : Int) (cnt' : Nat) (w' : World) : Prop :=
  ∃ l', l'.nb = nb' ∧ TreeH w' t l' nd' made' cnt' ∧ Turn (l.foot t) (l'.foot t) w w'
section
variable {w w' w1 wa : World} {t : Nat} {l : Lay} {nd : Int → Option Nd} {made : Int} {cnt : Nat}
theorem kv_same (l : Lay) (p : Int) : ({ l with kv := upd l.kv p (l.kv p) } : Lay) = l := by
  rw [upd_self rfl]
/-- A cell of a node written. -/
theorem TreeH.cell (h : TreeH w t l nd made cnt) {p : Int} {bp : Nat} (hp : l.nb p = some bp) {d : Nd} (hd : nd p = some d) (k : Nat) (u : Value) (win' : Win) (hu : (ndA d (l.kv p)).setIfInBounds k u = ndA ⟨win', d.kids⟩ (l.kv p)) :
    TreeH (w.setCell ⟨bp, k, none⟩ u) t l (upd nd p (some ⟨win', d.kids⟩)) made cnt ∧ Turn (l.foot t) (l.foot t) w (w.setCell ⟨bp, k, none⟩ u) := by
  have hps : (l.nb p).isSome = true := by rw [hp]; rfl
  have hkeep : ∀ i, i < w.heap.size → i ≠ bp → some i ≠ (l.kv p).ownBlock → (w.setCell ⟨bp, k, none⟩ u).heap[i]? = w.heap[i]? := fun i _ hi _ => Below.heap_setCell w _ u i hi
  obtain ⟨h1, h2⟩ := h.node p bp d hp hd
  have hb := h1.set_ k u
  rw [hu] at hb
  have hr : (w.setCell ⟨bp, k, none⟩ u).ownsRow 0 3 1 (l.kv p) d.kids.length (intsV d.kids) := row_same h2 fun r hr => Below.heap_setCell w _ u r (fun e => h.node_row hp hps hr e.symm)
  have ht := h.put hp ⟨win', d.kids⟩ (l.kv p) hkeep hb hr (fun r hr => .inl hr)
  have hT := h.put_turn (w' := w.setCell ⟨bp, k, none⟩ u) hp (l.kv p) ⟨rfl, rfl, rfl, by simp [World.setCell]⟩ hkeep (fun r hr => .inl hr)
  rw [kv_same] at ht hT
  exact ⟨ht, hT⟩
/-- A node's slice turned, and stored. -/
theorem TreeH.grow (h : TreeH w t l nd made cnt) {p : Int} {bp : Nat} (hp : l.nb p = some bp) {d : Nd} (hd : nd p = some d) (hb : Below w.heap.size w wa) (hg : wa.grownBy w1 (l.kv p).ownBlock) {v' : Value} {ks : List Int}
    (ho : w1.ownsRow 0 3 1 v' ks.length (intsV ks)) (hv : ∀ r, v'.ownBlock = some r → (l.kv p).ownBlock = some r ∨ w.heap.size ≤ r) :
    TreeH (w1.setCell ⟨bp, 7, none⟩ v') t { l with kv := upd l.kv p v' } (upd nd p (some ⟨d.win, ks⟩)) made cnt ∧ Turn (l.foot t) (({ l with kv := upd l.kv p v' } : Lay).foot t) w (w1.setCell ⟨bp, 7, none⟩ v') := by
  have hps : (l.nb p).isSome = true := by rw [hp]; rfl
  obtain ⟨h1, h2⟩ := h.node p bp d hp hd
  have hlt := h1.lt
  have hkeep1 : ∀ i, i < w.heap.size → some i ≠ (l.kv p).ownBlock → w1.heap[i]? = w.heap[i]? := fun i hi hn => (hg.block i (Nat.lt_of_lt_of_le hi hb.size) hn).trans (hb.block i hi)
  have hkeep : ∀ i, i < w.heap.size → i ≠ bp → some i ≠ (l.kv p).ownBlock → (w1.setCell ⟨bp, 7, none⟩ v').heap[i]? = w.heap[i]? := fun i hi hne hn => (Below.heap_setCell w1 _ v' i hne).trans (hkeep1 i hi hn)
  have hbk : Blk w1 bp 77 (ndA d (l.kv p)) := (hkeep1 bp hlt (fun e => h.node_row hp hps e.symm rfl)).trans h1
  have hb2 : Blk (w1.setCell ⟨bp, 7, none⟩ v') bp 77 (ndA ⟨d.win, ks⟩ v') := hbk.set_ 7 v'
  have hr : (w1.setCell ⟨bp, 7, none⟩ v').ownsRow 0 3 1 v' ks.length (intsV ks) := row_same ho fun r hr => Below.heap_setCell w1 _ v' r (fun e => by
    rcases hv r hr with h3 | h3
    · exact h.node_row hp hps h3 e.symm
    · dsimp only at e; omega)
  refine ⟨h.put hp ⟨d.win, ks⟩ v' hkeep hb2 hr hv, h.put_turn hp v' ⟨?_, ?_, ?_, ?_⟩ hkeep hv⟩
  · exact hg.os.trans hb.os
  · exact hg.tape.trans hb.tape
  · exact hg.output.trans hb.output
  · have := hg.size; have := hb.size; simp [World.setCell]; omega
/-- A node's cells. -/
theorem TreeH.cells (h : TreeH w t l nd made cnt) {p : Int} {bp : Nat} (hp : l.nb p = some bp) {d : Nd} (hd : nd p = some d) :
    (w.cell? ⟨bp, 0, none⟩ = some (.int .i64 d.win.id) ∧ w.cell? ⟨bp, 1, none⟩ = some (.int .i64 d.win.par) ∧ w.cell? ⟨bp, 2, none⟩ = some (.int .i64 d.win.x) ∧ w.cell? ⟨bp, 3, none⟩ = some (.int .i64 d.win.y) ∧
      w.cell? ⟨bp, 4, none⟩ = some (.int .i64 d.win.w) ∧ w.cell? ⟨bp, 5, none⟩ = some (.int .i64 d.win.h) ∧ w.cell? ⟨bp, 6, none⟩ = some (.bool d.win.on) ∧ w.cell? ⟨bp, 7, none⟩ = some (l.kv p)) ∧ ∀ k, w.frozen? ⟨bp, k, none⟩ = false := by
  obtain ⟨h1, _⟩ := h.node p bp d hp hd
  exact ⟨⟨h1.at_ (i := 0) rfl, h1.at_ (i := 1) rfl, h1.at_ (i := 2) rfl, h1.at_ (i := 3) rfl, h1.at_ (i := 4) rfl, h1.at_ (i := 5) rfl, h1.at_ (i := 6) rfl, h1.at_ (i := 7) rfl⟩, fun k => h1.frozen k⟩
end
end Go.Proofs.Ytlbbjinkblgfiaa
