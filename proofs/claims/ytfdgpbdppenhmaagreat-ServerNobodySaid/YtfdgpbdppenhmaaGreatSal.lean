/- The reference's tree: seen, Under. -/
import Derived.Test.YtfdgpbdppenhmaaGreatSak
section
namespace Go.Proofs.YtfdgpbdppenhmaaGreat
open Go.RowKit Go.Shelf
/-- Each number is one window's. -/
def Uniq (R : RT) (L : List Win) : Prop := ∀ v ∈ L, getR R L v.id = some v
theorem nd_of {R : RT} {L : List Win} (hU : Uniq R L) {v : Win} (hv : v ∈ L) : ndL R L v.id = some ⟨v, kidsL L v.id⟩ := by
  unfold ndL; rw [hU v hv]; rfl
theorem ndL_id {R : RT} {L : List Win} {i : Int} {d : Nd} (h : ndL R L i = some d) : d.win.id = i := by
  obtain ⟨h1, _⟩ := ndL_some h
  unfold getR at h1
  split at h1
  · next e => injection h1 with h1; rw [← h1, e]; rfl
  · unfold findL at h1
    cases hp : placeN i L with
    | none => rw [hp] at h1; cases h1
    | some k =>
      rw [hp] at h1
      obtain ⟨v, h2, h3, _⟩ := placeN_get L k hp
      rw [show L[k]? = some d.win from h1] at h2
      injection h2 with h2
      rw [h2]; exact h3
theorem below_window {wb wr w1 : World} {v : Array Value} (h : Below wb.heap.size wb wr) (hb : Below (wr.alloc (.cells v 61)).heap.size (wr.alloc (.cells v 61)) w1) : Below wb.heap.size wb w1 := hb.on (h.alloc h.size _) (by have := h.size; simp; omega)
theorem win_kept7 {w w' : World} {v : Array Value} (hb : Below (w.alloc (.cells v 61)).heap.size (w.alloc (.cells v 61)) w') : Blk w' w.heap.size 61 v := (Blk.new w _ _).next hb
section
variable {R : RT} {L : List Win}
end
end Go.Proofs.YtfdgpbdppenhmaaGreat
end
