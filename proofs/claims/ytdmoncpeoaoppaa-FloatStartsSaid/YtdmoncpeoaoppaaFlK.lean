/- Boxes that a call has: which blocks they are and what lies in them; what turns of it. -/
import Derived.Test.YtdmoncpeoaoppaaMem
namespace Go.Proofs.Ytdmoncpeoaoppaa.Fl
open Go.RowKit
/-- A call that began in w0 has these boxes (block, type, cells), each once and all its own; nothing older has changed. -/
structure Bk (w0 : World) (bs : List (Nat × TypeId × Array Value)) (w : World) : Prop where
  below : Below w0.heap.size w0 w
  blk : ∀ b ∈ bs, Blk w b.1 b.2.1 b.2.2
  own : ∀ b ∈ bs, w0.heap.size ≤ b.1
  once : (bs.map (·.1)).Nodup
section
variable {w0 w w' : World} {bs : List (Nat × TypeId × Array Value)}
theorem Bk.start (w : World) : Bk w [] w := ⟨Below.refl _ _, fun _ h => (List.not_mem_nil h).elim, fun _ h => (List.not_mem_nil h).elim, List.Pairwise.nil⟩
theorem Bk.next (h : Bk w0 bs w) (hb : Below w.heap.size w w') : Bk w0 bs w' :=
  ⟨h.below.trans (hb.mono h.below.size), fun b hm => (h.blk b hm).next hb, h.own, h.once⟩
theorem Bk.drew (h : Bk w0 bs w) : Bk w0 bs w.drew := ⟨h.below.drew, fun b hm => (h.blk b hm).drew, h.own, h.once⟩
theorem Bk.drewN (h : Bk w0 bs w) (n : Nat) : Bk w0 bs (w.drewN n) := ⟨below_drewN h.below n, fun b hm => (h.blk b hm).drewN n, h.own, h.once⟩
theorem Bk.alloc (h : Bk w0 bs w) (cs : Array Value) (t : TypeId) : Bk w0 (bs ++ [(w.heap.size, t, cs)]) (w.alloc (.cells cs t)) := by
  refine ⟨h.below.alloc h.below.size _, fun b hm => ?_, fun b hm => ?_, ?_⟩
  · rw [List.mem_append, List.mem_singleton] at hm
    rcases hm with hm | rfl
    · exact (h.blk b hm).alloc _
    · exact Blk.new _ _ _
  · rw [List.mem_append, List.mem_singleton] at hm
    rcases hm with hm | rfl
    · exact h.own b hm
    · exact h.below.size
  · rw [List.map_append, List.nodup_append]
    refine ⟨h.once, by simp, fun x hx y hy => ?_⟩
    rw [List.mem_map] at hx
    obtain ⟨b, hb, rfl⟩ := hx
    simp at hy
    subst hy
    have := (h.blk b hb).lt
    omega
theorem Bk.get (h : Bk w0 bs w) (i : Nat) {g : Nat} {t : TypeId} {cs : Array Value} (hi : bs[i]? = some (g, t, cs)) : Blk w g t cs := h.blk _ (List.mem_of_getElem? hi)
/-- One cell of a box is another. -/
theorem Bk.set1 (h : Bk w0 bs w) (i : Nat) {g : Nat} {t : TypeId} {cs : Array Value} (hi : bs[i]? = some (g, t, cs)) (k : Nat) (v : Value) : Bk w0 (bs.set i (g, t, cs.setIfInBounds k v)) (w.setCell ⟨g, k, none⟩ v) := by
  obtain ⟨hl, he⟩ := List.getElem?_eq_some_iff.1 hi
  have hg := h.own _ (List.mem_of_getElem? hi)
  have hmap : (bs.set i (g, t, cs.setIfInBounds k v)).map (·.1) = bs.map (·.1) := by
    rw [List.map_set]
    apply List.ext_getElem?
    intro j
    by_cases hj : i = j
    · subst hj; rw [List.getElem?_set_self (by simpa using hl), List.getElem?_map, hi]; rfl
    · rw [List.getElem?_set_ne hj]
  refine ⟨Below.setCell h.below hg v, fun b hm => ?_, fun b hm => ?_, by rw [hmap]; exact h.once⟩
  · obtain ⟨j, hj⟩ := List.getElem?_of_mem hm
    by_cases e : i = j
    · subst e
      rw [List.getElem?_set_self hl] at hj
      have := Option.some.inj hj
      subst this
      exact (h.get i hi).set_ k v
    · rw [List.getElem?_set_ne e] at hj
      refine (h.blk b (List.mem_of_getElem? hj)).far (fun c => e ?_) v
      have n1 : (bs.map (·.1))[i]? = some g := by rw [List.getElem?_map, hi]; rfl
      have n2 : (bs.map (·.1))[j]? = some b.1 := by rw [List.getElem?_map, hj]; rfl
      obtain ⟨l1, -⟩ := List.getElem?_eq_some_iff.1 n1
      exact (List.getElem?_inj l1 h.once).1 (by rw [n1, n2, c])
  · rcases List.mem_or_eq_of_mem_set hm with hm | rfl
    · exact h.own b hm
    · exact hg
theorem Bk.same {bs' : List (Nat × TypeId × Array Value)} (h : Bk w0 bs w) (e : bs = bs') : Bk w0 bs' w := e ▸ h
theorem Bk.put4 (h : Bk w0 bs w) (i : Nat) {g : Nat} {t : TypeId} {a b c d : Value} (hi : bs[i]? = some (g, t, #[a, b, c, d])) (p q r s : Value) :
    Bk w0 (bs.set i (g, t, #[p, q, r, s])) ((((w.setCell ⟨g, 0, none⟩ p).setCell ⟨g, 1, none⟩ q).setCell ⟨g, 2, none⟩ r).setCell ⟨g, 3, none⟩ s) := by
  have hl := (List.getElem?_eq_some_iff.1 hi).1
  have h1 := h.set1 i hi 0 p
  have h2 := h1.set1 i (List.getElem?_set_self hl) 1 q
  have h3 := h2.set1 i (List.getElem?_set_self (by simpa using hl)) 2 r
  have h4 := h3.set1 i (List.getElem?_set_self (by simpa using hl)) 3 s
  simp only [List.set_set] at h4
  exact h4
end
end Go.Proofs.Ytdmoncpeoaoppaa.Fl
