/- A split has other kids: its row is another one. -/
import Derived.Test.YtjeabkcbaielhaaCpA
namespace Go.Proofs.Ytjeabkcbaielhaa.Co
open Go.RowKit Go.Shelf
theorem rowOf_take (ks : List ATr) (i : Nat) (hi : i ≤ ks.length) : rowOf (ks.take i) = (rowOf ks).take (i * 5) := by
  have h := rowOf_append (ks.take i) (ks.drop i)
  rw [List.take_append_drop] at h
  have hl : (rowOf (ks.take i)).length = i * 5 := by rw [rowOf_len, List.length_take, Nat.min_eq_left hi]
  rw [h, List.take_append_of_le_length (by omega), List.take_of_length_le (l := rowOf (ks.take i)) (by omega)]
theorem rowOf_drop (ks : List ATr) (i : Nat) (hi : i ≤ ks.length) : rowOf (ks.drop i) = (rowOf ks).drop (i * 5) := by
  have h := rowOf_append (ks.take i) (ks.drop i)
  rw [List.take_append_drop] at h
  have hl : (rowOf (ks.take i)).length = i * 5 := by rw [rowOf_len, List.length_take, Nat.min_eq_left hi]
  rw [h, List.drop_append_of_le_length (by omega), List.drop_of_length_le (l := rowOf (ks.take i)) (by omega), List.nil_append]
theorem rowOf_one (ks : List ATr) : ∀ u ∈ rowOf ks, u.oneCell' = true := by
  intro u hu
  simp only [rowOf, List.mem_flatMap] at hu
  obtain ⟨x, _, hx⟩ := hu
  simp only [encC, List.mem_cons, List.not_mem_nil, or_false] at hx
  rcases hx with rfl | rfl | rfl | rfl | rfl
  · rfl
  · rfl
  · rfl
  · rfl
  · unfold slA slV; split <;> rfl
theorem rowOf_erase (ks : List ATr) (i : Nat) (hi : i < ks.length) : (rowOf ks).take (i * 5) ++ (rowOf ks).drop ((i + 1) * 5) = rowOf (ks.eraseIdx i) := by
  rw [← rowOf_take _ _ (by omega), ← rowOf_drop _ _ (by omega), ← rowOf_append, List.eraseIdx_eq_take_drop_succ]
theorem Own.rds {w : World} {a : AD} {ks : List ATr} (h : Own w (.mk a ks)) (hn : ks.length ≠ 0) : Rds w ⟨a.g, 0, none⟩ (rowOf ks) := by
  have hv : slV a.g a.cap ks.length = .slice (some ⟨a.g, 0, none⟩) ks.length a.cap := by unfold slV; rw [if_neg hn]
  have := h.1
  rw [hv] at this
  exact this.cells (g := a.g) rfl
theorem Own.cap_le {w : World} {a : AD} {ks : List ATr} (h : Own w (.mk a ks)) (hn : ks.length ≠ 0) : ks.length ≤ a.cap := by
  have hv : slV a.g a.cap ks.length = .slice (some ⟨a.g, 0, none⟩) ks.length a.cap := by unfold slV; rw [if_neg hn]
  rcases h.1.2 with ⟨_, h0⟩ | ⟨g, cap, cur, h1, _, _, h2, _⟩
  · exact absurd h0 hn
  · rw [hv] at h1
    obtain ⟨-, -, rfl⟩ := Value.slice.inj h1
    exact h2
section
variable {w w1 : World} {N r : Nat} {t s : ATr} {u : List Nat}
/-- A split's kids become others, in a row that is new. -/
theorem Root.kids {v : Value} {g cap : Nat} {ks : List ATr} (h : Root N w r t) (hs : get t u = some s) (hb : Below w.heap.size w w1) (hv : v = slV g cap ks.length) (ho : w1.ownsRow w.heap.size 24 5 v ks.length (rowOf ks))
    (hO : OwnL w1 ks) (hn : (blksL ks).Nodup) (hsub : ∀ b ∈ blksL ks, b ∈ blks s) (hN : N ≤ w.heap.size) :
    Root N (w1.setCell ⟨(loc r 0 t u).1, (loc r 0 t u).2 + 4, none⟩ v) r (Co.put t u (.mk ⟨s.a.d, g, cap⟩ ks)) ∧ Turn (fun b => b ∈ blks (topT r t)) (fun _ => False) w (w1.setCell ⟨(loc r 0 t u).1, (loc r 0 t u).2 + 4, none⟩ v) := by
  have h1 := h.next hb
  obtain ⟨cur, hc1, _, hc3⟩ := h1.block hs
  have hll := (h.held.get hs).lt
  have hR := ((Repl.refl hc1 hc3).set (f := 4) (by omega) (enc_len _ _) v).before (w0 := w) (hb.block _ hll)
  have hfar : ∀ x, x ≠ (loc r 0 t u).1 → (w1.setCell ⟨(loc r 0 t u).1, (loc r 0 t u).2 + 4, none⟩ v).heap[x]? = w1.heap[x]? := fun x hx => Below.heap_setCell w1 ⟨(loc r 0 t u).1, (loc r 0 t u).2 + 4, none⟩ v x hx
  have hni := h.loc_not hs
  have hgl : ∀ b, v.ownBlock = some b → b ≠ (loc r 0 t u).1 := fun b hb' e => by have := (ho.lt b hb').1; omega
  have hown : Own (w1.setCell ⟨(loc r 0 t u).1, (loc r 0 t u).2 + 4, none⟩ v) (.mk ⟨s.a.d, g, cap⟩ ks) := by
    refine ⟨?_, hO.same fun b hb' => hfar b fun e => hni (e ▸ hsub b hb')⟩
    have h2 := row_same' (w' := w1.setCell ⟨(loc r 0 t u).1, (loc r 0 t u).2 + 4, none⟩ v) ho fun b hb' => hfar b (hgl b hb')
    show World.ownsRow _ 0 _ 5 (slV g cap ks.length) ks.length (rowOf ks)
    rw [← hv]
    exact ⟨h2.1, h2.2.imp id fun ⟨g', c, cur, h3, _, h4⟩ => ⟨g', c, cur, h3, Nat.zero_le _, h4⟩⟩
  have hgn : ks.length ≠ 0 → w.heap.size ≤ g := fun h0 => (ho.lt g (by rw [hv]; unfold slV; rw [if_neg h0]; rfl)).1
  have hslt := (h.held.get hs).own.lt
  refine ⟨h.put hs (by rw [show encC (Tr.mk ⟨s.a.d, g, cap⟩ ks : ATr).a.d (slA (.mk ⟨s.a.d, g, cap⟩ ks)) = (encC s.a.d (slA s)).set 4 v by rw [hv]; rfl]; exact hR) (fun x hx _ hxl => (hfar x hxl).trans (hb.block x (h.lt x (by rw [blks_top]; exact hx)))) hown ?_ ?_ hN,
    ⟨hb.os, hb.tape, hb.output, by have := hb.size; simpa [World.setCell] using this, fun i hi hni' => (hfar i fun e => hni' (e ▸ h.loc_mem hs)).trans (hb.block i hi), fun _ h => h.elim⟩⟩
  · show ((if ks.length = 0 then [] else [g]) ++ blksL ks).Nodup
    split
    · exact hn
    · rename_i h0
      rw [List.singleton_append, List.nodup_cons]
      exact ⟨fun hm => by have := hslt g (hsub g hm); have := hgn h0; omega, hn⟩
  · intro x hx
    have hx : x ∈ (if ks.length = 0 then [] else [g]) ++ blksL ks := hx
    rw [List.mem_append] at hx
    rcases hx with hx | hx
    · split at hx
      · cases hx
      · rename_i h0
        simp at hx; subst hx
        exact .inr (hgn h0)
    · exact .inl (hsub x hx)
theorem blksL_erase {ks : List ATr} {i : Nat} : (blksL (ks.eraseIdx i)).Sublist (blksL ks) := by
  rw [blksL_eq, blksL_eq]
  have h := List.eraseIdx_sublist ks i
  generalize ks.eraseIdx i = l at h
  induction h with
  | slnil => exact List.Sublist.refl _
  | cons a h ih => rw [List.flatMap_cons]; exact ih.trans (List.sublist_append_right _ _)
  | cons_cons a h ih => rw [List.flatMap_cons, List.flatMap_cons]; exact (List.Sublist.refl _).append ih
theorem blksL_sub {a : AD} {ks : List ATr} : ∀ b ∈ blksL ks, b ∈ blks (.mk a ks) := fun b hb => by simp only [blks, List.mem_append]; exact .inr hb
theorem Root.nodup_at (h : Root N w r t) (hs : get t u = some s) : (blks s).Nodup := by
  obtain ⟨l1, l2, e1, _⟩ := blks_put (get_top (r := r) hs)
  have := h.nodup; rw [e1] at this; simp only [List.nodup_append] at this; exact this.1.2.1
/-- A kid less: the row that without tells. -/
theorem Root.erase {v : Value} {i : Nat} {a : AD} {ks : List ATr} (h : Root N w r t) (hs : get t u = some (.mk a ks)) (hi : i < ks.length) (hc : CatR w i (ks.length - (i + 1)) ((rowOf ks).take (i * 5)) ((rowOf ks).drop ((i + 1) * 5)) (.returned v) w1) (hN : N ≤ w.heap.size) :
    ∃ g cap, v = slV g cap (ks.eraseIdx i).length ∧ Root N (w1.setCell ⟨(loc r 0 t u).1, (loc r 0 t u).2 + 4, none⟩ v) r (Co.put t u (.mk ⟨a.d, g, cap⟩ (ks.eraseIdx i))) ∧ Turn (fun b => b ∈ blks (topT r t)) (fun _ => False) w (w1.setCell ⟨(loc r 0 t u).1, (loc r 0 t u).2 + 4, none⟩ v) := by
  obtain ⟨v', e, ho, hz, hb⟩ := hc
  injection e with e
  subst e
  have hlen : (ks.eraseIdx i).length = i + (ks.length - (i + 1)) := by rw [List.length_eraseIdx, if_pos hi]; omega
  rw [rowOf_erase ks i hi, ← hlen] at ho
  rw [← hlen] at hz
  have key : ∃ g cap, v = slV g cap (ks.eraseIdx i).length := by
    rcases ho.2 with ⟨h1, h2⟩ | ⟨g, cap, cur, h1, _⟩
    · exact ⟨0, 0, by rw [h1, h2]; rfl⟩
    · by_cases h0 : (ks.eraseIdx i).length = 0
      · exact ⟨0, 0, by rw [hz h0, h0]; rfl⟩
      · exact ⟨g, cap, by rw [h1]; unfold slV; rw [if_neg h0]⟩
  obtain ⟨g, cap, hv⟩ := key
  have hnd := h.nodup_at hs
  have hnd' : (blksL ks).Nodup := by simp only [blks, List.nodup_append] at hnd; exact hnd.2.1
  have hO := (h.held.get hs).own.2
  refine ⟨g, cap, hv, h.kids hs hb hv ho (OwnL_mem.2 fun x hx => (OwnL_mem.1 hO x (List.mem_of_mem_eraseIdx hx)).next hb) (hnd'.sublist blksL_erase) (fun b hb' => blksL_sub b (blksL_erase.subset hb')) hN⟩
end
end Go.Proofs.Ytjeabkcbaielhaa.Co
