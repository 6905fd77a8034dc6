/- A split's kids become others in memory, in place or elsewhere: an insertion. -/
import Derived.Test.YtjlkmcoamcclgaaCqA
namespace Go.Proofs.Ytjlkmcoamcclgaa.Co
open Go.RowKit Go.Shelf
theorem slV_own {g cap n : Nat} {b : Nat} (h : (slV g cap n).ownBlock = some b) : n ≠ 0 ∧ b = g := by
  unfold slV at h
  split at h
  · cases h
  · rename_i h0; exact ⟨h0, (Option.some.inj h).symm⟩
theorem slA_own {s : ATr} {b : Nat} (h : (slA s).ownBlock = some b) : s.ks.length ≠ 0 ∧ b = s.a.g := slV_own h
theorem own_in {s : ATr} (h : s.ks.length ≠ 0) : s.a.g ∈ blks s := by
  obtain ⟨a, ks⟩ := s
  simp only [blks, Tr.a_mk, Tr.ks_mk] at h ⊢
  rw [if_neg h]; simp
theorem own_out {s : ATr} (hn : (blks s).Nodup) (h : s.ks.length ≠ 0) : s.a.g ∉ blksL s.ks := by
  obtain ⟨a, ks⟩ := s
  simp only [blks, Tr.a_mk, Tr.ks_mk] at hn h ⊢
  rw [if_neg h, List.singleton_append, List.nodup_cons] at hn
  exact hn.1
theorem blksL_in {s : ATr} : ∀ b ∈ blksL s.ks, b ∈ blks s := by obtain ⟨a, ks⟩ := s; exact blksL_sub
section
variable {w w1 : World} {N r : Nat} {t s : ATr} {u : List Nat}
theorem Root.row {v : Value} {g cap : Nat} {ks : List ATr} (h : Root N w r t) (hs : get t u = some s) (hb : w.grownBy w1 (slA s).ownBlock) (hv : v = slV g cap ks.length) (ho : w1.ownsRow 0 24 5 v ks.length (rowOf ks))
    (hg : v.ownBlock = (slA s).ownBlock ∨ ∃ b, v.ownBlock = some b ∧ w.heap.size ≤ b) (hO : OwnL w1 ks) (hn : (blksL ks).Nodup) (hsub : ∀ b ∈ blksL ks, b ∈ blksL s.ks) (hN : N ≤ w.heap.size) :
    Root N (w1.setCell ⟨(loc r 0 t u).1, (loc r 0 t u).2 + 4, none⟩ v) r (Co.put t u (.mk ⟨s.a.d, g, cap⟩ ks)) ∧ Turn (fun b => b ∈ blks (topT r t)) (fun _ => False) w (w1.setCell ⟨(loc r 0 t u).1, (loc r 0 t u).2 + 4, none⟩ v) := by
  have hni := h.loc_not hs
  have hns := h.nodup_at hs
  have hll := (h.held.get hs).lt
  have hslt := (h.held.get hs).own.lt
  have hkeep : ∀ b, b < w.heap.size → b ∉ blks s → w1.heap[b]? = w.heap[b]? := fun b hl hx => hb.block b hl fun e => by
    obtain ⟨h0, e⟩ := slA_own e.symm
    exact hx (e ▸ own_in h0)
  have hll1 : w1.heap[(loc r 0 t u).1]? = w.heap[(loc r 0 t u).1]? := hkeep _ hll hni
  obtain ⟨cur, hc1, _, hc3⟩ := h.block hs
  have hR := ((Repl.refl (w := w1) (hll1.trans hc1) hc3).set (f := 4) (by omega) (enc_len _ _) v).before (w0 := w) hll1
  have hfar : ∀ x, x ≠ (loc r 0 t u).1 → (w1.setCell ⟨(loc r 0 t u).1, (loc r 0 t u).2 + 4, none⟩ v).heap[x]? = w1.heap[x]? := fun x hx => Below.heap_setCell w1 ⟨(loc r 0 t u).1, (loc r 0 t u).2 + 4, none⟩ v x hx
  have hgb : ∀ b, v.ownBlock = some b → b ∈ blks s ∨ w.heap.size ≤ b := fun b hb' => by
    rcases hg with hg | ⟨b', hg, hl⟩
    · rw [hg] at hb'
      obtain ⟨h0, e⟩ := slA_own hb'
      exact .inl (e ▸ own_in h0)
    · rw [hg] at hb'; have := Option.some.inj hb'; omega
  have hgl : ∀ b, v.ownBlock = some b → b ≠ (loc r 0 t u).1 := fun b hb' e => by
    rcases hgb b hb' with h2 | h2
    · exact hni (e ▸ h2)
    · omega
  have hown : Own (w1.setCell ⟨(loc r 0 t u).1, (loc r 0 t u).2 + 4, none⟩ v) (.mk ⟨s.a.d, g, cap⟩ ks) := by
    refine ⟨?_, hO.same fun b hb' => hfar b fun e => hni (e ▸ blksL_in b (hsub b hb'))⟩
    have h2 := row_same' (w' := w1.setCell ⟨(loc r 0 t u).1, (loc r 0 t u).2 + 4, none⟩ v) ho fun b hb' => hfar b (hgl b hb')
    show World.ownsRow _ 0 _ 5 (slV g cap ks.length) ks.length (rowOf ks)
    rw [← hv]
    exact h2
  have hgo : ks.length ≠ 0 → v.ownBlock = some g := fun h0 => by rw [hv]; unfold slV; rw [if_neg h0]; rfl
  refine ⟨h.put hs (by rw [show encC (Tr.mk ⟨s.a.d, g, cap⟩ ks : ATr).a.d (slA (.mk ⟨s.a.d, g, cap⟩ ks)) = (encC s.a.d (slA s)).set 4 v by rw [hv]; rfl]; exact hR) (fun x hx hxs hxl => (hfar x hxl).trans (hkeep x (h.lt x (by rw [blks_top]; exact hx)) hxs)) hown ?_ ?_ hN,
    ⟨hb.os, hb.tape, hb.output, by have := hb.size; simpa [World.setCell] using this, fun i hi hni' => (hfar i fun e => hni' (e ▸ h.loc_mem hs)).trans (hkeep i hi fun hm => hni' (by rw [blks_top, List.mem_cons]; exact .inr (blks_get hs i hm))), fun _ h => h.elim⟩⟩
  · show ((if ks.length = 0 then [] else [g]) ++ blksL ks).Nodup
    split
    · exact hn
    · rename_i h0
      rw [List.singleton_append, List.nodup_cons]
      refine ⟨fun hm => ?_, hn⟩
      have hm := hsub g hm
      rcases hg with hg | ⟨b', hg, hl⟩
      · rw [hgo h0] at hg
        obtain ⟨h1, e⟩ := slA_own hg.symm
        exact own_out hns h1 (e ▸ hm)
      · rw [hgo h0] at hg
        have := Option.some.inj hg
        have := hslt g (blksL_in g hm)
        omega
  · intro x hx
    have hx : x ∈ (if ks.length = 0 then [] else [g]) ++ blksL ks := hx
    rw [List.mem_append] at hx
    rcases hx with hx | hx
    · split at hx
      · cases hx
      · rename_i h0
        simp at hx; subst hx
        exact hgb x (hgo h0)
    · exact .inl (blksL_in x (hsub x hx))
/-- A leaf, with no row of kids. -/
abbrev leafA (c se : Int) : ATr := .mk ⟨⟨0, 65536, c, se⟩, 0, 0⟩ []
theorem rowOf_ins (ks : List ATr) (i : Nat) (hi : i ≤ ks.length) (x : ATr) : rowOf (ks.take i ++ x :: ks.drop i) = (rowOf ks).take (i * 5) ++ encC x.a.d (slA x) ++ (rowOf ks).drop (i * 5) := by
  rw [rowOf_append, rowOf_cons, rowOf_take ks i hi, rowOf_drop ks i hi, List.append_assoc]
theorem row_slV {w : World} {B n : Nat} {v : Value} {xs : List Value} (h : w.ownsRow B 24 5 v n xs) (hn : n ≠ 0) : ∃ g cap, v = slV g cap n := by
  obtain ⟨g, cap, hv, _, _⟩ := h.form (by omega)
  exact ⟨g, cap, by unfold slV; rw [if_neg hn]; exact hv⟩
/-- A leaf is put among a split's kids. -/
theorem Root.insert {v : Value} {i : Nat} {a : AD} {ks : List ATr} {c se : Int} (h : Root N w r t) (hs : get t u = some (.mk a ks)) (hi : i ≤ ks.length) (hc : InsR 0 (slA (.mk a ks)) ks.length i (rowOf ks) (encC ⟨0, 65536, c, se⟩ (.slice none 0 0)) w (.returned v) w1) (hN : N ≤ w.heap.size) :
    ∃ g cap, v = slV g cap (ks.length + 1) ∧ Root N (w1.setCell ⟨(loc r 0 t u).1, (loc r 0 t u).2 + 4, none⟩ v) r (Co.put t u (.mk ⟨a.d, g, cap⟩ (ks.take i ++ leafA c se :: ks.drop i))) ∧ Turn (fun b => b ∈ blks (topT r t)) (fun _ => False) w (w1.setCell ⟨(loc r 0 t u).1, (loc r 0 t u).2 + 4, none⟩ v) := by
  obtain ⟨v', e, ho, hb, hg⟩ := hc
  have e := Ending.returned.inj e
  subst e
  obtain ⟨g, cap, hv⟩ := row_slV ho (by omega)
  have hl : (ks.take i ++ leafA c se :: ks.drop i).length = ks.length + 1 := by simp; omega
  have hsl : (encC ⟨0, 65536, c, se⟩ (.slice none 0 0)) = encC (leafA c se).a.d (slA (leafA c se)) := rfl
  have hns := h.nodup_at hs
  have hheld := (h.held.get hs).own
  have hbl : blksL (ks.take i ++ leafA c se :: ks.drop i) = blksL ks := by
    rw [blksL_append]
    have e1 : blksL (leafA c se :: ks.drop i) = blksL (ks.drop i) := by simp [blksL, blks]
    rw [e1, ← blksL_append, List.take_append_drop]
  have hnk : (blksL ks).Nodup := by
    have := hns
    simp only [blks, List.nodup_append] at this
    exact this.2.1
  have hOk : OwnL w1 ks := hheld.2.same fun b hb' => hb.block b (hheld.lt b (blksL_sub b hb')) fun e => by
    obtain ⟨h0, e⟩ := slA_own e.symm
    exact own_out (s := .mk a ks) hns h0 (e ▸ hb')
  have hOn : OwnL w1 (ks.take i ++ leafA c se :: ks.drop i) := OwnL_mem.2 fun y hy => by
    rw [List.mem_append, List.mem_cons] at hy
    rcases hy with hy | rfl | hy
    · exact OwnL_mem.1 hOk y (List.mem_of_mem_take hy)
    · exact ⟨World.ownsRow_nil _ _ _ _, trivial⟩
    · exact OwnL_mem.1 hOk y (List.mem_of_mem_drop hy)
  refine ⟨g, cap, hv, h.row hs hb (by rw [hl]; exact hv) (by rw [hl, rowOf_ins ks i hi, ← hsl]; exact ho) hg hOn (by rw [hbl]; exact hnk) (by rw [hbl]; exact fun b hb => hb) hN⟩
end
end Go.Proofs.Ytjlkmcoamcclgaa.Co
