/- A tree of the call's own in memory: each split's kids in a block of their own. -/
import Derived.Test.YtjeabkcbaielhaaCoN
import Derived.Maps.AppendAt
namespace Go.Proofs.Ytjeabkcbaielhaa.Co
open Go.RowKit
/-- A container's numbers, and where its kids lie. -/
structure AD where
  d : D
  g : Nat
  cap : Nat
abbrev ATr := Tr AD
mutual
def era : ATr → Con
  | .mk a ks => .mk a.d (eraL ks)
def eraL : List ATr → List Con
  | [] => []
  | x :: r => era x :: eraL r
end
theorem eraL_eq (ks : List ATr) : eraL ks = ks.map era := by
  induction ks with
  | nil => rfl
  | cons x r ih => simp [eraL, ih]
theorem era_a (t : ATr) : (era t).a = t.a.d := by cases t; rfl
theorem era_ks (t : ATr) : (era t).ks = t.ks.map era := by cases t; simp [era, eraL_eq]
theorem era_mk (a : AD) (ks : List ATr) : era (.mk a ks) = .mk a.d (ks.map era) := by simp [era, eraL_eq]
/-- The slice of n kids in block g. -/
def slV (g cap n : Nat) : Value := if n = 0 then .slice none 0 0 else .slice (some ⟨g, 0, none⟩) n cap
def slA (t : ATr) : Value := slV t.a.g t.a.cap t.ks.length
def rowOf (ks : List ATr) : List Value := ks.flatMap fun x => encC x.a.d (slA x)
mutual
/-- The kids of a container, and theirs, lie in rows of the call's own. -/
def Own (w : World) : ATr → Prop
  | .mk a ks => w.ownsRow 0 24 5 (slV a.g a.cap ks.length) ks.length (rowOf ks) ∧ OwnL w ks
def OwnL (w : World) : List ATr → Prop
  | [] => True
  | x :: r => Own w x ∧ OwnL w r
end
mutual
/-- Their blocks. -/
def blks : ATr → List Nat
  | .mk a ks => (if ks.length = 0 then [] else [a.g]) ++ blksL ks
def blksL : List ATr → List Nat
  | [] => []
  | x :: r => blks x ++ blksL r
end
theorem OwnL_mem {w : World} {ks : List ATr} : OwnL w ks ↔ ∀ x ∈ ks, Own w x := by
  induction ks with
  | nil => simp [OwnL]
  | cons x r ih => simp [OwnL, ih]
theorem blksL_eq (ks : List ATr) : blksL ks = ks.flatMap blks := by
  induction ks with
  | nil => rfl
  | cons x r ih => simp [blksL, ih]
theorem enc_len (d : D) (v : Value) : (encC d v).length = 5 := rfl
theorem rowOf_len (ks : List ATr) : (rowOf ks).length = ks.length * 5 := by
  induction ks with
  | nil => rfl
  | cons x r ih => simp only [rowOf, List.flatMap_cons, List.length_append, enc_len, List.length_cons]; have : (List.flatMap (fun x : ATr => encC x.a.d (slA x)) r).length = r.length * 5 := ih; omega
theorem rowOf_append (a b : List ATr) : rowOf (a ++ b) = rowOf a ++ rowOf b := by simp [rowOf]
theorem rowOf_at (ks : List ATr) (j : Nat) (x : ATr) (h : ks[j]? = some x) (i : Nat) (hi : i < 5) : (rowOf ks)[j * 5 + i]? = (encC x.a.d (slA x))[i]? := by
  induction ks generalizing j with
  | nil => simp at h
  | cons y r ih =>
    have e : rowOf (y :: r) = encC y.a.d (slA y) ++ rowOf r := by simp [rowOf]
    rw [e]
    cases j with
    | zero => simp at h; subst h; rw [Nat.zero_mul, Nat.zero_add, List.getElem?_append_left (by rw [enc_len]; exact hi)]
    | succ j =>
      rw [List.getElem?_append_right (by rw [enc_len]; omega), enc_len, show (j + 1) * 5 + i - 5 = j * 5 + i by omega]
      exact ih j (by simpa using h)
theorem row_same {w w' : World} {T n k : Nat} {v : Value} {xs : List Value} (h : w.ownsRow 0 T k v n xs) (hs : ∀ b, v.ownBlock = some b → w'.heap[b]? = w.heap[b]?) : w'.ownsRow 0 T k v n xs := by
  refine ⟨h.1, ?_⟩
  rcases h.2 with h2 | ⟨g, cap, cur, hv, h3, h4, h5⟩
  · exact .inl h2
  · exact .inr ⟨g, cap, cur, hv, h3, (hs g (by rw [hv]; rfl)).trans h4, h5⟩
theorem slV_block {g cap n b : Nat} (h : (slV g cap n).ownBlock = some b) : n ≠ 0 ∧ b = g := by
  unfold slV at h
  split at h
  · cases h
  · exact ⟨by assumption, (Option.some.inj h).symm⟩
theorem Own.same {w w' : World} : ∀ {t : ATr}, Own w t → (∀ b ∈ blks t, w'.heap[b]? = w.heap[b]?) → Own w' t := by
  intro t
  induction t using Tr.ind with
  | h a ks ih =>
    intro h hs
    refine ⟨row_same h.1 fun b hb => hs b ?_, OwnL_mem.2 fun x hx => ih x hx (OwnL_mem.1 h.2 x hx) fun b hb => hs b ?_⟩
    · obtain ⟨h1, h2⟩ := slV_block hb
      simp [blks, h1, h2]
    · simp only [blks, blksL_eq, List.mem_append, List.mem_flatMap]; exact .inr ⟨x, hx, hb⟩
theorem Own.lt {w : World} : ∀ {t : ATr}, Own w t → ∀ b ∈ blks t, b < w.heap.size := by
  intro t
  induction t using Tr.ind with
  | h a ks ih =>
    intro h b hb
    simp only [blks, blksL_eq, List.mem_append, List.mem_flatMap] at hb
    rcases hb with hb | ⟨x, hx, hb⟩
    · split at hb
      · cases hb
      · rename_i hn
        simp at hb; subst hb
        have h1 : (slV a.g a.cap ks.length).ownBlock = some a.g := by unfold slV; rw [if_neg hn]; rfl
        exact (h.1.lt _ h1).2
    · exact ih x hx (OwnL_mem.1 h.2 x hx) b hb
theorem Own.next {w w' : World} {t : ATr} (h : Own w t) (hb : Below w.heap.size w w') : Own w' t := h.same fun b hm => hb.block b (h.lt b hm)
/-- A kid as it lies. -/
theorem Own.kid {w : World} {a : AD} {ks : List ATr} (h : Own w (.mk a ks)) {j : Nat} {x : ATr} (hx : ks[j]? = some x) :
    Own w x ∧ a.g < w.heap.size ∧ ∀ i u, (encC x.a.d (slA x))[i]? = some u → w.cell? ⟨a.g, j * 5 + i, none⟩ = some u := by
  have hl := (List.getElem?_eq_some_iff.1 hx).1
  have hv : slV a.g a.cap ks.length = .slice (some ⟨a.g, 0, none⟩) ks.length a.cap := by unfold slV; rw [if_neg (by omega)]
  refine ⟨OwnL_mem.1 h.2 x (List.mem_of_getElem? hx), (h.1.lt a.g (by rw [hv]; rfl)).2, fun i u hu => ?_⟩
  have hi : i < 5 := by have := (List.getElem?_eq_some_iff.1 hu).1; rwa [enc_len] at this
  have := h.1.cells (g := a.g) (by rw [hv]; rfl) (j * 5 + i) u ((rowOf_at ks j x hx i hi).trans hu)
  rwa [show (⟨a.g, 0, none⟩ : Addr).add (j * 5 + i) = ⟨a.g, j * 5 + i, none⟩ by unfold Addr.add; split <;> simp_all] at this
/-- A tree of the call's own reads as what it is. -/
theorem Own.reads {w : World} {Z : Nat → Prop} : ∀ {t : ATr}, Own w t → (∀ b ∈ blks t, Z b) → (∀ u x, get t u = some x → x.a.d.wide ∧ x.ks.length ≤ 1152921504606846976) → KV w Z (era t).ks (slA t) := by
  intro t
  induction t using Tr.ind with
  | h a ks ih =>
    intro h hz hw
    rw [era_ks]
    have hlen : ((Tr.mk a ks).ks.map era).length = ks.length := by simp
    have key : ∀ j x, (ks.map era)[j]? = some x → ∃ y, ks[j]? = some y ∧ era y = x := fun j x hx => by
      rw [List.getElem?_map] at hx
      cases hy : ks[j]? with
      | none => rw [hy] at hx; cases hx
      | some y => rw [hy] at hx; exact ⟨y, hy, Option.some.inj hx⟩
    have hgo : ∀ p cap, (ks.length ≠ 0 → p = some ⟨a.g, 0, none⟩) → ks.length ≤ cap → KV w Z (ks.map era) (.slice p (ks.map era).length cap) := fun p cap hp hcp => by
      refine .mk _ p cap (fun j => match ks[j]? with | some y => slA y | none => undef) (by simpa using (hw [] _ rfl).2) (by simpa using hcp) (fun j x hx => ?_) (fun j x hx => ?_)
      · obtain ⟨y, hy, rfl⟩ := key j x hx
        obtain ⟨_, h2, h3⟩ := h.kid hy
        refine ⟨a.g, 0, hp (by have := (List.getElem?_eq_some_iff.1 hy).1; omega), hz a.g ?_, h2, ?_, ?_⟩
        · simp only [blks, List.mem_append]; left; rw [if_neg (by have := (List.getElem?_eq_some_iff.1 hy).1; omega)]; simp
        · rw [era_a]; exact (hw [j] y (by simp [get, hy])).1
        · rw [era_a]; simp only [hy, Nat.zero_add]; exact h3
      · obtain ⟨y, hy, rfl⟩ := key j x hx
        simp only [hy]
        have hm := List.mem_of_getElem? hy
        exact ih y hm (OwnL_mem.1 h.2 y hm) (fun b hb => hz b (by simp only [blks, blksL_eq, List.mem_append, List.mem_flatMap]; exact .inr ⟨y, hm, hb⟩)) fun u x hx => hw (j :: u) x (by simp [get, hy, hx])
    show KV w Z (ks.map era) (slV a.g a.cap ks.length)
    unfold slV
    split
    · rename_i h0
      have := hgo none 0 (fun h => absurd h0 h) (by omega)
      rwa [show (ks.map era).length = 0 by simpa using h0] at this
    · rename_i h0
      have hcap : ks.length ≤ a.cap := by
        have hv : slV a.g a.cap ks.length = .slice (some ⟨a.g, 0, none⟩) ks.length a.cap := by unfold slV; rw [if_neg h0]
        rcases h.1.2 with ⟨_, h1⟩ | ⟨g, cap, cur, h1, _, _, h2, _⟩
        · exact absurd h1 h0
        · rw [hv] at h1
          obtain ⟨-, -, rfl⟩ := Value.slice.inj h1
          exact h2
      have := hgo (some ⟨a.g, 0, none⟩) a.cap (fun _ => rfl) hcap
      rwa [List.length_map] at this
end Go.Proofs.Ytjeabkcbaielhaa.Co
