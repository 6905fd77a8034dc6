/- A tree of the call's own: where a way ends in memory, and what the tree is when the container there becomes another. -/
import Derived.Test.YtjeabkcbaielhaaCoR
namespace Go.Proofs.Ytjeabkcbaielhaa.Co
open Go.RowKit
/-- Where the container at a way's end lies: from block b, place o on. -/
def loc : Nat → Nat → ATr → List Nat → Nat × Nat
  | b, o, _, [] => (b, o)
  | _, _, .mk a ks, i :: r => match ks[i]? with
    | some x => loc a.g (i * 5) x r
    | none => (0, 0)
/-- A container of the call's own, from block b, place o on. -/
structure Held (w : World) (b o : Nat) (t : ATr) : Prop where
  own : Own w t
  lt : b < w.heap.size
  free : ∀ i, w.frozen? ⟨b, i, none⟩ = false
  cells : ∀ i u, (encC t.a.d (slA t))[i]? = some u → w.cell? ⟨b, o + i, none⟩ = some u
theorem get_cons {α : Type} {a : α} {ks : List (Tr α)} {i : Nat} {r : List Nat} {s : Tr α} (h : get (.mk a ks) (i :: r) = some s) : ∃ x, ks[i]? = some x ∧ get x r = some s := by
  simp only [get] at h
  cases hx : ks[i]? with
  | none => rw [hx] at h; cases h
  | some x => rw [hx] at h; exact ⟨x, rfl, h⟩
theorem loc_cons {b o : Nat} {a : AD} {ks : List ATr} {i : Nat} {r : List Nat} {x : ATr} (hx : ks[i]? = some x) : loc b o (.mk a ks) (i :: r) = loc a.g (i * 5) x r := by
  simp only [loc, hx]
theorem put_cons {α : Type} {a : α} {ks : List (Tr α)} {i : Nat} {r : List Nat} {x y : Tr α} (hx : ks[i]? = some x) : put (.mk a ks) (i :: r) y = .mk a (ks.set i (put x r y)) := by
  simp only [put, hx]
theorem row_frozen {w : World} {a : AD} {n : Nat} {xs : List Value} (h : w.ownsRow 0 24 5 (slV a.g a.cap n) n xs) (hn : n ≠ 0) (i : Nat) : w.frozen? ⟨a.g, i, none⟩ = false := by
  have hv : slV a.g a.cap n = .slice (some ⟨a.g, 0, none⟩) n a.cap := by unfold slV; rw [if_neg hn]
  rcases h.2 with ⟨_, h0⟩ | ⟨g, cap, cur, h1, _, h2, _⟩
  · exact absurd h0 hn
  · rw [hv] at h1
    obtain ⟨e, -, -⟩ := Value.slice.inj h1
    have e := Option.some.inj e
    injection e with e
    subst e
    simp [World.frozen?, h2]
theorem Held.get {w : World} : ∀ {u : List Nat} {b o : Nat} {t s : ATr}, Held w b o t → get t u = some s → Held w (loc b o t u).1 (loc b o t u).2 s := by
  intro u
  induction u with
  | nil => intro b o t s h hs; simp only [Co.get] at hs; have hs := Option.some.inj hs; subst hs; exact h
  | cons i r ih =>
    intro b o t s h hs
    obtain ⟨a, ks⟩ := t
    obtain ⟨x, hx, hr⟩ := get_cons hs
    rw [loc_cons hx]
    obtain ⟨h1, h2, h3⟩ := h.own.kid hx
    exact ih ⟨h1, h2, fun j => row_frozen h.own.1 (by have := (List.getElem?_eq_some_iff.1 hx).1; omega) j, h3⟩ hr
theorem loc_append : ∀ {u : List Nat} {b o : Nat} {t s : ATr} (v : List Nat), get t u = some s → loc b o t (u ++ v) = loc (loc b o t u).1 (loc b o t u).2 s v := by
  intro u
  induction u with
  | nil => intro b o t s v hs; simp only [Co.get] at hs; have hs := Option.some.inj hs; subst hs; rfl
  | cons i r ih =>
    intro b o t s v hs
    obtain ⟨a, ks⟩ := t
    obtain ⟨x, hx, hr⟩ := get_cons hs
    rw [List.cons_append, loc_cons hx, loc_cons hx]
    exact ih v hr
theorem get_append {α : Type} : ∀ {u : List Nat} {t s : Tr α} (v : List Nat), get t u = some s → get t (u ++ v) = get s v := by
  intro u
  induction u with
  | nil => intro t s v hs; simp only [Co.get] at hs; have hs := Option.some.inj hs; subst hs; rfl
  | cons i r ih =>
    intro t s v hs
    obtain ⟨a, ks⟩ := t
    obtain ⟨x, hx, hr⟩ := get_cons hs
    rw [List.cons_append]
    simp only [Co.get, hx]
    exact ih v hr
theorem get_prefix {α : Type} : ∀ {u v : List Nat} {t s : Tr α}, get t (u ++ v) = some s → ∃ p, get t u = some p ∧ get p v = some s := by
  intro u
  induction u with
  | nil => intro v t s h; exact ⟨t, rfl, h⟩
  | cons i r ih =>
    intro v t s h
    obtain ⟨a, ks⟩ := t
    obtain ⟨x, hx, hr⟩ := get_cons h
    obtain ⟨p, h1, h2⟩ := ih hr
    exact ⟨p, by simp only [Co.get, hx]; exact h1, h2⟩
theorem blks_kid {a : AD} {ks : List ATr} {i : Nat} {x : ATr} (hx : ks[i]? = some x) : blks (.mk a ks) = ([a.g] ++ blksL (ks.take i)) ++ blks x ++ blksL (ks.drop (i + 1)) := by
  obtain ⟨hl, rfl⟩ := List.getElem?_eq_some_iff.1 hx
  have e : ks = ks.take i ++ (ks[i] :: ks.drop (i + 1)) := by rw [← List.drop_eq_getElem_cons hl, List.take_append_drop]
  simp only [blks]
  rw [if_neg (by omega)]
  conv => lhs; rw [e, blksL_append]
  simp [blksL]
/-- The blocks of a tree of which a part becomes another. -/
theorem blks_put : ∀ {u : List Nat} {t s : ATr}, get t u = some s → ∃ l1 l2, blks t = l1 ++ blks s ++ l2 ∧ ∀ s', blks (put t u s') = l1 ++ blks s' ++ l2 := by
  intro u
  induction u with
  | nil => intro t s hs; simp only [Co.get] at hs; have hs := Option.some.inj hs; subst hs; exact ⟨[], [], by simp, fun s' => by simp [put]⟩
  | cons i r ih =>
    intro t s hs
    obtain ⟨a, ks⟩ := t
    obtain ⟨x, hx, hr⟩ := get_cons hs
    obtain ⟨l1, l2, h1, h2⟩ := ih hr
    have hl := (List.getElem?_eq_some_iff.1 hx).1
    refine ⟨([a.g] ++ blksL (ks.take i)) ++ l1, l2 ++ blksL (ks.drop (i + 1)), by rw [blks_kid hx, h1]; simp, fun s' => ?_⟩
    rw [put_cons hx, blks_kid (x := put x r s') (by rw [List.getElem?_set_self hl]), h2 s', List.take_set_of_le (Nat.le_refl i), List.drop_set_of_lt (by omega)]
    simp
theorem blks_get {u : List Nat} {t s : ATr} (h : get t u = some s) : ∀ b ∈ blks s, b ∈ blks t := fun b hb => by
  obtain ⟨l1, l2, h1, _⟩ := blks_put h
  rw [h1]; simp [hb]
theorem loc_mem : ∀ {u : List Nat} {b o : Nat} {t s : ATr}, get t u = some s → u ≠ [] → (loc b o t u).1 ∈ blks t := by
  intro u
  induction u with
  | nil => intro b o t s _ h; exact absurd rfl h
  | cons i r ih =>
    intro b o t s hs _
    obtain ⟨a, ks⟩ := t
    obtain ⟨x, hx, hr⟩ := get_cons hs
    rw [loc_cons hx, blks_kid hx]
    cases r with
    | nil => simp [loc]
    | cons j r' => have := ih (b := a.g) (o := i * 5) hr (by simp); simp [this]
theorem put_shape {u : List Nat} {t s s' : ATr} (h : get t u = some s) (hu : u ≠ []) : (put t u s').a = t.a ∧ (put t u s').ks.length = t.ks.length := by
  cases u with
  | nil => exact absurd rfl hu
  | cons i r =>
    obtain ⟨a, ks⟩ := t
    obtain ⟨x, hx, hr⟩ := get_cons h
    rw [put_cons hx]; exact ⟨rfl, List.length_set⟩
/-- Five cells of a block become others. -/
def Repl (w w' : World) (b o : Nat) (l : List Value) : Prop :=
  ∃ cur cur' : Array Value, w.heap[b]? = some (.cells cur 24 (0, 0)) ∧ w'.heap[b]? = some (.cells cur' 24 (0, 0)) ∧ cur'.size = cur.size ∧ (∀ i, (i < o ∨ o + 5 ≤ i) → cur'[i]? = cur[i]?) ∧ ∀ i, i < 5 → cur'[o + i]? = l[i]?
theorem rowOf_cons (x : ATr) (r : List ATr) : rowOf (x :: r) = encC x.a.d (slA x) ++ rowOf r := rfl
theorem rowOf_set {ks : List ATr} {j : Nat} {x s' : ATr} (hx : ks[j]? = some x) (i : Nat) : (rowOf (ks.set j s'))[i]? = if j * 5 ≤ i ∧ i < j * 5 + 5 then (encC s'.a.d (slA s'))[i - j * 5]? else (rowOf ks)[i]? := by
  obtain ⟨hl, rfl⟩ := List.getElem?_eq_some_iff.1 hx
  have hlen := rowOf_len (ks.take j)
  rw [List.length_take, Nat.min_eq_left (by omega)] at hlen
  rw [List.set_eq_take_append_cons_drop, if_pos hl]
  have e1 : rowOf (ks.take j ++ s' :: ks.drop (j + 1)) = rowOf (ks.take j) ++ (encC s'.a.d (slA s') ++ rowOf (ks.drop (j + 1))) := by rw [rowOf_append, rowOf_cons]
  have e2 : rowOf ks = rowOf (ks.take j) ++ (encC (ks[j]).a.d (slA ks[j]) ++ rowOf (ks.drop (j + 1))) := by
    have e3 := rowOf_append (ks.take j) (ks[j] :: ks.drop (j + 1))
    rwa [← List.drop_eq_getElem_cons hl, List.take_append_drop, List.drop_eq_getElem_cons hl, rowOf_cons] at e3
  rw [e1, e2]
  by_cases h1 : i < j * 5
  · rw [if_neg (by omega), List.getElem?_append_left (by rw [hlen]; exact h1), List.getElem?_append_left (by rw [hlen]; exact h1)]
  · have hA : ∀ l : List Value, (rowOf (ks.take j) ++ l)[i]? = l[i - j * 5]? := fun l => by rw [List.getElem?_append_right (by rw [hlen]; omega), hlen]
    rw [hA, hA]
    by_cases h2 : i < j * 5 + 5
    · rw [if_pos ⟨by omega, h2⟩, List.getElem?_append_left (by rw [enc_len]; omega)]
    · have hB : ∀ (d : D) (v : Value) (l : List Value), (encC d v ++ l)[i - j * 5]? = l[i - j * 5 - 5]? := fun d v l => by rw [List.getElem?_append_right (by rw [enc_len]; omega), enc_len]
      rw [if_neg (by omega), hB, hB]
theorem row_repl {w w' : World} {a : AD} {ks : List ATr} {j : Nat} {x s' : ATr} (h : w.ownsRow 0 24 5 (slV a.g a.cap ks.length) ks.length (rowOf ks)) (hx : ks[j]? = some x) (hr : Repl w w' a.g (j * 5) (encC s'.a.d (slA s'))) :
    w'.ownsRow 0 24 5 (slV a.g a.cap (ks.set j s').length) (ks.set j s').length (rowOf (ks.set j s')) := by
  have hl := (List.getElem?_eq_some_iff.1 hx).1
  refine ⟨rowOf_len _, ?_⟩
  rw [List.length_set]
  have hv : slV a.g a.cap ks.length = .slice (some ⟨a.g, 0, none⟩) ks.length a.cap := by unfold slV; rw [if_neg (by omega)]
  rcases h.2 with ⟨_, h0⟩ | ⟨g, cap, cur, h1, _, h2, h3, h4, h5, h6⟩
  · omega
  · rw [hv] at h1
    obtain ⟨e, -, rfl⟩ := Value.slice.inj h1
    have e := Option.some.inj e
    injection e with e
    subst e
    obtain ⟨c1, c2, r1, r2, r3, r4, r5⟩ := hr
    rw [h2] at r1
    injection r1 with r1
    injection r1 with r1
    subst r1
    refine .inr ⟨a.g, a.cap, c2, hv, Nat.zero_le _, r2, h3, h4, by rw [r3]; exact h5, ?_⟩
    apply List.ext_getElem?
    intro i
    rw [rowOf_set hx]
    have h7 : (rowOf ks)[i]? = if i < ks.length * 5 then cur[i]? else none := by
      rw [← h6, List.getElem?_take]
      simp
    by_cases hi : i < ks.length * 5
    · rw [List.getElem?_take_of_lt hi]
      by_cases hj : j * 5 ≤ i ∧ i < j * 5 + 5
      · rw [if_pos hj, ← r5 (i - j * 5) (by omega), show j * 5 + (i - j * 5) = i by omega]; simp
      · rw [if_neg hj, h7, if_pos hi, ← r4 i (by omega)]; simp
    · rw [List.getElem?_eq_none (by simp; omega), if_neg (by have : (j + 1) * 5 ≤ ks.length * 5 := Nat.mul_le_mul_right 5 hl; omega), h7, if_neg hi]
theorem Own.put {w w' : World} : ∀ {u : List Nat} {t s s' : ATr} {b o : Nat}, Own w t → (blks t).Nodup → get t u = some s → u ≠ [] → Repl w w' (loc b o t u).1 (loc b o t u).2 (encC s'.a.d (slA s')) →
    (∀ x ∈ blks t, x ∉ blks s → x ≠ (loc b o t u).1 → w'.heap[x]? = w.heap[x]?) → Own w' s' → Own w' (put t u s') := by
  intro u
  induction u with
  | nil => intro t s s' b o _ _ _ h; exact absurd rfl h
  | cons i r ih =>
    intro t s s' b o hO hN hs _ hR hF hS
    obtain ⟨a, ks⟩ := t
    obtain ⟨x, hx, hr⟩ := get_cons hs
    rw [loc_cons hx] at hR hF
    rw [put_cons hx]
    have hN' := hN
    rw [blks_kid hx] at hN'
    have hl := (List.getElem?_eq_some_iff.1 hx).1
    have hkids : ∀ k y, ks[k]? = some y → k ≠ i → ∀ z ∈ blks y, z ∉ blks x ∧ z ≠ a.g := fun k y hy hki z hz => by
      have hzm : z ∈ blksL (ks.take i) ∨ z ∈ blksL (ks.drop (i + 1)) := by
        simp only [blksL_eq, List.mem_flatMap]
        rcases Nat.lt_or_ge k i with h | h
        · exact .inl ⟨y, List.mem_of_getElem? (i := k) (by rw [List.getElem?_take_of_lt h]; exact hy), hz⟩
        · exact .inr ⟨y, List.mem_of_getElem? (i := k - (i + 1)) (by rw [List.getElem?_drop, show i + 1 + (k - (i + 1)) = k by omega]; exact hy), hz⟩
      simp only [List.nodup_append, List.mem_append, List.mem_singleton] at hN'
      refine ⟨fun hzx => ?_, fun e => ?_⟩
      · rcases hzm with h | h
        · exact hN'.1.2.2 z (.inr h) z hzx rfl
        · exact hN'.2.2 z (.inr hzx) z h rfl
      · rcases hzm with h | h
        · exact hN'.1.1.2.2 a.g rfl z h e.symm
        · exact hN'.2.2 a.g (.inl (.inl rfl)) z h e.symm
    have hax : a.g ∉ blks x := fun h => by
      simp only [List.nodup_append, List.mem_append, List.mem_singleton] at hN'
      exact hN'.1.2.2 a.g (.inl rfl) a.g h rfl
    have hNx : (blks x).Nodup := by
      simp only [List.nodup_append] at hN'
      exact hN'.1.2.1
    have hin : ∀ k y, ks[k]? = some y → ∀ z ∈ blks y, z ∈ blks (.mk a ks) := fun k y hy z hz => by rw [blks_kid hy]; simp [hz]
    have hrest : ∀ (y' : ATr), Own w' y' → (∀ k y, ks[k]? = some y → k ≠ i → ∀ z ∈ blks y, w'.heap[z]? = w.heap[z]?) → OwnL w' (ks.set i y') := fun y' hy' hf => OwnL_mem.2 fun y hy => by
      obtain ⟨k, hk⟩ := List.getElem?_of_mem hy
      rw [List.getElem?_set] at hk
      by_cases hki : i = k
      · subst hki
        rw [if_pos rfl, if_pos hl] at hk
        exact (Option.some.inj hk) ▸ hy'
      · rw [if_neg hki] at hk
        exact (OwnL_mem.1 hO.2 y (List.mem_of_getElem? hk)).same (hf k y hk (Ne.symm hki))
    cases r with
    | nil =>
      simp only [Co.get] at hr
      have hr := Option.some.inj hr
      subst hr
      exact ⟨row_repl hO.1 hx hR, hrest s' hS fun k y hy hki z hz => hF z (hin k y hy z hz) (hkids k y hy hki z hz).1 (hkids k y hy hki z hz).2⟩
    | cons j r' =>
      have hm := loc_mem (b := a.g) (o := i * 5) hr (by simp)
      have hsx := blks_get hr
      obtain ⟨e1, e2⟩ := put_shape (s' := s') hr (by simp)
      have hkid := ih (b := a.g) (o := i * 5) (OwnL_mem.1 hO.2 x (List.mem_of_getElem? hx)) hNx hr (by simp) hR (fun z hz h1 h2 => hF z (hin i x hx z hz) h1 h2) hS
      refine ⟨?_, hrest _ hkid fun k y hy hki z hz => hF z (hin k y hy z hz) (fun h => (hkids k y hy hki z hz).1 (hsx z h)) (fun h => (hkids k y hy hki z hz).1 (h ▸ hm))⟩
      have hrow : rowOf (ks.set i (Co.put x (j :: r') s')) = rowOf ks := by
        apply List.ext_getElem?
        intro q
        rw [rowOf_set hx]
        split
        · rename_i hq
          have h9 := rowOf_at ks i x hx (q - i * 5) (by omega)
          rw [show i * 5 + (q - i * 5) = q by omega] at h9
          rw [h9]
          have : slA (Co.put x (j :: r') s') = slA x := by unfold slA; rw [e1, e2]
          rw [this, e1]
        · rfl
      rw [hrow, List.length_set]
      exact row_same hO.1 fun z hz => by
        obtain ⟨_, rfl⟩ := slV_block hz
        exact hF a.g (by rw [blks_kid hx]; simp) (fun h => hax (hsx _ h)) (fun h => hax (h ▸ hm))
end Go.Proofs.Ytjeabkcbaielhaa.Co
