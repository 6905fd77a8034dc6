/- order.Order: a row that grows, the closure, slices.IndexFunc, slices.Delete. -/
import Derived.Test.YtgioeijdgoogkaaOdJ
import Derived.Laws.OwnMore
import Derived.Laws.AppendOwn
import Derived.Maps.AppendAt
namespace Go.Proofs.Ytgioeijdgoogkaa.Od
open Go.RowKit Go.Maps Go.Shelf
set_option linter.unusedSimpArgs false
/-- A row of numbers of the call's own. -/
def OwI (w : World) (base : Nat) (v : Value) (xs : List Int) : Prop := w.ownsRow base 3 1 v xs.length (xs.map (Value.int .i64))
theorem OwI.next {w w' : World} {base : Nat} {v : Value} {xs : List Int} (h : OwI w base v xs) (hb : Below w.heap.size w w') : OwI w' base v xs :=
  World.ownsRow.kept h (row := none) ⟨hb.os, hb.tape, hb.output, hb.size, fun j hj _ => hb.block j hj⟩ (by cases hv : v.ownBlock <;> simp)
theorem OwI.kept {w w' : World} {base g : Nat} {v : Value} {xs : List Int} (h : OwI w base v xs) (hb : w.grownBy w' (some g)) (hg : g < base) : OwI w' base v xs :=
  World.ownsRow.kept h (row := some g) hb (by
    cases hv : v.ownBlock with
    | none => simp
    | some k => have := (World.ownsRow.lt h k hv).1; exact .inr fun e => by injection e; omega)
theorem OwI.nil (w : World) (base : Nat) : OwI w base (.slice none 0 0) [] := World.ownsRow_nil _ _ _ _
theorem OwI.put {w' : World} {base : Nat} {v' : Value} {xs : List Int} {x : Int} (h : w'.ownsRow base 3 1 v' (xs.length + 1) (xs.map (Value.int .i64) ++ [.int .i64 x])) : OwI w' base v' (xs ++ [x]) := by
  unfold OwI
  rw [List.length_append, List.map_append]; exact h
theorem OwI.rd {w : World} {base : Nat} {v : Value} {xs : List Int} (h : OwI w base v xs) : RdI w v xs := by
  have h0 := h
  obtain ⟨hlen, h1⟩ := h
  rcases h1 with ⟨rfl, hn⟩ | ⟨g, cap, cur, rfl, -, hg, hnc, hcm, hcs, ht⟩
  · have hx : xs = [] := List.eq_nil_of_length_eq_zero hn
    subst hx
    exact RdI.nil _ _
  · refine ⟨_, cap, rfl, fun j x hx => ⟨g, 0, rfl, (Array.getElem?_eq_some_iff.1 hg).1, ?_⟩⟩
    have hj := (List.getElem?_eq_some_iff.1 hx).1
    rw [Nat.zero_add, World.ownsRow.cellAt h0 j (by omega), List.getElem?_map, hx]
    rfl
theorem cell_list (w : World) (t : TypeId) (l : List Value) : ∀ (j : Nat) (u : Value), l[j]? = some u → (w.alloc (.cells l.toArray t)).cell? ((⟨w.heap.size, 0, none⟩ : Addr).add j) = some u := by
  intro j u hu
  have h := (Blk.new w t l.toArray).cell j
  rw [Addr.add_lit, Nat.zero_add, h]
  simpa using hu
theorem cell_list_at (w : World) (t : TypeId) (l : List Value) (k : Nat) (hk : w.heap.size = k) : ∀ (j : Nat) (u : Value), l[j]? = some u → (w.alloc (.cells l.toArray t)).cell? ((⟨k, 0, none⟩ : Addr).add j) = some u := by subst hk; exact cell_list w t l
theorem one_int (x : Int) : ∀ u ∈ [Value.int .i64 x], u.oneCell' = true := fun u hu => by rw [List.mem_singleton.1 hu]; rfl
/-! ### step by step -/
def frB (l : List It) (out : List Int) (c : Int) : Bool := match ow l c with
  | none => true
  | some d => decide (d ∈ out)
theorem frB_iff {l : List It} {out : List Int} {c : Int} : frB l out c = true ↔ Free l out c := by
  unfold frB Free
  cases ow l c with
  | none => exact ⟨fun _ d h => (by cases h), fun _ => rfl⟩
  | some d => exact ⟨fun h d' hd => (by injection hd with hd; subst hd; simpa using h), fun h => (by simpa using h d rfl)⟩
def Stp (l : List It) (S out : List Int) : Prop := S.length + out.length = l.length ∧ S.Pairwise (LT l) ∧ (∀ c, c ∈ S ↔ c ∈ cl l ∧ c ∉ out) ∧ ∀ (j : Nat) (c : Int), out[j]? = some c → Nxt l (out.take j) c
theorem Stp.start {l : List It} {S : List Int} (hd : Dis l) (h : Srt l S) : Stp l S [] := by
  obtain ⟨h1, h2, h3⟩ := h
  have a1 := nodup_le h1 (b := cl l) fun x hx => (h2 x).1 hx
  have a2 := nodup_le hd (b := S) fun x hx => (h2 x).2 hx
  have a3 : (cl l).length = l.length := by unfold cl; rw [List.length_map]
  exact ⟨by simp; omega, h3, fun c => by rw [h2]; simp, fun j c hj => by simp at hj⟩
theorem Stp.find {l : List It} {S out : List Int} (h : Stp l S out) (hS : S ≠ []) : ∃ (m : Nat) (c : Int), S[m]? = some c ∧ frB l out c = true ∧ ∀ (j : Nat) (x : Int), j < m → S[j]? = some x → frB l out x = false := by
  obtain ⟨c0, t, rfl⟩ := List.exists_cons_of_ne_nil hS
  obtain ⟨k1, k2⟩ := (h.2.2.1 c0).1 (List.mem_cons_self ..)
  obtain ⟨y, y1, y2, y3⟩ := free_some k1 k2
  have hy := (h.2.2.1 y).2 ⟨y1, y2⟩
  cases hf : (c0 :: t).findIdx? (frB l out) with
  | none =>
    rw [List.findIdx?_eq_none_iff] at hf
    have := hf y hy
    rw [frB_iff.2 y3] at this; cases this
  | some m =>
    obtain ⟨hl, a1, a2⟩ := List.findIdx?_eq_some_iff_getElem.1 hf
    refine ⟨m, _, List.getElem?_eq_getElem hl, a1, fun j x hj hx => ?_⟩
    have := a2 j hj
    obtain ⟨hjl, rfl⟩ := List.getElem?_eq_some_iff.1 hx
    simpa using this
theorem Stp.step {l : List It} {S out : List Int} {m : Nat} {c : Int} (h : Stp l S out) (hm : S[m]? = some c) (hf : frB l out c = true) (hno : ∀ (j : Nat) (x : Int), j < m → S[j]? = some x → frB l out x = false) : Stp l (S.take m ++ S.drop (m + 1)) (out ++ [c]) := by
  obtain ⟨h1, h2, h3, h4⟩ := h
  obtain ⟨hml, hme⟩ := List.getElem?_eq_some_iff.1 hm
  have hcS : c ∈ S := List.mem_of_getElem? hm
  obtain ⟨c1, c2⟩ := (h3 c).1 hcS
  have hge := List.pairwise_iff_getElem.1 h2
  have hN : Nxt l out c := ⟨c1, c2, frB_iff.1 hf, fun d d1 d2 d3 => by
    obtain ⟨j, hj⟩ := List.getElem?_of_mem ((h3 d).2 ⟨d1, d2⟩)
    obtain ⟨hjl, hje⟩ := List.getElem?_eq_some_iff.1 hj
    rcases Nat.lt_trichotomy j m with e | e | e
    · have := hno j d e hj
      rw [frB_iff.2 d3] at this; cases this
    · subst e
      rw [hm] at hj; exact .inl (Option.some.inj hj).symm
    · exact .inr (hme ▸ hje ▸ hge m j hml hjl e)⟩
  refine ⟨by rw [List.length_append, List.length_append, List.length_take, List.length_drop]; simp; omega, ?_, fun x => ?_, fun j x hx => ?_⟩
  · refine List.Pairwise.sublist ?_ h2
    have := List.eraseIdx_sublist S m
    rwa [List.eraseIdx_eq_take_drop_succ] at this
  · have hx0 : x ∈ S.take m ++ S.drop (m + 1) ↔ x ∈ S ∧ x ≠ c := by
      constructor
      · intro hx
        have hx' : x ∈ S := by
          rcases List.mem_append.1 hx with h | h
          · exact List.mem_of_mem_take h
          · exact List.mem_of_mem_drop h
        refine ⟨hx', ?_⟩
        rintro rfl
        rcases List.mem_append.1 hx with h | h
        · obtain ⟨j, hj⟩ := List.getElem?_of_mem h
          have hjl := (List.getElem?_eq_some_iff.1 hj).1
          rw [List.length_take] at hjl
          rw [List.getElem?_take_of_lt (by omega)] at hj
          obtain ⟨q1, q2⟩ := List.getElem?_eq_some_iff.1 hj
          have := hge j m q1 hml (by omega)
          rw [q2, hme] at this; exact this.not this
        · obtain ⟨j, hj⟩ := List.getElem?_of_mem h
          rw [List.getElem?_drop] at hj
          obtain ⟨q1, q2⟩ := List.getElem?_eq_some_iff.1 hj
          have := hge m (m + 1 + j) hml q1 (by omega)
          rw [q2, hme] at this; exact this.not this
      · rintro ⟨hx, hne⟩
        obtain ⟨j, hj⟩ := List.getElem?_of_mem hx
        rcases Nat.lt_trichotomy j m with e | e | e
        · exact List.mem_append_left _ (List.mem_of_getElem? (i := j) (by rw [List.getElem?_take_of_lt e]; exact hj))
        · subst e; rw [hm] at hj; exact absurd (Option.some.inj hj).symm hne
        · exact List.mem_append_right _ (List.mem_of_getElem? (i := j - (m + 1)) (by rw [List.getElem?_drop, show m + 1 + (j - (m + 1)) = j by omega]; exact hj))
    rw [hx0, h3, List.mem_append, List.mem_singleton]
    constructor
    · rintro ⟨⟨a1, a2⟩, a3⟩; exact ⟨a1, fun h => h.elim a2 a3⟩
    · rintro ⟨a1, a2⟩; exact ⟨⟨a1, fun h => a2 (.inl h)⟩, fun h => a2 (.inr h)⟩
  · by_cases hj : j < out.length
    · rw [List.getElem?_append_left hj] at hx
      rw [List.take_append_of_le_length (by omega)]
      exact h4 j x hx
    · have hjl := (List.getElem?_eq_some_iff.1 hx).1
      simp at hjl
      obtain rfl : j = out.length := by omega
      rw [List.getElem?_append_right (by omega), Nat.sub_self] at hx
      simp at hx; subst hx
      rw [List.take_append_of_le_length (by omega), List.take_of_length_le (by omega)]
      exact hN
theorem Stp.done {l : List It} {out : List Int} (h : Stp l [] out) : Ord l out := ⟨by have := h.1; simpa using this, h.2.2.2⟩
/-! ### memory -/
/-- Which are taken, as a block holds it. -/
def arrB (l : List It) (out : List Int) : Array Value := (l.map fun t => Value.bool (decide (t.c ∈ out))).toArray
theorem arrB_at {l : List It} {out : List Int} {j : Nat} {x : It} (h : l[j]? = some x) : (arrB l out)[j]? = some (.bool (decide (x.c ∈ out))) := by unfold arrB; simp [h]
theorem arrB_set {l : List It} (hd : Dis l) {out : List Int} {k : Nat} {x : It} (h : l[k]? = some x) : (arrB l out).setIfInBounds k (.bool true) = arrB l (out ++ [x.c]) := by
  have hk := (List.getElem?_eq_some_iff.1 h).1
  apply Array.ext_getElem?
  intro j
  rw [Array.getElem?_setIfInBounds]
  cases hj : l[j]? with
  | none =>
    have hlj : l.length ≤ j := by simpa using hj
    rw [if_neg (by omega)]
    unfold arrB; simp [hlj]
  | some y =>
    by_cases e : k = j
    · subst e
      rw [h] at hj; injection hj with hj; subst hj
      rw [if_pos rfl, if_pos (by unfold arrB; simpa using hk), arrB_at h]
      simp
    · rw [if_neg e, arrB_at hj, arrB_at hj]
      have : y.c ≠ x.c := fun he => e (hd.inj h hj he.symm)
      simp [this]
theorem arrB_nil (l : List It) : arrB l [] = (List.replicate l.length (Value.bool false)).toArray := by
  unfold arrB
  apply Array.ext_getElem?
  intro j
  by_cases hj : j < l.length <;> simp [hj]
theorem boolInfo : (Try.prog.info? 4).map (fun i => (i.zero, i.size, i.bytes)) = some (some (.bool false), 1, 1) := by kernel_rfl
theorem makeB_c (l : List It) (n : Nat) (hln : n = l.length) (hn : n ≤ 128) (W : World) : (Instr.makeSlice 47 (.int .i64 (n : Int)) (.int .i64 (n : Int))).run Try.prog W = .ok (.slice (some ⟨W.heap.size, 0, none⟩) n n) (W.alloc (.cells (arrB l []) 4)) := by
  have h := run_make_row' (P := Try.prog) 47 4 (.bool false) 1 Try.underlying47 boolInfo rfl .i64 .i64 n (by omega) (by omega) W
  rw [made_eq, hln, ← arrB_nil] at h
  rw [hln]; exact h
theorem heap_put {d : List Int} {w : World} {g n : Nat} {e : TypeId} {B : List Int} {A : List Int} (hb : Blk w g e (arrI (A ++ B))) (hl : d.length = A.length) : Blk (Sort.putRow (Value.int .i64) (Sort.ahead w n) g 0 d.toArray) g e (arrI (d ++ B)) := by
  have h := heap_sort (enc := Value.int .i64) (n := n) (os := #[]) d.toArray hb
  rw [Sort.grow_empty] at h
  have e2 : Sort.putCells (Value.int .i64) 0 d.toArray (arrI (A ++ B)) = arrI (d ++ B) := by
    apply Array.ext_getElem?
    intro j
    unfold Sort.putCells
    rw [Array.getElem?_mapIdx]
    by_cases hj : j < A.length
    · have hj2 : j < d.length := by omega
      obtain ⟨a, ha⟩ : ∃ a, A[j]? = some a := ⟨_, List.getElem?_eq_getElem hj⟩
      obtain ⟨b, hb⟩ : ∃ b, d[j]? = some b := ⟨_, List.getElem?_eq_getElem hj2⟩
      rw [arrI_at (by rw [List.getElem?_append_left hj]; exact ha), arrI_at (by rw [List.getElem?_append_left hj2]; exact hb)]
      simp [hj2, List.getElem?_eq_some_iff.1 hb |>.2]
    · have hj2 : ¬ j < d.length := by omega
      have e3 : (A ++ B)[j]? = (d ++ B)[j]? := by rw [List.getElem?_append_right (by omega), List.getElem?_append_right (by omega), hl]
      unfold arrI
      simp only [List.getElem?_toArray, List.getElem?_map, e3]
      cases (d ++ B)[j]? <;> simp [hj2]
  rw [e2] at h
  exact h
end Go.Proofs.Ytgioeijdgoogkaa.Od
