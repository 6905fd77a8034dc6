/- Rows of containers whose kids' rows are new as well. -/
import Derived.Test.YtjeabkcbaielhaaCpY
namespace Go.Proofs.Ytjeabkcbaielhaa.Co
open Go.RowKit Go.Shelf Go.Maps
theorem RZ.weak {w : World} {Z Z' : Nat → Prop} (hz : ∀ b, Z b → Z' b) : ∀ {a : List Con} {u : List Value}, RZ w Z a u → RZ w Z' a u := by
  intro a
  induction a with
  | nil => intro u h; exact h
  | cons y r ih => intro u ⟨sv, rest, h1, h3, h4⟩; exact ⟨sv, rest, h1, h3.weak hz, ih h4⟩
theorem RZ.same {w w' : World} {Z : Nat → Prop} (hs : w.heap.size ≤ w'.heap.size) (hb : ∀ b, Z b → w'.heap[b]? = w.heap[b]?) : ∀ {a : List Con} {u : List Value}, RZ w Z a u → RZ w' Z a u := by
  intro a
  induction a with
  | nil => intro u h; exact h
  | cons y r ih => intro u ⟨sv, rest, h1, h3, h4⟩; exact ⟨sv, rest, h1, h3.same (fun _ h => h) hs (fun b h _ => hb b h), ih h4⟩
theorem RZ.lt_ {w : World} {Z : Nat → Prop} : ∀ {a : List Con} {u : List Value}, RZ w Z a u → RZ w (fun b => Z b ∧ b < w.heap.size) a u := by
  intro a
  induction a with
  | nil => intro u h; exact h
  | cons y r ih => intro u ⟨sv, rest, h1, h3, h4⟩; exact ⟨sv, rest, h1, h3.lt_, ih h4⟩
/-- A row of the call's own; what is in its containers lies elsewhere. -/
def RowF (Z : Nat → Prop) (B : Nat) (l : List Con) (v : Value) (w : World) : Prop := ∃ vs, w.ownsRow B 24 5 v l.length vs ∧ RZ w (fun b => (Z b ∧ some b ≠ v.ownBlock) ∧ b < w.heap.size) l vs
theorem RowF.slice' {Z : Nat → Prop} {B n : Nat} {l : List Con} {v : Value} {w : World} (h : RowF Z B l v w) (hn : l.length = n) : ∃ p c, v = .slice p n c := by
  obtain ⟨vs, h1, _⟩ := h; exact hn ▸ row_slice h1
theorem RowF.nil (Z : Nat → Prop) (B : Nat) (w : World) : RowF Z B [] (.slice none 0 0) w := ⟨[], World.ownsRow_nil _ _ _ _, rfl⟩
theorem RowF.next {Z : Nat → Prop} {B : Nat} {l : List Con} {v : Value} {w w' : World} (h : RowF Z B l v w) (hb : Below w.heap.size w w') : RowF Z B l v w' := by
  obtain ⟨vs, h1, h2⟩ := h
  exact ⟨vs, row_same' h1 fun b hb' => hb.block b (h1.lt b hb').2, (RZ.same hb.size (fun b h => hb.block b h.2) h2).weak fun b h => ⟨h.1, Nat.lt_of_lt_of_le h.2 hb.size⟩⟩
theorem RowF.same {Z : Nat → Prop} {B : Nat} {l : List Con} {v : Value} {w w' : World} (h : RowF Z B l v w) (hs : w.heap.size ≤ w'.heap.size) (hb : ∀ b, (Z b ∨ B ≤ b) → w'.heap[b]? = w.heap[b]?) : RowF Z B l v w' := by
  obtain ⟨vs, h1, h2⟩ := h
  exact ⟨vs, row_same' h1 fun b hb' => hb b (.inr (h1.lt b hb').1), (RZ.same hs (fun b h => hb b (.inl h.1.1)) h2).weak fun b h => ⟨h.1, Nat.lt_of_lt_of_le h.2 hs⟩⟩
theorem RowF.kv {Z : Nat → Prop} {B : Nat} {l : List Con} {v : Value} {w : World} (h : RowF Z B l v w) (hw : ∀ y ∈ l, y.a.wide) (hl : l.length ≤ 1000000) : KV w (fun b => Z b ∨ B ≤ b) l v := by
  obtain ⟨vs, h1, h2⟩ := h
  exact KV.of_row ⟨vs, h1, h2.weak fun b h => h.1.1⟩ hw hl
theorem run_appF {w : World} {Z : Nat → Prop} {base : Nat} {v u : Value} {l ks : List Con} (ty : TypeId) (hown : RowF Z base l v w) (hK : KV w (fun b => Z b ∧ some b ≠ v.ownBlock) ks u) (h63 : l.length + ks.length ≤ 1000000) (hbase : base ≤ w.heap.size) :
    ∃ v' w', (Builtin.append_ #[22, 22] ty #[v, u]).run Try.prog w = .ok v' w' ∧ RowF Z base (l ++ ks) v' w' ∧ Below base w w' ∧ w.grownBy w' v.ownBlock := by
  obtain ⟨i0, hi0, hz0, hz1, hz2⟩ := con_info
  obtain ⟨vs, ho, hz⟩ := hown
  obtain ⟨p, c, rfl, _⟩ := hK.slice
  cases p with
  | none =>
    have e : ks = [] := by
      obtain ⟨q, c', sv, e, hl, h1, h2⟩ := hK.out
      obtain ⟨rfl, -, rfl⟩ := Value.slice.inj e
      cases ks with
      | nil => rfl
      | cons x r => obtain ⟨b, o, h3, _⟩ := h1 0 x rfl; cases h3
    subst e
    refine ⟨v, w, run_append_none' base _ ty 24 i0 5 c Try.underlying22 hi0 v _ vs ho, ⟨vs, by simpa using ho, by simpa using hz⟩, ⟨rfl, rfl, rfl, Nat.le_refl _, fun _ _ => rfl⟩, World.grownBy.refl w _⟩
  | some a =>
    obtain ⟨vs2, h1, h2⟩ := hK.lt_.rz
    have ha : ∀ (j : Nat) (u : Value), vs2[j]? = some u → w.cell? (a.add j) = some u := fun j u hu => by
      obtain ⟨b, o, e, _, h3⟩ := h2 j u hu
      have e := Option.some.inj e
      subst e
      rw [Addr.add_lit]; exact h3
    obtain ⟨v', w', k1, k2, k3, _, k5⟩ := run_append_own_at (P := Try.prog) (w := w) base 22 ty 24 i0 (.agg #[.int .i64 0, .int .i64 0, .int .i64 0, .int .i64 0, .slice none 0 0]) 5 56 Try.underlying22 hi0 hz0 hz1 hz2 rfl (by decide) v _ vs ho a ks.length c vs2 (by have := RZ.len h1; omega) ha h1.one (by unfold maxLen; omega) (by omega) hbase
    have hB : Below base w w' := ⟨k3.os, k3.tape, k3.output, k3.size, fun i hi => k3.block i (Nat.lt_of_lt_of_le hi hbase) (fun e => by have := (ho.lt i e.symm).1; omega)⟩
    have hk : ∀ {a : List Con} {u : List Value}, RZ w (fun b => (Z b ∧ some b ≠ v.ownBlock) ∧ b < w.heap.size) a u → RZ w' (fun b => (Z b ∧ some b ≠ v'.ownBlock) ∧ b < w'.heap.size) a u := fun h =>
      (RZ.same k3.size (fun b hb => k3.block b hb.2 hb.1.2) h).weak fun b hb => ⟨⟨hb.1.1, fun e => by
        rcases k5 with k5 | k5
        · exact hb.1.2 (e.trans k5)
        · rw [k5] at e; have e := Option.some.inj e; have := hb.2; omega⟩, Nat.lt_of_lt_of_le hb.2 k3.size⟩
    exact ⟨v', w', k1, ⟨vs ++ vs2, by rw [List.length_append]; exact k2, (hk hz).app (hk h1)⟩, hB, k3⟩
theorem list_appF {w : World} {ops : Array Oper} {rest : List Oper} {o : Oper} {a : Act} {Q : Exit → Act → World → Prop} (hgd : o.guard = none) (s x : Operand)
    (ho : o.op = .call { callee := .builtin .append, args := #[s, x], argTypes := #[22, 22] }) (Z : Nat → Prop) (base : Nat) (v u : Value) (l ks : List Con) (hs : a.eval s = v) (hx : a.eval x = u)
    (hown : RowF Z base l v w) (hK : KV w (fun b => Z b ∧ some b ≠ v.ownBlock) ks u) (h63 : l.length + ks.length ≤ 1000000) (hbase : base ≤ w.heap.size)
    (h : ∀ v' w', RowF Z base (l ++ ks) v' w' → Below base w w' → wpList Try.prog ops Q rest (a.put o.dst v') w') : wpList Try.prog ops Q (o :: rest) a w :=
  wpList_plain hgd fun _ hk => by
    obtain ⟨v', w', k1, k2, k3, _⟩ := run_appF o.type hown hK h63 hbase
    unfold Oper.wp execOp
    simp only [ho, resolve, invoke, builtin, Sem.run_bind, Sem.run_pure, Result.andThen_ok, List.map_toArray, List.map_cons, List.map_nil, hs, hx, k1]
    exact hk _ _ (h v' w' k2 k3)
theorem packT_fine {a : D} {l : List Con} {t : Con} (ha : a.wide) (hl : ∀ x ∈ l, fine x) (hn : l.length ≤ 100000) (h : packT a l = some t) : fine t := by
  unfold packT at h
  split at h
  · cases h
  · split at h
    · cases hz : l[0]? with
      | none => rw [hz] at h; cases h
      | some z =>
        rw [hz] at h
        simp only [Option.map_some] at h
        have h := Option.some.inj h
        subst h
        have hf := hl z (List.mem_of_getElem? hz)
        obtain ⟨b, ks⟩ := z
        obtain ⟨h1, h2, h3⟩ := fine_kids hf
        exact fine_mk ⟨h1.1, ha.2.1, h1.2.2.1, h1.2.2.2⟩ h2 h3
    · have h := Option.some.inj h
      subst h
      exact fine_mk ha hn hl
theorem lessT_fine (c : Int) : ∀ (x t : Con), fine x → lessT c x = some t → fine t := by
  intro x
  induction x using Tr.ind with
  | h a ks ih =>
    intro t hf h
    simp only [lessT] at h
    split at h
    · split at h
      · cases h
      · have h := Option.some.inj h; subst h; exact hf
    · split at h
      · have h := Option.some.inj h; subst h; exact hf
      · obtain ⟨h1, h2, h3⟩ := fine_kids hf
        refine packT_fine h1 ?_ (Nat.le_trans (lessL_len c ks) h2) h
        have : ∀ (l : List Con), (∀ x ∈ l, x ∈ ks) → ∀ y ∈ lessL c l, fine y := by
          intro l
          induction l with
          | nil => intro _ y hy; simp [lessL] at hy
          | cons z r ihr =>
            intro hm y hy
            simp only [lessL, List.mem_append] at hy
            rcases hy with hy | hy
            · rw [Option.mem_toList] at hy
              exact ih z (hm z (by simp)) y (h3 z (hm z (by simp))) hy
            · exact ihr (fun q hq => hm q (by simp [hq])) y hy
        exact this ks fun _ h => h
theorem lessL_fine {c : Int} {ks : List Con} (h : ∀ x ∈ ks, fine x) : ∀ y ∈ lessL c ks, fine y := by
  induction ks with
  | nil => intro y hy; simp [lessL] at hy
  | cons z r ihr =>
    intro y hy
    simp only [lessL, List.mem_append] at hy
    rcases hy with hy | hy
    · rw [Option.mem_toList] at hy
      exact lessT_fine c z y (h z (by simp)) hy
    · exact ihr (fun q hq => h q (by simp [hq])) y hy
end Go.Proofs.Ytjeabkcbaielhaa.Co
