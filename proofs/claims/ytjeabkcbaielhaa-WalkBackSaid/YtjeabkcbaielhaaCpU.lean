/- Rows of containers that the document's calls make: what is put behind them. -/
import Derived.Test.YtjeabkcbaielhaaCpT
import Derived.Maps.AppendAt
import Derived.Laws.OwnMore
namespace Go.Proofs.Ytjeabkcbaielhaa.Co
open Go.RowKit Go.Shelf Go.Maps
/-- A row of the call's own: these containers. -/
def RowE (Z : Nat → Prop) (B : Nat) (l : List Con) (v : Value) (w : World) : Prop := ∃ vs, w.ownsRow B 24 5 v l.length vs ∧ RZ w Z l vs
theorem RowR.e {Z : Nat → Prop} {B : Nat} {l : List Con} {v : Value} {w : World} (h : RowR Z B l v w) : RowE Z B l v w := by
  obtain ⟨vs, h1, h2, _⟩ := h; exact ⟨vs, h1, h2⟩
theorem KV.weak {w : World} {Z Z' : Nat → Prop} {ks : List Con} {v : Value} (h : KV w Z ks v) (hz : ∀ b, Z b → Z' b) : KV w Z' ks v := h.same hz (Nat.le_refl _) (fun _ _ _ => rfl)
theorem RowE.slice {Z : Nat → Prop} {B : Nat} {l : List Con} {v : Value} {w : World} (h : RowE Z B l v w) : ∃ p c, v = .slice p l.length c := by
  obtain ⟨vs, h1, _⟩ := h; exact row_slice h1
theorem RowE.slice' {Z : Nat → Prop} {B n : Nat} {l : List Con} {v : Value} {w : World} (h : RowE Z B l v w) (hn : l.length = n) : ∃ p c, v = .slice p n c := hn ▸ h.slice
theorem RowE.nil (Z : Nat → Prop) (B : Nat) (w : World) : RowE Z B [] (.slice none 0 0) w := ⟨[], World.ownsRow_nil _ _ _ _, rfl⟩
theorem RowE.next {Z : Nat → Prop} {B : Nat} {l : List Con} {v : Value} {w w' : World} (h : RowE Z B l v w) (hb : Below w.heap.size w w') (hZ : ∀ b, Z b → b < w.heap.size) : RowE Z B l v w' := by
  obtain ⟨vs, h1, h2⟩ := h
  exact ⟨vs, row_same' h1 fun b hb' => hb.block b (h1.lt b hb').2, RZ.next hb hZ h2⟩
theorem RZ.at_ {w : World} {Z : Nat → Prop} : ∀ {l : List Con} {vs : List Value} {j : Nat} {y : Con}, RZ w Z l vs → l[j]? = some y → ∃ sv, KV w Z y.ks sv ∧ ∀ (i : Nat) (u : Value), (encC y.a sv)[i]? = some u → vs[j * 5 + i]? = some u := by
  intro l
  induction l with
  | nil => intro vs j y _ h; simp at h
  | cons x r ih =>
    intro vs j y ⟨sv, rest, h1, h3, h4⟩ h
    cases j with
    | zero =>
      simp at h; subst h
      refine ⟨sv, h3, fun i u hu => ?_⟩
      have hi := (List.getElem?_eq_some_iff.1 hu).1
      rw [h1, List.getElem?_append_left (by simpa using hi)]
      simpa using hu
    | succ j =>
      obtain ⟨s', h5, h6⟩ := ih h4 (by simpa using h)
      refine ⟨s', h5, fun i u hu => ?_⟩
      rw [h1, List.getElem?_append_right (by rw [enc_len]; omega), enc_len, show (j + 1) * 5 + i - 5 = j * 5 + i by omega]
      exact h6 i u hu
/-- Such a row reads. -/
theorem KV.of_row {Z : Nat → Prop} {B : Nat} {l : List Con} {v : Value} {w : World} (h : RowE Z B l v w) (hw : ∀ y ∈ l, y.a.wide) (hl : l.length ≤ 1000000) : KV w (fun b => Z b ∨ B ≤ b) l v := by
  obtain ⟨vs, ho, hz⟩ := h
  have hex : ∀ j : Nat, ∃ s : Value, ∀ y, l[j]? = some y → KV w Z y.ks s ∧ ∀ (i : Nat) (u : Value), (encC y.a s)[i]? = some u → vs[j * 5 + i]? = some u := fun j => by
    cases hj : l[j]? with
    | none => exact ⟨undef, fun y h => by cases h⟩
    | some y =>
      obtain ⟨s, h1, h2⟩ := hz.at_ hj
      exact ⟨s, fun z h => by have h := Option.some.inj h; subst h; exact ⟨h1, h2⟩⟩
  obtain ⟨f, hf⟩ := Classical.axiomOfChoice hex
  rcases Nat.eq_zero_or_pos l.length with h0 | h0
  · have e : l = [] := List.eq_nil_of_length_eq_zero h0
    subst e
    obtain ⟨p, c, rfl⟩ := row_slice ho
    exact KV.nil w _ p c
  · obtain ⟨g, c, hv, h1, h2⟩ := ho.form h0
    have hc : l.length ≤ c := by
      rcases ho.2 with ⟨h3, h4⟩ | ⟨g', c', cur, h3, _, h5, h4, _⟩
      · omega
      · rw [hv] at h3; obtain ⟨-, -, rfl⟩ := Value.slice.inj h3; exact h4
    subst hv
    refine .mk l _ c f (by omega) hc (fun j x hx => ⟨g, 0, rfl, .inr h1, h2, hw x (List.mem_of_getElem? hx), fun i u hu => ?_⟩) (fun j x hx => ((hf j x hx).1).weak fun _ h => .inl h)
    have := ho.cells (g := g) rfl (j * 5 + i) u ((hf j x hx).2 i u hu)
    rwa [show (⟨g, 0, none⟩ : Addr).add (j * 5 + i) = ⟨g, 0 + j * 5 + i, none⟩ by unfold Addr.add; split <;> simp_all] at this
/-- A slice's cells, as a row. -/
theorem KV.rz {w : World} {Z : Nat → Prop} {ks : List Con} {p : Option Addr} {n c : Nat} (h : KV w Z ks (.slice p n c)) : ∃ vs : List Value, RZ w Z ks vs ∧ ∀ (j : Nat) (u : Value), vs[j]? = some u → ∃ b o, p = some ⟨b, o, none⟩ ∧ b < w.heap.size ∧ w.cell? ⟨b, o + j, none⟩ = some u := by
  obtain ⟨q, c', sv, e, _, h1, h2⟩ := h.out
  obtain ⟨rfl, rfl, rfl⟩ := Value.slice.inj e
  have key : ∀ (l : List Con) (i0 : Nat), (∀ (j : Nat) (x : Con), l[j]? = some x → ks[i0 + j]? = some x) → ∃ vs : List Value, RZ w Z l vs ∧ ∀ (j : Nat) (u : Value), vs[j]? = some u → ∃ b o, p = some ⟨b, o, none⟩ ∧ b < w.heap.size ∧ w.cell? ⟨b, o + i0 * 5 + j, none⟩ = some u := by
    intro l
    induction l with
    | nil => intro i0 _; exact ⟨[], rfl, fun j u h => by simp at h⟩
    | cons x r ih =>
      intro i0 hl
      have hx : ks[i0]? = some x := by have := hl 0 x rfl; simpa using this
      obtain ⟨vs, h3, h4⟩ := ih (i0 + 1) (fun j y hy => by have := hl (j + 1) y (by simpa using hy); rwa [show i0 + (j + 1) = i0 + 1 + j by omega] at this)
      refine ⟨encC x.a (sv i0) ++ vs, ⟨sv i0, vs, rfl, h2 i0 x hx, h3⟩, fun j u hu => ?_⟩
      by_cases hj : j < 5
      · rw [List.getElem?_append_left (by rw [enc_len]; exact hj)] at hu
        obtain ⟨b, o, h5, _, h6, _, h7⟩ := h1 i0 x hx
        exact ⟨b, o, h5, h6, h7 j u hu⟩
      · rw [List.getElem?_append_right (by rw [enc_len]; omega), enc_len] at hu
        obtain ⟨b, o, h5, h6, h7⟩ := h4 (j - 5) u hu
        exact ⟨b, o, h5, h6, by rwa [show o + (i0 + 1) * 5 + (j - 5) = o + i0 * 5 + j by omega] at h7⟩
  obtain ⟨vs, h3, h4⟩ := key ks 0 (fun j x hx => by simpa using hx)
  exact ⟨vs, h3, fun j u hu => by
    obtain ⟨b, o, h5, h6, h7⟩ := h4 j u hu
    exact ⟨b, o, h5, h6, by simpa using h7⟩⟩
theorem KV.take {w : World} {Z : Nat → Prop} {ks : List Con} {p : Option Addr} {n c k : Nat} (h : KV w Z ks (.slice p n c)) (hk : k ≤ n) : KV w Z (ks.take k) (.slice p k c) := by
  have hcap := h.cap
  obtain ⟨q, c', sv, e, hl, h1, h2⟩ := h.out
  obtain ⟨rfl, rfl, rfl⟩ := Value.slice.inj e
  have hlen : (ks.take k).length = k := by simp; omega
  have hget : ∀ (j : Nat) (x : Con), (ks.take k)[j]? = some x → ks[j]? = some x := fun j x hx => by
    rw [List.getElem?_take] at hx
    split at hx
    · exact hx
    · cases hx
  have := KV.mk (w := w) (Z := Z) (ks.take k) p c sv (by omega) (by omega) (fun j x hx => h1 j x (hget j x hx)) (fun j x hx => h2 j x (hget j x hx))
  rwa [hlen] at this
theorem KV.drop {w : World} {Z : Nat → Prop} {ks : List Con} {p : Option Addr} {n c k : Nat} (h : KV w Z ks (.slice p n c)) (hk : k ≤ n) : KV w Z (ks.drop k) (.slice (if c = k then p else Option.map (fun a => a.add (k * 5)) p) (n - k) (c - k)) := by
  have hcap := h.cap
  obtain ⟨q, c', sv, e, hl, h1, h2⟩ := h.out
  obtain ⟨rfl, rfl, rfl⟩ := Value.slice.inj e
  have hlen : (ks.drop k).length = ks.length - k := by simp
  have hget : ∀ (j : Nat) (x : Con), (ks.drop k)[j]? = some x → ks[k + j]? = some x := fun j x hx => by rwa [List.getElem?_drop] at hx
  have := KV.mk (w := w) (Z := Z) (ks.drop k) (if c = k then p else Option.map (fun a => a.add (k * 5)) p) (c - k) (fun j => sv (k + j)) (by omega) (by omega) (fun j x hx => by
    obtain ⟨b, o, h3, h4, h5, h6, h7⟩ := h1 (k + j) x (hget j x hx)
    have hj := (List.getElem?_eq_some_iff.1 (hget j x hx)).1
    refine ⟨b, o + k * 5, ?_, h4, h5, h6, fun i u hu => ?_⟩
    · rw [if_neg (by omega), h3]; simp [Addr.add]
    · have := h7 i u hu
      rwa [show o + (k + j) * 5 + i = o + k * 5 + j * 5 + i by omega] at this) (fun j x hx => h2 (k + j) x (hget j x hx))
  rwa [hlen] at this
theorem run_append_none' (base : Nat) (t ty e : TypeId) (i : TypeInfo) (size c : Nat) {w : World} (ht : Try.prog.underlying t = some (.slice e)) (hi : Try.prog.info? e = some i) (v : Value) (n : Nat) (xs : List Value) (hown : w.ownsRow base e size v n xs) :
    (Builtin.append_ #[t, t] ty #[v, .slice none 0 c]).run Try.prog w = .ok v w := by
  rcases hown.2 with ⟨rfl, rfl⟩ | ⟨g, cap, cur, rfl, _, _, hnc, _⟩
  · simp [Builtin.append_, run_underlying ht, sizeOf, typeInfo, hi, Builtin.lenOf, Builtin.firstCells]
  · simp [Builtin.append_, run_underlying ht, sizeOf, typeInfo, hi, Builtin.lenOf, Builtin.firstCells, hnc, storeCells]
theorem run_appK {w : World} {Z : Nat → Prop} {base : Nat} {v u : Value} {l ks : List Con} (ty : TypeId) (hown : RowE Z base l v w) (hK : KV w Z ks u) (h63 : l.length + ks.length ≤ 1000000) (hbase : base ≤ w.heap.size) (hZ : ∀ b, Z b → b < base) :
    ∃ v' w', (Builtin.append_ #[22, 22] ty #[v, u]).run Try.prog w = .ok v' w' ∧ RowE Z base (l ++ ks) v' w' ∧ Below base w w' := by
  obtain ⟨i0, hi0, hz0, hz1, hz2⟩ := con_info
  obtain ⟨vs, ho, hz⟩ := hown
  obtain ⟨p, c, rfl, _⟩ := hK.slice
  cases p with
  | none =>
    have e : ks = [] := by
      obtain ⟨q, c', sv, e, hl, h1, h2⟩ := hK.out
      obtain ⟨rfl, -, rfl⟩ := Value.slice.inj e
      cases ks with
      | nil => rfl
      | cons x r => obtain ⟨b, o, h3, _⟩ := h1 0 x rfl; cases h3
    subst e
    refine ⟨v, w, run_append_none' base _ ty 24 i0 5 c Try.underlying22 hi0 v _ vs ho, ⟨vs, by simpa using ho, by simpa using hz⟩, ⟨rfl, rfl, rfl, Nat.le_refl _, fun _ _ => rfl⟩⟩
  | some a =>
    obtain ⟨vs2, h1, h2⟩ := hK.rz
    have ha : ∀ (j : Nat) (u : Value), vs2[j]? = some u → w.cell? (a.add j) = some u := fun j u hu => by
      obtain ⟨b, o, e, _, h3⟩ := h2 j u hu
      have e := Option.some.inj e
      subst e
      rw [Addr.add_lit]; exact h3
    obtain ⟨v', w', k1, k2, k3, _⟩ := run_append_own_at (P := Try.prog) (w := w) base 22 ty 24 i0 (.agg #[.int .i64 0, .int .i64 0, .int .i64 0, .int .i64 0, .slice none 0 0]) 5 56 Try.underlying22 hi0 hz0 hz1 hz2 rfl (by decide) v _ vs ho a ks.length c vs2 (by have := RZ.len h1; omega) ha h1.one (by unfold maxLen; omega) (by omega) hbase
    have hB : Below base w w' := ⟨k3.os, k3.tape, k3.output, k3.size, fun i hi => k3.block i (Nat.lt_of_lt_of_le hi hbase) (fun e => by have := (ho.lt i e.symm).1; omega)⟩
    exact ⟨v', w', k1, ⟨vs ++ vs2, by rw [List.length_append]; exact k2, (RZ.next hB hZ hz).app (RZ.next hB hZ h1)⟩, hB⟩
theorem list_appK {w : World} {ops : Array Oper} {rest : List Oper} {o : Oper} {a : Act} {Q : Exit → Act → World → Prop} (hgd : o.guard = none) (s x : Operand)
    (ho : o.op = .call { callee := .builtin .append, args := #[s, x], argTypes := #[22, 22] }) (Z : Nat → Prop) (base : Nat) (v u : Value) (l ks : List Con) (hs : a.eval s = v) (hx : a.eval x = u)
    (hown : RowE Z base l v w) (hK : KV w Z ks u) (h63 : l.length + ks.length ≤ 1000000) (hbase : base ≤ w.heap.size) (hZ : ∀ b, Z b → b < base)
    (h : ∀ v' w', RowE Z base (l ++ ks) v' w' → Below base w w' → wpList Try.prog ops Q rest (a.put o.dst v') w') : wpList Try.prog ops Q (o :: rest) a w :=
  wpList_plain hgd fun _ hk => by
    obtain ⟨v', w', k1, k2, k3⟩ := run_appK o.type hown hK h63 hbase hZ
    unfold Oper.wp execOp
    simp only [ho, resolve, invoke, builtin, Sem.run_bind, Sem.run_pure, Result.andThen_ok, List.map_toArray, List.map_cons, List.map_nil, hs, hx, k1]
    exact hk _ _ (h v' w' k2 k3)
end Go.Proofs.Ytjeabkcbaielhaa.Co
