/- A map that counts names; which screens may be. -/
import Derived.Test.YteaeccmlibmmmaaArM
import Derived.Maps.OwnSet
import Derived.Maps.Views
namespace Go.Proofs.Yteaeccmlibmmmaa.Ar
open Go.RowKit Go.Maps
def litI (i : Int) : DataW Unit := .lit (.int .i64 i)
def elemI (v : Value) : Option (DataW Unit × List MemPlace) :=
  match v with
  | .int .i64 i => some (litI i, [])
  | _ => none
theorem elemI_of (i : Int) : elemI (.int .i64 i) = some (litI i, []) := rfl
theorem elemI_inv {v : Value} {i : Int} {ps : List MemPlace} (h : elemI v = some (litI i, ps)) : v = .int .i64 i := by
  unfold elemI at h
  split at h
  · next j =>
    simp only [Option.some.injEq, Prod.mk.injEq, litI, DataW.lit.injEq, Lit.int.injEq] at h
    obtain ⟨⟨_, h⟩, _⟩ := h
    rw [h]
  · cases h
theorem bytes_eq {a b : ByteArray} (h : a.data.toList = b.data.toList) : a = b := ByteArray.ext (Array.toList_inj.1 h)
abbrev keyS (s : ByteArray) : Lit := .string s.data.toList
theorem keyS_ne {s t : ByteArray} (h : s ≠ t) : keyS s ≠ keyS t := fun e => h (by injection e with e; exact bytes_eq e)
theorem keyS_of {s : ByteArray} (h : s.size ≤ maxLen) : keyOf Try.prog 9 (.string s) = some (keyS s) := WideMaps.keyOf_string_mk Try.underlying9 h
theorem keyedS : Keyed Try.prog 9 := string_keyed Try.underlying9
theorem zeroC (w : World) : (zeroValue 3).run Try.prog w = .ok (.int .i64 0) w := by kernel_rfl
theorem tightC {w : World} {b n : Nat} {D : DataW Unit} (h : w.ownsMap Try.prog 9 elemI b n D) : w.ownsMap Try.prog 9 elemI b (Maps.size D) D := by
  obtain ⟨es, clock, hb, F, _, rfl⟩ := h
  refine ⟨es, clock, hb, F, ?_, rfl⟩
  simp [Maps.size, length_sorted]
/-- Block b is a map that counts names; so many at most. -/
def MapC (w : World) (b : Nat) (f : ByteArray → Int) (N : Nat) : Prop :=
  ∃ n D, n ≤ N ∧ w.ownsMap Try.prog 9 elemI b n D ∧ Maps.size D = n ∧ ∀ s, s.size ≤ maxLen → D.atKey (keyS s) (litI 0) = litI (f s)
section
variable {w w' : World} {b N : Nat} {f : ByteArray → Int}
theorem MapC.made (w : World) : MapC (w.alloc (.map #[] 0)) w.heap.size (fun _ => 0) 0 := ⟨0, _, Nat.le_refl _, World.ownsMap_made _ _ _ _, rfl, fun _ _ => rfl⟩
theorem MapC.lt (h : MapC w b f N) : b < w.heap.size := by obtain ⟨n, D, _, h, _⟩ := h; exact h.lt
theorem MapC.same (h : MapC w b f N) (hb : w'.heap[b]? = w.heap[b]?) : MapC w' b f N := by
  obtain ⟨n, D, hn, ⟨es, clock, h1, r1⟩, r⟩ := h
  exact ⟨n, D, hn, ⟨es, clock, hb.trans h1, r1⟩, r⟩
theorem MapC.next (h : MapC w b f N) (hb : Below w.heap.size w w') : MapC w' b f N := h.same (hb.block _ h.lt)
theorem MapC.look (h : MapC w b f N) {s : ByteArray} (hs : s.size ≤ maxLen) : (Instr.lookup 55 (.map (some b)) (.string s) false).run Try.prog w = .ok (.int .i64 (f s)) w := by
  obtain ⟨n, D, _, h, _, r⟩ := h
  obtain ⟨v, ps, h1, h2⟩ := h.lookup keyedS Try.underlying55 (zeroC w) (elemI_of 0) (keyS_of hs)
  rw [r s hs] at h2
  rw [h1, elemI_inv h2]
theorem MapC.put (h : MapC w b f N) {s : ByteArray} (hs' : s.size ≤ maxLen) (hn : N < 1000000) (v : Int) :
    ∃ w', (Instr.mapUpdate 55 (.map (some b)) (.string s) (.int .i64 v)).run Try.prog w = .ok () w' ∧ MapC w' b (fun t => if t = s then v else f t) (N + 1) ∧ w.grownBy w' (some b) := by
  obtain ⟨n, D, hnN, h, hs, r⟩ := h
  obtain ⟨w', h1, h2, h3⟩ := h.update keyedS Try.underlying55 (by unfold maxLen; omega) (keyS_of hs') (elemI_of v)
  have hsz := Maps.size_put (h.tidy keyedS) (k := keyS s) (d := litI v)
  refine ⟨w', h1, ⟨Maps.size (D.put (keyS s) (litI v)), _, ?_, tightC h2, rfl, fun j hj => ?_⟩, h3⟩
  · rw [hsz, hs]; split <;> omega
  · by_cases hij : j = s
    · subst hij
      show _ = litI (if j = j then v else f j)
      rw [if_pos rfl]
      exact Maps.atKey_put_same h.isMap (show WideAt.IsKeyLit (keyS j) from trivial) _ _
    · show _ = litI (if j = s then v else f j)
      rw [if_neg hij]
      exact (Maps.atKey_put_other (keyS_ne hij) _ _).trans (r j hj)
end
/-- How often a name stands there. -/
def cntN (l : List Out) (s : ByteArray) : Int := (l.countP fun o => decide (o.n = s) : Nat)
theorem cnt_snoc {l : List Out} {k : Nat} {x : Out} (h : l[k]? = some x) (s : ByteArray) : cntN (l.take (k + 1)) s = if s = x.n then cntN (l.take k) x.n + 1 else cntN (l.take k) s := by
  obtain ⟨hl, rfl⟩ := List.getElem?_eq_some_iff.1 h
  unfold cntN
  rw [List.take_succ_eq_append_getElem hl, List.countP_append, List.countP_singleton]
  by_cases e : s = l[k].n
  · rw [if_pos e, ← e]; simp
  · rw [if_neg e, decide_eq_false (fun h => e h.symm)]; simp
theorem two_count {l : List Out} {s : ByteArray} {i j : Nat} {x y : Out} (hij : i < j) (hx : l[i]? = some x) (hy : l[j]? = some y) (h1 : x.n = s) (h2 : y.n = s) : 1 < cntN l s := by
  have e : l = l.take j ++ l.drop j := (List.take_append_drop j l).symm
  have hx2 : x ∈ l.take j := List.mem_of_getElem? (i := i) (by rw [List.getElem?_take_of_lt hij]; exact hx)
  have hy2 : y ∈ l.drop j := List.mem_of_getElem? (i := 0) (by rw [List.getElem?_drop]; exact hy)
  have a1 : 0 < (l.take j).countP fun o => decide (o.n = s) := List.countP_pos_iff.2 ⟨x, hx2, by simpa using h1⟩
  have a2 : 0 < (l.drop j).countP fun o => decide (o.n = s) := List.countP_pos_iff.2 ⟨y, hy2, by simpa using h2⟩
  unfold cntN
  rw [e, List.countP_append]
  omega
theorem one_count0 {s : ByteArray} : ∀ (l : List Out), 1 < (l.countP fun o => decide (o.n = s)) → ∃ (i j : Nat) (x y : Out), i < j ∧ l[i]? = some x ∧ l[j]? = some y ∧ x.n = s ∧ y.n = s := by
  intro l
  induction l with
  | nil => intro h; simp at h
  | cons a r ih =>
    intro h
    by_cases c : 1 < r.countP fun o => decide (o.n = s)
    · obtain ⟨i, j, x, y, h1, h2, h3, h4⟩ := ih c
      exact ⟨i + 1, j + 1, x, y, by omega, by simpa using h2, by simpa using h3, h4⟩
    · by_cases e : a.n = s
      · have hp : 0 < r.countP fun o => decide (o.n = s) := by
          rw [List.countP_cons_of_pos (by simpa using e)] at h; omega
        obtain ⟨y, hy, hys⟩ := List.countP_pos_iff.1 hp
        obtain ⟨j, hj⟩ := List.getElem?_of_mem hy
        exact ⟨0, j + 1, a, y, by omega, rfl, by simpa using hj, e, by simpa using hys⟩
      · rw [List.countP_cons_of_neg (by simpa using e)] at h; exact absurd h c
theorem one_count {l : List Out} {s : ByteArray} (h : 1 < cntN l s) : ∃ (i j : Nat) (x y : Out), i < j ∧ l[i]? = some x ∧ l[j]? = some y ∧ x.n = s ∧ y.n = s := one_count0 l (by unfold cntN at h; omega)
/-- By itself, and beside those ahead of it, a screen may be. -/
def okO (l : List Out) (i : Nat) (x : Out) : Prop := nameB x.n = true ∧ emptyB x.x x.y x.w x.h = false ∧ ∀ (j : Nat) (y : Out), j < i → l[j]? = some y → y.n ≠ x.n ∧ sharedI y ⟨x.x, x.y, x.w, x.h⟩ = 0
/-- Screens that may be. -/
def goodL (l : List Out) : Prop := ∀ (i : Nat) (x : Out), l[i]? = some x → okO l i x
/-- What Check tells. -/
def ChkR (l : List Out) (z : Int) : Prop := (16 < l.length ∧ z = 2) ∨ (¬ 16 < l.length ∧ goodL l ∧ z = 0) ∨ (¬ 16 < l.length ∧ ¬ goodL l ∧ z = 130)
theorem ChkR.one {l : List Out} {y z : Int} (h : ChkR l y) (k : ChkR l z) : y = z := by
  rcases h with ⟨h1, rfl⟩ | ⟨h1, h2, rfl⟩ | ⟨h1, h2, rfl⟩ <;> rcases k with ⟨k1, rfl⟩ | ⟨k1, k2, rfl⟩ | ⟨k1, k2, rfl⟩ <;> first | rfl | (exact absurd k1 h1) | (exact absurd h1 k1) | (exact absurd h2 k2) | (exact absurd k2 h2)
theorem chk_many {l : List Out} (h : 16 < l.length) : ChkR l 2 := .inl ⟨h, rfl⟩
theorem chk_bad {l : List Out} (h : ¬ 16 < l.length) {i : Nat} {x : Out} (hx : l[i]? = some x) (hb : ¬ okO l i x) : ChkR l 130 := .inr (.inr ⟨h, fun hg => hb (hg i x hx), rfl⟩)
theorem chk_good {l : List Out} (h : ¬ 16 < l.length) (hg : goodL l) : ChkR l 0 := .inr (.inl ⟨h, hg, rfl⟩)
/-- A name that stands there twice. -/
theorem chk_twice {l : List Out} (h : ¬ 16 < l.length) {s : ByteArray} (hc : 1 < cntN l s) : ChkR l 130 := by
  obtain ⟨i, j, x, y, hij, hx, hy, h1, h2⟩ := one_count hc
  exact chk_bad h hy fun ho => (ho.2.2 i x hij hx).1 (h1.trans h2.symm)
theorem area_nul {x y a b : Int} : areaI x y a b = 0 ↔ emptyB x y a b = true := by
  unfold areaI
  constructor
  · intro h
    split at h
    · assumption
    · rename_i he
      have he' : emptyB x y a b = false := by simpa using he
      obtain ⟨⟨h1, h2, h3, h4⟩, h5, h6, h7, h8⟩ := (emptyB_iff x y a b).1 he'
      have := Int.mul_pos (show 0 < a by omega) (show 0 < b by omega)
      omega
  · intro h; rw [if_pos h]
theorem toList_ne {a b : ByteArray} : (a.toList == b.toList) = true ↔ a = b := by
  rw [beq_iff_eq, ByteArray.toList_eq, ByteArray.toList_eq]
  exact ⟨fun h => bytes_eq h, fun h => by rw [h]⟩
end Go.Proofs.Yteaeccmlibmmmaa.Ar
