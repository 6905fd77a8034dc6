/- Maps from numbers to plain values; components of memory told apart by colours. -/
import Derived.Test.YtfdgpbdppenhmaaGreatSrC
import Derived.MapFrom
namespace Go.Proofs.YtfdgpbdppenhmaaGreat
open Go.RowKit Go.Shelf Go.Maps
/-- How an element reads. -/
structure Elt (α : Type) where
  enc : α → Value
  lit : α → DataW Unit
  el : Value → Option (DataW Unit × List MemPlace)
  of_ : ∀ a, el (enc a) = some (lit a, [])
  inv : ∀ v a ps, el v = some (lit a, ps) → v = enc a
def elN (v : Value) : Option (DataW Unit × List MemPlace) :=
  match v with
  | .int .i64 n => some (.lit (.int .i64 n), [])
  | _ => none
def eltN : Elt Int := ⟨.int .i64, fun n => .lit (.int .i64 n), elN, fun _ => rfl, fun v a ps h => by
  unfold elN at h
  split at h
  · simp only [Option.some.injEq, Prod.mk.injEq, DataW.lit.injEq, Lit.int.injEq, true_and] at h
    rw [h.1]
  · cases h⟩
def elU (v : Value) : Option (DataW Unit × List MemPlace) :=
  match v with
  | .agg l => if l = #[] then some (.agg [], []) else none
  | _ => none
def eltU : Elt Unit := ⟨fun _ => .agg #[], fun _ => .agg [], elU, fun _ => rfl, fun v a ps h => by
  unfold elU at h
  split at h
  · split at h
    · next e => rw [e]
    · cases h
  · cases h⟩
/-- Block b is a map of n entries from numbers. -/
def MapG {α : Type} (E : Elt α) (z : α) (w : World) (b : Nat) (f : Int → Option α) (n : Nat) : Prop :=
  ∃ D, w.ownsMap Tryz.prog 3 E.el b n D ∧ Maps.size D = n ∧ ∀ i, I64 i → D.atKey (keyI i) (E.lit z) = E.lit ((f i).getD z) ∧ Maps.has D (keyI i) = (f i).isSome
theorem tightG {el : Value → Option (DataW Unit × List MemPlace)} {w : World} {b n : Nat} {D : DataW Unit} (h : w.ownsMap Tryz.prog 3 el b n D) : w.ownsMap Tryz.prog 3 el b (Maps.size D) D := by
  obtain ⟨es, clock, hb, F, _, rfl⟩ := h
  refine ⟨es, clock, hb, F, ?_, rfl⟩
  simp [Maps.size, length_sorted]
section
variable {α : Type} {E : Elt α} {z : α} {w w' : World} {b n : Nat} {f : Int → Option α}
theorem MapG.made (w : World) : MapG E z (w.alloc (.map #[] 0)) w.heap.size (fun _ => none) 0 :=
  ⟨_, World.ownsMap_made _ _ _ _, rfl, fun _ _ => ⟨rfl, rfl⟩⟩
theorem MapG.lt (h : MapG E z w b f n) : b < w.heap.size := by obtain ⟨D, h, _⟩ := h; exact h.lt
theorem MapG.same (h : MapG E z w b f n) (hb : w'.heap[b]? = w.heap[b]?) : MapG E z w' b f n := by
  obtain ⟨D, ⟨es, clock, h1, r1⟩, r⟩ := h
  exact ⟨D, ⟨es, clock, hb.trans h1, r1⟩, r⟩
theorem MapG.next (h : MapG E z w b f n) (hb : Below w.heap.size w w') : MapG E z w' b f n := h.same (hb.block _ h.lt)
theorem MapG.look (h : MapG E z w b f n) {T te : TypeId} (hT : Tryz.prog.underlying T = some (.map 3 te)) (hz : (zeroValue te).run Tryz.prog w = .ok (E.enc z) w) {i : Int} (hi : I64 i) :
    (Instr.lookup T (.map (some b)) (.int .i64 i) false).run Tryz.prog w = .ok (E.enc ((f i).getD z)) w := by
  obtain ⟨D, h, _, r⟩ := h
  obtain ⟨v, ps, h1, h2⟩ := h.lookup keyed hT hz (E.of_ z) (key_of hi)
  rw [(r i hi).1] at h2
  rw [h1, E.inv _ _ _ h2]
theorem MapG.look2 (h : MapG E z w b f n) {T te : TypeId} (hT : Tryz.prog.underlying T = some (.map 3 te)) (hz : (zeroValue te).run Tryz.prog w = .ok (E.enc z) w) {i : Int} (hi : I64 i) :
    (Instr.lookup T (.map (some b)) (.int .i64 i) true).run Tryz.prog w = .ok (.tuple #[E.enc ((f i).getD z), .bool (f i).isSome]) w := by
  obtain ⟨D, h, _, r⟩ := h
  obtain ⟨v, ps, h1, h2⟩ := h.look_ok keyed hT hz (E.of_ z) (key_of hi)
  rw [(r i hi).1] at h2
  rw [h1, E.inv _ _ _ h2, (r i hi).2]
theorem MapG.put (h : MapG E z w b f n) {T te : TypeId} (hT : Tryz.prog.underlying T = some (.map 3 te)) {i : Int} (hi : I64 i) (hn : n < 4611686018427387904) (a : α) :
    ∃ w', (Instr.mapUpdate T (.map (some b)) (.int .i64 i) (E.enc a)).run Tryz.prog w = .ok () w' ∧ MapG E z w' b (upd f i (some a)) (if (f i).isSome then n else n + 1) ∧ w.grownBy w' (some b) := by
  obtain ⟨D, h, hs, r⟩ := h
  obtain ⟨w', h1, h2, h3⟩ := h.update keyed hT (by unfold maxLen; omega) (key_of hi) (E.of_ a)
  have hsz : Maps.size (D.put (keyI i) (E.lit a)) = if (f i).isSome then n else n + 1 := by
    rw [Maps.size_put (h.tidy keyed), (r i hi).2, hs]
  refine ⟨w', h1, ⟨_, ?_, hsz, fun j hj => ?_⟩, h3⟩
  · have := tightG h2; rwa [hsz] at this
  · by_cases hij : j = i
    · subst hij
      rw [upd_same]
      exact ⟨Maps.atKey_put_same h.isMap (show WideAt.IsKeyLit (keyI j) from trivial) _ _, Maps.has_put_same h.isMap (show WideAt.IsKeyLit (keyI j) from trivial) _⟩
    · rw [upd_other _ _ hij]
      exact ⟨(Maps.atKey_put_other (keyI_ne hij) _ _).trans (r j hj).1, (Maps.has_put_other (keyI_ne hij) _).trans (r j hj).2⟩
theorem MapG.del (h : MapG E z w b f n) {T te : TypeId} (hT : Tryz.prog.underlying T = some (.map 3 te)) {i : Int} (hi : I64 i) (ty : TypeId) :
    ∃ w', (Builtin.delete_ #[T, 3] ty #[.map (some b), .int .i64 i]).run Tryz.prog w = .ok (.tuple #[]) w' ∧ (∃ n', n' ≤ n ∧ MapG E z w' b (upd f i none) n') ∧ w.grownBy w' (some b) := by
  obtain ⟨D, h, hs, r⟩ := h
  obtain ⟨w', h1, h2, h3⟩ := h.drop keyed hT (key_of hi) ty
  have h4 := Maps.size_del (k := keyI i) (h.tidy keyed)
  refine ⟨w', h1, ⟨Maps.size (D.del (keyI i)), by omega, _, tightG h2, rfl, fun j hj => ?_⟩, h3.grown⟩
  by_cases hij : j = i
  · subst hij
    rw [upd_same]
    exact ⟨Maps.atKey_del_same _, Maps.has_del_same⟩
  · rw [upd_other _ _ hij]
    exact ⟨(Maps.atKey_del_other (keyI_ne hij) _).trans (r j hj).1, (Maps.has_del_other (keyI_ne hij)).trans (r j hj).2⟩
theorem MapG.clear (h : MapG E z w b f n) {T te : TypeId} (hT : Tryz.prog.underlying T = some (.map 3 te)) (ty : TypeId) :
    ∃ w', (Builtin.clear_ #[T] ty #[.map (some b)]).run Tryz.prog w = .ok (.tuple #[]) w' ∧ MapG E z w' b (fun _ => none) 0 ∧ w.grownBy w' (some b) := by
  obtain ⟨D, ⟨es, clock, hb, F, _, _⟩, _⟩ := h
  refine ⟨{ w with heap := w.heap.setIfInBounds b (.map #[] clock) }, ?_, ⟨.map [], ⟨#[], clock, ?_, ⟨by simp, MapKept.stamped_empty clock, by simp⟩, Nat.le_refl _, rfl⟩, rfl, fun _ _ => ⟨rfl, rfl⟩⟩, ⟨rfl, rfl, rfl, by simp, fun i _ hi => ?_⟩⟩
  · simp [Builtin.clear_, Go.run_underlying hT, MapKept.run_getObj_map hb, MapKept.run_setObj_map _ hb, Result.andThen]
  · have hlt : b < w.heap.size := by
      rcases Nat.lt_or_ge b w.heap.size with h | h
      · exact h
      · rw [Array.getElem?_eq_none h] at hb; cases hb
    simp [hlt]
  · have hne : b ≠ i := fun e => hi (by rw [e])
    simp [hne]
end
/-! ### colours -/
/-- A component's blocks bear its colour. -/
def InC (w : World) (col : Nat → Nat) (c : Nat) (F : Nat → Prop) : Prop := ∀ b, F b → b < w.heap.size ∧ col b = c
/-- New blocks are given the colour c. -/
def paintC (w : World) (col : Nat → Nat) (c : Nat) : Nat → Nat := fun b => if b < w.heap.size then col b else c
section
variable {w w' : World} {col : Nat → Nat} {c d : Nat} {F F' G : Nat → Prop}
theorem InC.turn (h : InC w col c F) (hT : Turn F F' w w') (hF : ∀ b, F' b → b < w'.heap.size) : InC w' (paintC w col c) c F' := fun b hb => by
  refine ⟨hF b hb, ?_⟩
  unfold paintC
  split
  · next hl =>
    rcases hT.foot b hb with h1 | h1
    · exact (h b h1).2
    · omega
  · rfl
theorem InC.stay (h : InC w col d G) (hs : w.heap.size ≤ w'.heap.size) : InC w' (paintC w col c) d G := fun b hb => by
  obtain ⟨h1, h2⟩ := h b hb
  refine ⟨Nat.lt_of_lt_of_le h1 hs, ?_⟩
  unfold paintC
  rw [if_pos h1]; exact h2
theorem InC.block (h : InC w col d G) (k : InC w col c F) (hcd : d ≠ c) (hT : Turn F F' w w') {b : Nat} (hb : G b) : w'.heap[b]? = w.heap[b]? :=
  hT.block b (h b hb).1 fun hf => hcd ((h b hb).2.symm.trans (k b hf).2)
end
end Go.Proofs.YtfdgpbdppenhmaaGreat
