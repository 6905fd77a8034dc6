/- A map from numbers to nodes, by their blocks. -/
import Derived.Test.YtlbbjinkblgfiaaRhD
import Derived.Test.YtlbbjinkblgfiaaWiA
import Derived.Maps.OwnSet
import Derived.Maps.Views
namespace Go.Proofs.Ytlbbjinkblgfiaa
open Go.RowKit Go.Shelf Go.Maps
/-- How an element reads: by its block. -/
def elemP (v : Value) : Option (DataW Unit × List MemPlace) :=
  match v with
  | .pointer (some ⟨b, 0, none⟩) => some (.lit (.int .i64 b), [])
  | .pointer none => some (.lit (.int .i64 (-1)), [])
  | _ => none
def ptrOf (o : Option Nat) : Value := match o with
  | some b => .pointer (some ⟨b, 0, none⟩)
  | none => .pointer none
def litOf (o : Option Nat) : DataW Unit := .lit (.int .i64 (match o with | some b => (b : Int) | none => -1))
theorem elemP_of (o : Option Nat) : elemP (ptrOf o) = some (litOf o, []) := by cases o <;> rfl
theorem elemP_inv {v : Value} {o : Option Nat} {ps : List MemPlace} (h : elemP v = some (litOf o, ps)) : v = ptrOf o := by
  unfold elemP at h
  split at h
  · next b =>
    simp only [Option.some.injEq, Prod.mk.injEq] at h
    obtain ⟨h, _⟩ := h
    cases o with
    | none => simp only [litOf, DataW.lit.injEq, Lit.int.injEq] at h; omega
    | some c =>
      simp only [litOf, DataW.lit.injEq, Lit.int.injEq] at h
      obtain rfl : b = c := by omega
      rfl
  · simp only [Option.some.injEq, Prod.mk.injEq] at h
    obtain ⟨h, _⟩ := h
    cases o with
    | none => rfl
    | some c => simp only [litOf, DataW.lit.injEq, Lit.int.injEq] at h; omega
  · cases h
abbrev keyI (i : Int) : Lit := .int .i64 i
theorem wf_I64 {i : Int} (h : I64 i) : (Lit.int .i64 i).wf = true := WalkArith.wf_i64 (by unfold I64 at h; omega)
theorem key_of {i : Int} (h : I64 i) : keyOf Try.prog 3 (.int .i64 i) = some (keyI i) := keyOf_int_mk Try.underlying3 (wf_I64 h)
theorem keyed : Keyed Try.prog 3 := int_keyed Try.underlying3
theorem zeroK (w : World) : (zeroValue 75).run Try.prog w = .ok (.pointer none) w := by kernel_rfl
/-- Block bm is a map of n entries: at i the node in block nb i. -/
def MapAt (w : World) (bm : Nat) (nb : Int → Option Nat) (n : Nat) : Prop :=
  ∃ D, w.ownsMap Try.prog 3 elemP bm n D ∧ Maps.size D = n ∧ ∀ i, I64 i → D.atKey (keyI i) (litOf none) = litOf (nb i) ∧ Maps.has D (keyI i) = (nb i).isSome
theorem tight {w : World} {b n : Nat} {D : DataW Unit} (h : w.ownsMap Try.prog 3 elemP b n D) : w.ownsMap Try.prog 3 elemP b (Maps.size D) D := by
  obtain ⟨es, clock, hb, F, _, rfl⟩ := h
  refine ⟨es, clock, hb, F, ?_, rfl⟩
  simp [Maps.size, length_sorted]
section
variable {w w' : World} {bm n : Nat} {nb : Int → Option Nat}
theorem MapAt.made (w : World) : MapAt (w.alloc (.map #[] 0)) w.heap.size (fun _ => none) 0 :=
  ⟨_, World.ownsMap_made _ _ _ _, rfl, fun _ _ => ⟨rfl, rfl⟩⟩
theorem MapAt.lt (h : MapAt w bm nb n) : bm < w.heap.size := by obtain ⟨D, h, _⟩ := h; exact h.lt
theorem MapAt.kept {row : Option Nat} (h : MapAt w bm nb n) (hg : w.grownBy w' row) (hne : some bm ≠ row) : MapAt w' bm nb n := by
  obtain ⟨D, h, r⟩ := h
  exact ⟨D, h.kept hg hne, r⟩
theorem MapAt.same (h : MapAt w bm nb n) (hb : w'.heap[bm]? = w.heap[bm]?) : MapAt w' bm nb n := by
  obtain ⟨D, ⟨es, clock, h1, r1⟩, r⟩ := h
  exact ⟨D, ⟨es, clock, hb.trans h1, r1⟩, r⟩
theorem MapAt.look (h : MapAt w bm nb n) {i : Int} (hi : I64 i) : (Instr.lookup 66 (.map (some bm)) (.int .i64 i) false).run Try.prog w = .ok (ptrOf (nb i)) w := by
  obtain ⟨D, h, _, r⟩ := h
  obtain ⟨v, ps, h1, h2⟩ := h.lookup keyed Try.underlying66 (zeroK w) (elemP_of none) (key_of hi)
  rw [(r i hi).1] at h2
  rw [h1, elemP_inv h2]
theorem keyI_ne {i j : Int} (h : i ≠ j) : keyI i ≠ keyI j := fun e => h (by injection e)
theorem MapAt.put (h : MapAt w bm nb n) {i : Int} (hi : I64 i) (hn : n < 4611686018427387904) (hnone : nb i = none) (b : Nat) :
    ∃ w', (Instr.mapUpdate 66 (.map (some bm)) (.int .i64 i) (ptrOf (some b))).run Try.prog w = .ok () w' ∧ MapAt w' bm (upd nb i (some b)) (n + 1) ∧ w.grownBy w' (some bm) := by
  obtain ⟨D, h, hs, r⟩ := h
  obtain ⟨w', h1, h2, h3⟩ := h.update keyed Try.underlying66 (by unfold maxLen; omega) (key_of hi) (elemP_of (some b))
  have hsz : Maps.size (D.put (keyI i) (litOf (some b))) = n + 1 := by
    rw [Maps.size_put (h.tidy keyed), (r i hi).2, hnone, hs]; rfl
  refine ⟨w', h1, ⟨_, ?_, hsz, fun j hj => ?_⟩, h3⟩
  · have := tight h2; rwa [hsz] at this
  · by_cases hij : j = i
    · subst hij
      rw [upd_same]
      exact ⟨Maps.atKey_put_same h.isMap (show WideAt.IsKeyLit (keyI j) from trivial) _ _, Maps.has_put_same h.isMap (show WideAt.IsKeyLit (keyI j) from trivial) _⟩
    · rw [upd_other _ _ hij]
      exact ⟨(Maps.atKey_put_other (keyI_ne hij) _ _).trans (r j hj).1, (Maps.has_put_other (keyI_ne hij) _).trans (r j hj).2⟩
theorem MapAt.del (h : MapAt w bm nb n) {i : Int} (hi : I64 i) {b : Nat} (hsome : nb i = some b) (ty : TypeId) :
    ∃ w', (Builtin.delete_ #[66, 3] ty #[.map (some bm), .int .i64 i]).run Try.prog w = .ok (.tuple #[]) w' ∧ MapAt w' bm (upd nb i none) (n - 1) ∧ w.grownBy w' (some bm) ∧ 1 ≤ n := by
  obtain ⟨D, h, hs, r⟩ := h
  obtain ⟨w', h1, h2, h3⟩ := h.drop keyed Try.underlying66 (key_of hi) ty
  have h4 := Maps.size_del (k := keyI i) (h.tidy keyed)
  rw [(r i hi).2, hsome, hs] at h4
  simp only [Option.isSome_some, if_true] at h4
  have hsz : Maps.size (D.del (keyI i)) = n - 1 := by omega
  refine ⟨w', h1, ⟨_, ?_, hsz, fun j hj => ?_⟩, h3.grown, by omega⟩
  · have := tight h2; rwa [hsz] at this
  · by_cases hij : j = i
    · subst hij
      rw [upd_same]
      exact ⟨Maps.atKey_del_same _, Maps.has_del_same⟩
    · rw [upd_other _ _ hij]
      exact ⟨(Maps.atKey_del_other (keyI_ne hij) _).trans (r j hj).1, (Maps.has_del_other (keyI_ne hij)).trans (r j hj).2⟩
theorem MapAt.len (h : MapAt w bm nb n) (ty : TypeId) : (Builtin.len_ #[66] ty #[.map (some bm)]).run Try.prog w = .ok (.int .i64 n) w := by
  obtain ⟨D, h, hs, _⟩ := h
  rw [h.len Try.underlying66 ty, hs]
end
end Go.Proofs.Ytlbbjinkblgfiaa
