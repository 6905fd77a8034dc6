/- A map that holds numbers alone: a set. -/
import Derived.Test.YtjeabkcbaielhaaCoF
import Derived.MapFrom
import Derived.Maps.OwnSet
import Derived.Maps.Views
namespace Go.Proofs.Ytjeabkcbaielhaa.Co
open Go.RowKit Go.Maps
def elU (v : Value) : Option (DataW Unit × List MemPlace) :=
  match v with
  | .agg l => if l = #[] then some (.agg [], []) else none
  | _ => none
abbrev keyI (i : Int) : Lit := .int .i64 i
theorem wf_I64 {i : Int} (h : I64 i) : (Lit.int .i64 i).wf = true := WalkArith.wf_i64 (by unfold I64 at h; omega)
theorem key_of {i : Int} (h : I64 i) : keyOf Try.prog 3 (.int .i64 i) = some (keyI i) := keyOf_int_mk Try.underlying3 (wf_I64 h)
theorem keyed : Keyed Try.prog 3 := int_keyed Try.underlying3
theorem keyI_ne {i j : Int} (h : i ≠ j) : keyI i ≠ keyI j := fun e => h (by injection e)
theorem tightU {w : World} {b n : Nat} {D : DataW Unit} (h : w.ownsMap Try.prog 3 elU b n D) : w.ownsMap Try.prog 3 elU b (Maps.size D) D := by
  obtain ⟨es, clock, hb, F, _, rfl⟩ := h
  refine ⟨es, clock, hb, F, ?_, rfl⟩
  simp [Maps.size, length_sorted]
/-- Block b is a map that holds just these numbers. -/
def SetI (w : World) (b : Nat) (s : List Int) : Prop :=
  ∃ D, w.ownsMap Try.prog 3 elU b s.length D ∧ Maps.size D = s.length ∧ ∀ i, I64 i → Maps.has D (keyI i) = decide (i ∈ s)
variable {w w' : World} {b : Nat} {s : List Int}
theorem SetI.made (w : World) : SetI (w.alloc (.map #[] 0)) w.heap.size [] := ⟨_, World.ownsMap_made _ _ _ _, rfl, fun _ _ => by simp; rfl⟩
theorem SetI.lt (h : SetI w b s) : b < w.heap.size := by obtain ⟨D, h, _⟩ := h; exact h.lt
theorem SetI.same (h : SetI w b s) (hb : w'.heap[b]? = w.heap[b]?) : SetI w' b s := by
  obtain ⟨D, ⟨es, clock, h1, r1⟩, r⟩ := h
  exact ⟨D, ⟨es, clock, hb.trans h1, r1⟩, r⟩
theorem SetI.next (h : SetI w b s) (hb : Below w.heap.size w w') : SetI w' b s := h.same (hb.block _ h.lt)
theorem SetI.len (h : SetI w b s) (ty : TypeId) : (Builtin.len_ #[60] ty #[.map (some b)]).run Try.prog w = .ok (.int .i64 s.length) w := by
  obtain ⟨D, h, hs, _⟩ := h
  rw [h.len Try.underlying60 ty, hs]
theorem SetI.put (h : SetI w b s) {i : Int} (hi : I64 i) (hn : s.length < 1000000) :
    ∃ w', (Instr.mapUpdate 60 (.map (some b)) (.int .i64 i) (.agg #[])).run Try.prog w = .ok () w' ∧ SetI w' b (if i ∈ s then s else s ++ [i]) ∧ w.grownBy w' (some b) := by
  obtain ⟨D, h, hs, r⟩ := h
  obtain ⟨w', h1, h2, h3⟩ := h.update (val := .agg #[]) keyed Try.underlying60 (by unfold maxLen; omega) (key_of hi) (show elU (.agg #[]) = some (.agg [], []) from rfl)
  have hsz : Maps.size (D.put (keyI i) (.agg [])) = (if i ∈ s then s else s ++ [i]).length := by
    rw [Maps.size_put (h.tidy keyed), r i hi, hs]
    by_cases hm : i ∈ s <;> simp [hm]
  refine ⟨w', h1, ⟨_, ?_, hsz, fun j hj => ?_⟩, h3⟩
  · have := tightU h2; rwa [hsz] at this
  · by_cases hij : j = i
    · subst hij
      rw [Maps.has_put_same h.isMap (show WideAt.IsKeyLit (keyI j) from trivial) _]
      by_cases hm : j ∈ s <;> simp [hm]
    · rw [Maps.has_put_other (keyI_ne hij) _, r j hj]
      by_cases hm : i ∈ s <;> simp [hm, hij]
end Go.Proofs.Ytjeabkcbaielhaa.Co
