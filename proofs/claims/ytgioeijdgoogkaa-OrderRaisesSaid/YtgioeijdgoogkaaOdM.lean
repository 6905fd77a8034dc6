/- Maps from numbers to numbers; things in memory. -/
import Derived.Test.YtgioeijdgoogkaaOdB
import Derived.Test.YtgioeijdgoogkaaMem
import Derived.Maps.OwnSet
import Derived.Maps.Views
import Derived.MapFrom
import Derived.LoopTactic
import Derived.Deep.QuietTactic
import Derived.BigQuiet
import Derived.Deep.DeepCutAuto
import Derived.Deep.RegionLaw
namespace Go.Proofs.Ytgioeijdgoogkaa.Od
open Go.RowKit Go.Maps
def I64 (i : Int) : Prop := -9223372036854775808 ≤ i ∧ i ≤ 9223372036854775807
abbrev keyI (i : Int) : Lit := .int .i64 i
theorem wf_I64 {i : Int} (h : I64 i) : (Lit.int .i64 i).wf = true := WalkArith.wf_i64 (by unfold I64 at h; omega)
theorem i64_of {z : Int} (h : (Lit.int .i64 z).wf = true) : I64 z := by
  unfold I64
  simp [Lit.wf, IntKind.min, IntKind.max, IntKind.signed, IntKind.bits] at h
  omega
theorem key_of {i : Int} (h : I64 i) : keyOf Try.prog 3 (.int .i64 i) = some (keyI i) := keyOf_int_mk Try.underlying3 (wf_I64 h)
theorem keyed : Keyed Try.prog 3 := int_keyed Try.underlying3
theorem keyI_ne {i j : Int} (h : i ≠ j) : keyI i ≠ keyI j := fun e => h (by injection e)
def litI (i : Int) : DataW Unit := .lit (.int .i64 i)
def elemI (v : Value) : Option (DataW Unit × List MemPlace) :=
  match v with
  | .int .i64 i => some (litI i, [])
  | _ => none
theorem elemI_of (i : Int) : elemI (.int .i64 i) = some (litI i, []) := rfl
theorem elemI_inv {v : Value} {i : Int} {ps : List MemPlace} (h : elemI v = some (litI i, ps)) : v = .int .i64 i := by
  unfold elemI at h
  split at h
  · next j =>
    simp only [Option.some.injEq, Prod.mk.injEq, litI, DataW.lit.injEq, Lit.int.injEq] at h
    obtain ⟨⟨_, h⟩, _⟩ := h
    rw [h]
  · cases h
theorem zeroI (w : World) : (zeroValue 3).run Try.prog w = .ok (.int .i64 0) w := by kernel_rfl
theorem tightI {w : World} {b n : Nat} {D : DataW Unit} (h : w.ownsMap Try.prog 3 elemI b n D) : w.ownsMap Try.prog 3 elemI b (Maps.size D) D := by
  obtain ⟨es, clock, hb, F, _, rfl⟩ := h
  refine ⟨es, clock, hb, F, ?_, rfl⟩
  simp [Maps.size, length_sorted]
/-- Block b is a map of n entries. -/
def MapP (w : World) (b : Nat) (f : Int → Option Int) (n : Nat) : Prop :=
  ∃ D, w.ownsMap Try.prog 3 elemI b n D ∧ Maps.size D = n ∧ ∀ i, I64 i → D.atKey (keyI i) (litI 0) = litI ((f i).getD 0) ∧ Maps.has D (keyI i) = (f i).isSome
section
variable {w w' : World} {b n : Nat} {f : Int → Option Int}
theorem MapP.made (w : World) : MapP (w.alloc (.map #[] 0)) w.heap.size (fun _ => none) 0 := ⟨_, World.ownsMap_made _ _ _ _, rfl, fun _ _ => ⟨rfl, rfl⟩⟩
theorem MapP.lt (h : MapP w b f n) : b < w.heap.size := by obtain ⟨D, h, _⟩ := h; exact h.lt
theorem MapP.same (h : MapP w b f n) (hb : w'.heap[b]? = w.heap[b]?) : MapP w' b f n := by
  obtain ⟨D, ⟨es, clock, h1, r1⟩, r⟩ := h
  exact ⟨D, ⟨es, clock, hb.trans h1, r1⟩, r⟩
theorem MapP.next (h : MapP w b f n) (hb : Below w.heap.size w w') : MapP w' b f n := h.same (hb.block _ h.lt)
theorem MapP.alloc (h : MapP w b f n) (o : Obj) : MapP (w.alloc o) b f n := h.next ((Below.refl _ _).alloc (Nat.le_refl _) o)
theorem MapP.cong {g : Int → Option Int} (h : MapP w b f n) (e : ∀ s, g s = f s) : MapP w b g n := (funext e : g = f) ▸ h
theorem MapP.look2 (h : MapP w b f n) {i : Int} (hi : I64 i) : (Instr.lookup 41 (.map (some b)) (.int .i64 i) true).run Try.prog w = .ok (.tuple #[.int .i64 ((f i).getD 0), .bool (f i).isSome]) w := by
  obtain ⟨D, h, _, r⟩ := h
  obtain ⟨v, ps, h1, h2⟩ := h.look_ok keyed Try.underlying41 (zeroI w) (elemI_of 0) (key_of hi)
  rw [(r i hi).1] at h2
  rw [h1, elemI_inv h2, (r i hi).2]
theorem MapP.put (h : MapP w b f n) {i : Int} (hi : I64 i) (hn : n < 4611686018427387904) (a : Int) :
    ∃ w', (Instr.mapUpdate 41 (.map (some b)) (.int .i64 i) (.int .i64 a)).run Try.prog w = .ok () w' ∧ MapP w' b (fun j => if j = i then some a else f j) (if (f i).isSome then n else n + 1) ∧ w.grownBy w' (some b) := by
  obtain ⟨D, h, hs, r⟩ := h
  obtain ⟨w', h1, h2, h3⟩ := h.update keyed Try.underlying41 (by unfold maxLen; omega) (key_of hi) (elemI_of a)
  have hsz : Maps.size (D.put (keyI i) (litI a)) = if (f i).isSome then n else n + 1 := by
    rw [Maps.size_put (h.tidy keyed), (r i hi).2, hs]
  refine ⟨w', h1, ⟨_, ?_, hsz, fun j hj => ?_⟩, h3⟩
  · have := tightI h2; rwa [hsz] at this
  · by_cases hij : j = i
    · subst hij
      show _ = litI ((if j = j then some a else f j).getD 0) ∧ _ = (if j = j then some a else f j).isSome
      rw [if_pos rfl]
      exact ⟨Maps.atKey_put_same h.isMap (show WideAt.IsKeyLit (keyI j) from trivial) _ _, Maps.has_put_same h.isMap (show WideAt.IsKeyLit (keyI j) from trivial) _⟩
    · show _ = litI ((if j = i then some a else f j).getD 0) ∧ _ = (if j = i then some a else f j).isSome
      rw [if_neg hij]
      exact ⟨(Maps.atKey_put_other (keyI_ne hij) _ _).trans (r j hj).1, (Maps.has_put_other (keyI_ne hij) _).trans (r j hj).2⟩
theorem MapP.len (h : MapP w b f n) (ty : TypeId) : (Builtin.len_ #[41] ty #[.map (some b)]).run Try.prog w = .ok (.int .i64 n) w := by
  obtain ⟨D, h, hs, _⟩ := h
  rw [h.len Try.underlying41 ty, hs]
end
/-! ### things -/
def encT (t : It) : List Value := [.int .i64 t.c, .int .i64 t.b, .int .i64 t.o, .bool t.m, .int .i64 t.r, .int .i64 t.n]
abbrev itV (t : It) : Value := .agg #[.int .i64 t.c, .int .i64 t.b, .int .i64 t.o, .bool t.m, .int .i64 t.r, .int .i64 t.n]
abbrev ItC (t : It) : Array Value := #[.int .i64 t.c, .int .i64 t.b, .int .i64 t.o, .bool t.m, .int .i64 t.r, .int .i64 t.n]
abbrev ItB (t : It) : Obj := .cells (ItC t) 38
def Asd (p : Prop) : Prop := p
/-- A slice value that reads as these things. -/
def RdT (w : World) (v : Value) (xs : List It) : Prop :=
  ∃ p c, v = .slice p xs.length c ∧ ∀ (j : Nat) (x : It), xs[j]? = some x → ∃ b o, p = some ⟨b, o, none⟩ ∧ b < w.heap.size ∧ ∀ (i : Nat) (u : Value), (encT x)[i]? = some u → w.cell? ⟨b, o + j * 6 + i, none⟩ = some u
section
variable {w w' : World} {v : Value} {xs : List It}
theorem RdT.below (h : RdT w v xs) (hb : Below w.heap.size w w') : RdT w' v xs := by
  obtain ⟨p, c, h1, h2⟩ := h
  refine ⟨p, c, h1, fun j x hx => ?_⟩
  obtain ⟨b, o, h3, h4, h5⟩ := h2 j x hx
  exact ⟨b, o, h3, Nat.lt_of_lt_of_le h4 hb.size, fun i u hu => (hb.cell (p := ⟨b, o + j * 6 + i, none⟩) h4).trans (h5 i u hu)⟩
end
theorem RdT.cells {w : World} {b o j : Nat} {t : It} (h : ∀ (i : Nat) (u : Value), (encT t)[i]? = some u → w.cell? ⟨b, o + j * 6 + i, none⟩ = some u) :
    w.cell? ⟨b, o + j * 6, none⟩ = some (.int .i64 t.c) ∧ w.cell? ⟨b, o + j * 6 + 1, none⟩ = some (.int .i64 t.b) ∧ w.cell? ⟨b, o + j * 6 + 2, none⟩ = some (.int .i64 t.o) ∧ w.cell? ⟨b, o + j * 6 + 3, none⟩ = some (.bool t.m) ∧ w.cell? ⟨b, o + j * 6 + 4, none⟩ = some (.int .i64 t.r) ∧ w.cell? ⟨b, o + j * 6 + 5, none⟩ = some (.int .i64 t.n) :=
  ⟨h 0 _ rfl, h 1 _ rfl, h 2 _ rfl, h 3 _ rfl, h 4 _ rfl, h 5 _ rfl⟩
end Go.Proofs.Ytgioeijdgoogkaa.Od
