/- The maps of a table. -/
import Derived.Test.YtfflgkbemfichaaDoorPrA
import Derived.Maps.OwnSet
import Derived.Maps.Views
namespace Go.Proofs.YtfflgkbemfichaaDoor
open Go.RowKit Go.Maps
def upI {α : Type} (f : Int → α) (i : Int) (v : α) : Int → α := fun j => if j = i then v else f j
def upS {α : Type} (f : ByteArray → α) (s : ByteArray) (v : α) : ByteArray → α := fun j => if j = s then v else f j
theorem upI_same {α : Type} (f : Int → α) (i : Int) (v : α) : upI f i v i = v := if_pos rfl
theorem upI_other {α : Type} (f : Int → α) {i j : Int} (v : α) (h : j ≠ i) : upI f i v j = f j := if_neg h
theorem upS_same {α : Type} (f : ByteArray → α) (i : ByteArray) (v : α) : upS f i v i = v := if_pos rfl
theorem upS_other {α : Type} (f : ByteArray → α) {i j : ByteArray} (v : α) (h : j ≠ i) : upS f i v j = f j := if_neg h
theorem tight {k : TypeId} {el : Value → Option (DataW Unit × List MemPlace)} {w : World} {b n : Nat} {D : DataW Unit} (h : w.ownsMap Tryd.prog k el b n D) : w.ownsMap Tryd.prog k el b (Maps.size D) D := by
  obtain ⟨es, clock, hb, F, _, rfl⟩ := h
  refine ⟨es, clock, hb, F, ?_, rfl⟩
  simp [Maps.size, length_sorted]
/-! ### a map from numbers to maps -/
def elemM (v : Value) : Option (DataW Unit × List MemPlace) :=
  match v with
  | .map (some b) => some (.lit (.int .i64 b), [])
  | .map none => some (.lit (.int .i64 (-1)), [])
  | _ => none
def mapOf (o : Option Nat) : Value := .map o
def litM (o : Option Nat) : DataW Unit := .lit (.int .i64 (match o with | some b => (b : Int) | none => -1))
theorem elemM_of (o : Option Nat) : elemM (mapOf o) = some (litM o, []) := by cases o <;> rfl
theorem elemM_inv {v : Value} {o : Option Nat} {ps : List MemPlace} (h : elemM v = some (litM o, ps)) : v = mapOf o := by
  unfold elemM at h
  split at h
  · next b =>
    simp only [Option.some.injEq, Prod.mk.injEq] at h
    obtain ⟨h, _⟩ := h
    cases o with
    | none => simp only [litM, DataW.lit.injEq, Lit.int.injEq] at h; omega
    | some c =>
      simp only [litM, DataW.lit.injEq, Lit.int.injEq] at h
      obtain rfl : b = c := by omega
      rfl
  · simp only [Option.some.injEq, Prod.mk.injEq] at h
    obtain ⟨h, _⟩ := h
    cases o with
    | none => rfl
    | some c => simp only [litM, DataW.lit.injEq, Lit.int.injEq] at h; omega
  · cases h
abbrev keyI (i : Int) : Lit := .int .i64 i
theorem keyI_ne {i j : Int} (h : i ≠ j) : keyI i ≠ keyI j := fun e => h (by injection e)
theorem wf_I64 {i : Int} (h : I64 i) : (Lit.int .i64 i).wf = true := WalkArith.wf_i64 (by unfold I64 at h; omega)
theorem keyI_of {i : Int} (h : I64 i) : keyOf Tryd.prog 3 (.int .i64 i) = some (keyI i) := keyOf_int_mk Tryd.underlying3 (wf_I64 h)
theorem keyedI : Keyed Tryd.prog 3 := int_keyed Tryd.underlying3
theorem zeroM (w : World) : (zeroValue 71).run Tryd.prog w = .ok (mapOf none) w := by kernel_rfl
/-- Block bm is a map from numbers to the maps' blocks. -/
def MapI (w : World) (bm : Nat) (nb : Int → Option Nat) (n : Nat) : Prop :=
  ∃ D, w.ownsMap Tryd.prog 3 elemM bm n D ∧ Maps.size D = n ∧ ∀ i, I64 i → D.atKey (keyI i) (litM none) = litM (nb i) ∧ Maps.has D (keyI i) = (nb i).isSome
/-! ### a map from names to properties -/
structure Pr where
  name : ByteArray
  typ : ByteArray
  data : ByteArray
def noP : Pr := ⟨⟨#[]⟩, ⟨#[]⟩, ⟨#[]⟩⟩
abbrev prV (p : Pr) : Value := .agg #[.string p.name, .string p.typ, .string p.data]
def litP (p : Pr) : DataW Unit := .agg [.lit (.string p.name.data.toList), .lit (.string p.typ.data.toList), .lit (.string p.data.data.toList)]
def elemP (v : Value) : Option (DataW Unit × List MemPlace) :=
  match v with
  | .agg l => match l.toList with
    | [.string a, .string b, .string c] => some (litP ⟨a, b, c⟩, [])
    | _ => none
  | _ => none
theorem elemP_of (p : Pr) : elemP (prV p) = some (litP p, []) := rfl
theorem bytes_eq {a b : ByteArray} (h : a.data.toList = b.data.toList) : a = b := ByteArray.ext (Array.toList_inj.1 h)
theorem elemP_inv {v : Value} {p : Pr} {ps : List MemPlace} (h : elemP v = some (litP p, ps)) : v = prV p := by
  unfold elemP at h
  split at h
  · next l =>
    split at h
    · next a b c hl =>
      simp only [Option.some.injEq, Prod.mk.injEq, litP, DataW.agg.injEq, List.cons.injEq, DataW.lit.injEq, Lit.string.injEq, and_true] at h
      obtain ⟨⟨h1, h2, h3⟩, _⟩ := h
      obtain rfl := bytes_eq h1
      obtain rfl := bytes_eq h2
      obtain rfl := bytes_eq h3
      have : l = #[.string p.name, .string p.typ, .string p.data] := Array.toList_inj.1 hl
      rw [this]
    · cases h
  · cases h
abbrev keyS (s : ByteArray) : Lit := .string s.data.toList
theorem keyS_ne {s t : ByteArray} (h : s ≠ t) : keyS s ≠ keyS t := fun e => h (by injection e with e; exact bytes_eq e)
theorem keyS_of {s : ByteArray} (h : s.size ≤ maxLen) : keyOf Tryd.prog 9 (.string s) = some (keyS s) := WideMaps.keyOf_string_mk Tryd.underlying9 h
theorem keyedS : Keyed Tryd.prog 9 := string_keyed Tryd.underlying9
theorem zeroP (w : World) : (zeroValue 27).run Tryd.prog w = .ok (prV noP) w := by kernel_rfl
def litO (o : Option Pr) : DataW Unit := litP (o.getD noP)
/-- Block b is a map of n properties by their names. -/
def MapS (w : World) (b : Nat) (m : ByteArray → Option Pr) (n : Nat) : Prop :=
  ∃ D, w.ownsMap Tryd.prog 9 elemP b n D ∧ Maps.size D = n ∧ ∀ s, s.size ≤ maxLen → D.atKey (keyS s) (litP noP) = litO (m s) ∧ Maps.has D (keyS s) = (m s).isSome
section
variable {w w' : World} {b n : Nat} {nb : Int → Option Nat} {m : ByteArray → Option Pr}
theorem MapI.made (w : World) : MapI (w.alloc (.map #[] 0)) w.heap.size (fun _ => none) 0 :=
  ⟨_, World.ownsMap_made _ _ _ _, rfl, fun _ _ => ⟨rfl, rfl⟩⟩
theorem MapS.made (w : World) : MapS (w.alloc (.map #[] 0)) w.heap.size (fun _ => none) 0 :=
  ⟨_, World.ownsMap_made _ _ _ _, rfl, fun _ _ => ⟨rfl, rfl⟩⟩
theorem MapI.lt (h : MapI w b nb n) : b < w.heap.size := by obtain ⟨D, h, _⟩ := h; exact h.lt
theorem MapS.lt (h : MapS w b m n) : b < w.heap.size := by obtain ⟨D, h, _⟩ := h; exact h.lt
theorem MapI.same (h : MapI w b nb n) (hb : w'.heap[b]? = w.heap[b]?) : MapI w' b nb n := by
  obtain ⟨D, ⟨es, clock, h1, r1⟩, r⟩ := h
  exact ⟨D, ⟨es, clock, hb.trans h1, r1⟩, r⟩
theorem MapS.same (h : MapS w b m n) (hb : w'.heap[b]? = w.heap[b]?) : MapS w' b m n := by
  obtain ⟨D, ⟨es, clock, h1, r1⟩, r⟩ := h
  exact ⟨D, ⟨es, clock, hb.trans h1, r1⟩, r⟩
theorem MapI.look (h : MapI w b nb n) {i : Int} (hi : I64 i) : (Instr.lookup 63 (.map (some b)) (.int .i64 i) false).run Tryd.prog w = .ok (mapOf (nb i)) w := by
  obtain ⟨D, h, _, r⟩ := h
  obtain ⟨v, ps, h1, h2⟩ := h.lookup keyedI Tryd.underlying63 (zeroM w) (elemM_of none) (keyI_of hi)
  rw [(r i hi).1] at h2
  rw [h1, elemM_inv h2]
theorem MapS.look (h : MapS w b m n) {s : ByteArray} (hs : s.size ≤ maxLen) : (Instr.lookup 71 (.map (some b)) (.string s) true).run Tryd.prog w = .ok (.tuple #[prV ((m s).getD noP), .bool (m s).isSome]) w := by
  obtain ⟨D, h, _, r⟩ := h
  obtain ⟨v, ps, h1, h2⟩ := h.look_ok keyedS Tryd.underlying71 (zeroP w) (elemP_of noP) (keyS_of hs)
  rw [(r s hs).1] at h2
  rw [h1, elemP_inv h2, (r s hs).2]
theorem look_nilS (w : World) {s : ByteArray} (hs : s.size ≤ maxLen) : (Instr.lookup 71 (.map none) (.string s) true).run Tryd.prog w = .ok (.tuple #[prV noP, .bool false]) w :=
  Maps.look_nil true keyedS Tryd.underlying71 (zeroP w) (keyS_of hs)
theorem look_nilI (w : World) {i : Int} (hi : I64 i) : (Instr.lookup 63 (.map none) (.int .i64 i) false).run Tryd.prog w = .ok (.map none) w :=
  Maps.look_nil false keyedI Tryd.underlying63 (zeroM w) (keyI_of hi)
theorem MapI.put (h : MapI w b nb n) {i : Int} (hi : I64 i) (hn : n < 4611686018427387904) (c : Nat) :
    ∃ w', (Instr.mapUpdate 63 (.map (some b)) (.int .i64 i) (mapOf (some c))).run Tryd.prog w = .ok () w' ∧ MapI w' b (upI nb i (some c)) (if (nb i).isSome then n else n + 1) ∧ w.grownBy w' (some b) := by
  obtain ⟨D, h, hs, r⟩ := h
  obtain ⟨w', h1, h2, h3⟩ := h.update keyedI Tryd.underlying63 (by unfold maxLen; omega) (keyI_of hi) (elemM_of (some c))
  have hsz : Maps.size (D.put (keyI i) (litM (some c))) = if (nb i).isSome then n else n + 1 := by
    rw [Maps.size_put (h.tidy keyedI), (r i hi).2, hs]
  refine ⟨w', h1, ⟨_, ?_, hsz, fun j hj => ?_⟩, h3⟩
  · have := tight h2; rwa [hsz] at this
  · by_cases hij : j = i
    · subst hij
      rw [upI_same]
      exact ⟨Maps.atKey_put_same h.isMap (show WideAt.IsKeyLit (keyI j) from trivial) _ _, Maps.has_put_same h.isMap (show WideAt.IsKeyLit (keyI j) from trivial) _⟩
    · rw [upI_other _ _ hij]
      exact ⟨(Maps.atKey_put_other (keyI_ne hij) _ _).trans (r j hj).1, (Maps.has_put_other (keyI_ne hij) _).trans (r j hj).2⟩
theorem MapS.put (h : MapS w b m n) {s : ByteArray} (hs' : s.size ≤ maxLen) (hn : n < 4611686018427387904) (p : Pr) :
    ∃ w', (Instr.mapUpdate 71 (.map (some b)) (.string s) (prV p)).run Tryd.prog w = .ok () w' ∧ MapS w' b (upS m s (some p)) (if (m s).isSome then n else n + 1) ∧ w.grownBy w' (some b) := by
  obtain ⟨D, h, hs, r⟩ := h
  obtain ⟨w', h1, h2, h3⟩ := h.update keyedS Tryd.underlying71 (by unfold maxLen; omega) (keyS_of hs') (elemP_of p)
  have hsz : Maps.size (D.put (keyS s) (litP p)) = if (m s).isSome then n else n + 1 := by
    rw [Maps.size_put (h.tidy keyedS), (r s hs').2, hs]
  refine ⟨w', h1, ⟨_, ?_, hsz, fun j hj => ?_⟩, h3⟩
  · have := tight h2; rwa [hsz] at this
  · by_cases hij : j = s
    · subst hij
      rw [upS_same]
      exact ⟨Maps.atKey_put_same h.isMap (show WideAt.IsKeyLit (keyS j) from trivial) _ _, Maps.has_put_same h.isMap (show WideAt.IsKeyLit (keyS j) from trivial) _⟩
    · rw [upS_other _ _ hij]
      exact ⟨(Maps.atKey_put_other (keyS_ne hij) _ _).trans (r j hj).1, (Maps.has_put_other (keyS_ne hij) _).trans (r j hj).2⟩
theorem MapS.len (h : MapS w b m n) (ty : TypeId) : (Builtin.len_ #[71] ty #[.map (some b)]).run Tryd.prog w = .ok (.int .i64 n) w := by
  obtain ⟨D, h, hs, _⟩ := h
  rw [h.len Tryd.underlying71 ty, hs]
end
end Go.Proofs.YtfflgkbemfichaaDoor
