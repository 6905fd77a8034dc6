/- Rows of one-cell elements, read and owned: whatever the elements are. The maps of a table. A text cut at its bytes 0 (pure). Words of both, Texts. Numbers of four bytes: pure, and number, walked. Name, walked. -/
import Derived.Test.YtfdgpbdppenhmaaGreatSac
import Derived.Deep.AppendLies
import Derived.Deep.RegionHeld3
import Derived.Deep.DeepCutAuto
import Derived.Deep.QuietTactic
import Derived.BigQuiet
import Derived.Laws.OwnMore
import Derived.Maps.AppendAt
import Derived.IntWalk
import Derived.Maps.OwnSet
import Derived.Maps.Views
import Derived.Test.YtfdgpbdppenhmaaGreatSvS
import Derived.Laws.BitsAllLaws
import Derived.Laws.RangeAny
section
namespace Go.Proofs.YtfdgpbdppenhmaaGreat.Pp
open Go.RowKit Go.Maps
def I64 (i : Int) : Prop := -9223372036854775808 ≤ i ∧ i ≤ 9223372036854775807
theorem cell_list (w : World) (t : TypeId) (l : List Value) : ∀ (j : Nat) (u : Value), l[j]? = some u → (w.alloc (.cells l.toArray t)).cell? ((⟨w.heap.size, 0, none⟩ : Addr).add j) = some u := by
  intro j u hu
  have h := (Blk.new w t l.toArray).cell j
  rw [Addr.add_lit, Nat.zero_add, h]
  simpa using hu
theorem cell_list_at (w : World) (t : TypeId) (l : List Value) (k : Nat) (hk : w.heap.size = k) : ∀ (j : Nat) (u : Value), l[j]? = some u → (w.alloc (.cells l.toArray t)).cell? ((⟨k, 0, none⟩ : Addr).add j) = some u := by subst hk; exact cell_list w t l
theorem intInfo : (Tryz.prog.info? 3).map (fun i => (i.zero, i.size, i.bytes)) = some (some (.int .i64 0), 1, 8) := by kernel_rfl
theorem byteInfo : (Tryz.prog.info? 5).map (fun i => (i.zero, i.size, i.bytes)) = some (some (.int .u8 0), 1, 1) := by kernel_rfl
theorem strInfo : (Tryz.prog.info? 9).map (fun i => (i.zero, i.size, i.bytes)) = some (some (.string ByteArray.empty), 1, 16) := by kernel_rfl
theorem row_less {w : World} {B B' : Nat} {T : TypeId} {k : Nat} {v : Value} {n : Nat} {xs : List Value} (h : w.ownsRow B T k v n xs) (hb : B' ≤ B) : w.ownsRow B' T k v n xs := by
  obtain ⟨h1, h2⟩ := h
  refine ⟨h1, ?_⟩
  rcases h2 with h2 | ⟨g, cap, cur, a, b, c⟩
  · exact .inl h2
  · exact .inr ⟨g, cap, cur, a, Nat.le_trans hb b, c⟩
theorem own_next {B : Nat} {e : TypeId} {k : Nat} {v : Value} {n : Nat} {xs : List Value} {w w' : World} (h : w.ownsRow B e k v n xs) (hb : Below w.heap.size w w') : w'.ownsRow B e k v n xs :=
  h.kept (row := none) ⟨hb.os, hb.tape, hb.output, hb.size, fun j hj _ => hb.block j hj⟩ (by cases hv : v.ownBlock <;> simp)
/-- A row reads as these cells. -/
def Rd (w : World) (v : Value) (cs : List Value) : Prop := ∃ p c, v = .slice p cs.length c ∧ ∀ (j : Nat) (u : Value), cs[j]? = some u → ∃ b o, p = some ⟨b, o, none⟩ ∧ b < w.heap.size ∧ w.cell? ⟨b, o + j, none⟩ = some u
theorem Rd.next {w w' : World} {v : Value} {cs : List Value} (h : Rd w v cs) (hb : Below w.heap.size w w') : Rd w' v cs := by
  obtain ⟨p, c, h1, h2⟩ := h
  exact ⟨p, c, h1, fun j u hu => by obtain ⟨b, o, h3, h4, h5⟩ := h2 j u hu; exact ⟨b, o, h3, Nat.lt_of_lt_of_le h4 hb.size, (hb.cell (p := ⟨b, o + j, none⟩) h4).trans h5⟩⟩
theorem Rd.nil (w : World) : Rd w (.slice none 0 0) [] := ⟨none, 0, rfl, fun j u hu => by simp at hu⟩
/-- A row of the call's own: the world grew by it alone. -/
def Gi (T : TypeId) (w wr : World) (v : Value) (cs : List Value) : Prop := wr.ownsRow w.heap.size T 1 v cs.length cs ∧ Below w.heap.size w wr
section
variable {T : TypeId} {w wr w1 : World} {v v' : Value} {cs : List Value}
theorem Gi.nil (w : World) (T : TypeId) : Gi T w w (.slice none 0 0) [] := ⟨World.ownsRow_nil _ _ _ _, Below.refl _ _⟩
theorem Gi.next {w' : World} (h : Gi T w wr v cs) (hb : Below wr.heap.size wr w') : Gi T w w' v cs := ⟨own_next h.1 hb, hb.on h.2 h.2.size⟩
theorem Gi.put {us : List Value} {o : Obj} (h : Gi T w wr v cs) (ho : w1.ownsRow w.heap.size T 1 v' (cs.length + us.length) (cs ++ us)) (hg : (wr.alloc o).grownBy w1 v.ownBlock) : Gi T w w1 v' (cs ++ us) := by
  refine ⟨?_, below_only (h.2.alloc h.2.size _) hg (by have := h.2.size; simp; omega) (fun k hk => (World.ownsRow.lt h.1 k hk).1)⟩
  rw [List.length_append]
  exact ho
theorem own_rd {B : Nat} (h : w.ownsRow B T 1 v cs.length cs) : Rd w v cs := by
  have h0 := h
  obtain ⟨hlen, h1⟩ := h
  rcases h1 with ⟨rfl, hn⟩ | ⟨g, cap, cur, rfl, -, hg, hnc, hcm, hcs, ht⟩
  · have hx : cs = [] := List.eq_nil_of_length_eq_zero hn
    subst hx
    exact Rd.nil w
  · refine ⟨_, cap, rfl, fun j u hu => ⟨g, 0, rfl, (Array.getElem?_eq_some_iff.1 hg).1, ?_⟩⟩
    have hj := (List.getElem?_eq_some_iff.1 hu).1
    rw [Nat.zero_add]
    exact (World.ownsRow.cellAt h0 j (by omega)).trans hu
theorem Gi.rd (h : Gi T w wr v cs) : Rd wr v cs := own_rd h.1
end
abbrev ints (zs : List Int) : List Value := zs.map (Value.int .i64)
abbrev byts (zs : List Int) : List Value := zs.map (Value.int .u8)
abbrev strs (ss : List ByteArray) : List Value := ss.map Value.string
theorem one_ints (zs : List Int) : ∀ u ∈ ints zs, u.oneCell' = true := by
  intro u hu
  obtain ⟨z, _, rfl⟩ := List.mem_map.1 hu
  rfl
theorem one_byts (zs : List Int) : ∀ u ∈ byts zs, u.oneCell' = true := by
  intro u hu
  obtain ⟨z, _, rfl⟩ := List.mem_map.1 hu
  rfl
theorem one_strs (ss : List ByteArray) : ∀ u ∈ strs ss, u.oneCell' = true := by
  intro u hu
  obtain ⟨z, _, rfl⟩ := List.mem_map.1 hu
  rfl
theorem list_same {α : Type} {a b : List α} (hl : a.length = b.length) (h : ∀ j, j < a.length → a[j]? = b[j]?) : a = b := by
  apply List.ext_getElem?
  intro j
  rcases Nat.lt_or_ge j a.length with hj | hj
  · exact h j hj
  · rw [List.getElem?_eq_none hj, List.getElem?_eq_none (by omega)]
end Go.Proofs.YtfdgpbdppenhmaaGreat.Pp
end
section
namespace Go.Proofs.YtfdgpbdppenhmaaGreat.Pp
open Go.RowKit Go.Maps
def upI {α : Type} (f : Int → α) (i : Int) (v : α) : Int → α := fun j => if j = i then v else f j
def upS {α : Type} (f : ByteArray → α) (s : ByteArray) (v : α) : ByteArray → α := fun j => if j = s then v else f j
theorem upI_same {α : Type} (f : Int → α) (i : Int) (v : α) : upI f i v i = v := if_pos rfl
theorem upI_other {α : Type} (f : Int → α) {i j : Int} (v : α) (h : j ≠ i) : upI f i v j = f j := if_neg h
theorem upS_same {α : Type} (f : ByteArray → α) (i : ByteArray) (v : α) : upS f i v i = v := if_pos rfl
theorem upS_other {α : Type} (f : ByteArray → α) {i j : ByteArray} (v : α) (h : j ≠ i) : upS f i v j = f j := if_neg h
theorem tight {k : TypeId} {el : Value → Option (DataW Unit × List MemPlace)} {w : World} {b n : Nat} {D : DataW Unit} (h : w.ownsMap Tryz.prog k el b n D) : w.ownsMap Tryz.prog k el b (Maps.size D) D := by
  obtain ⟨es, clock, hb, F, _, rfl⟩ := h
  refine ⟨es, clock, hb, F, ?_, rfl⟩
  simp [Maps.size, length_sorted]
/-! ### a map from numbers to maps -/
def elemM (v : Value) : Option (DataW Unit × List MemPlace) :=
  match v with
  | .map (some b) => some (.lit (.int .i64 b), [])
  | .map none => some (.lit (.int .i64 (-1)), [])
  | _ => none
def mapOf (o : Option Nat) : Value := .map o
def litM (o : Option Nat) : DataW Unit := .lit (.int .i64 (match o with | some b => (b : Int) | none => -1))
theorem elemM_of (o : Option Nat) : elemM (mapOf o) = some (litM o, []) := by cases o <;> rfl
theorem elemM_inv {v : Value} {o : Option Nat} {ps : List MemPlace} (h : elemM v = some (litM o, ps)) : v = mapOf o := by
  unfold elemM at h
  split at h
  · next b =>
    simp only [Option.some.injEq, Prod.mk.injEq] at h
    obtain ⟨h, _⟩ := h
    cases o with
    | none => simp only [litM, DataW.lit.injEq, Lit.int.injEq] at h; omega
    | some c =>
      simp only [litM, DataW.lit.injEq, Lit.int.injEq] at h
      obtain rfl : b = c := by omega
      rfl
  · simp only [Option.some.injEq, Prod.mk.injEq] at h
    obtain ⟨h, _⟩ := h
    cases o with
    | none => rfl
    | some c => simp only [litM, DataW.lit.injEq, Lit.int.injEq] at h; omega
  · cases h
abbrev keyI (i : Int) : Lit := .int .i64 i
theorem keyI_ne {i j : Int} (h : i ≠ j) : keyI i ≠ keyI j := fun e => h (by injection e)
theorem wf_I64 {i : Int} (h : I64 i) : (Lit.int .i64 i).wf = true := WalkArith.wf_i64 (by unfold I64 at h; omega)
theorem keyI_of {i : Int} (h : I64 i) : keyOf Tryz.prog 3 (.int .i64 i) = some (keyI i) := keyOf_int_mk Tryz.underlying3 (wf_I64 h)
theorem keyedI : Keyed Tryz.prog 3 := int_keyed Tryz.underlying3
theorem zeroM (w : World) : (zeroValue 125).run Tryz.prog w = .ok (mapOf none) w := by kernel_rfl
/-- Block bm is a map from numbers to the maps' blocks. -/
def MapI (w : World) (bm : Nat) (nb : Int → Option Nat) (n : Nat) : Prop :=
  ∃ D, w.ownsMap Tryz.prog 3 elemM bm n D ∧ Maps.size D = n ∧ ∀ i, I64 i → D.atKey (keyI i) (litM none) = litM (nb i) ∧ Maps.has D (keyI i) = (nb i).isSome
/-! ### a map from names to properties -/
structure Pr where
  name : ByteArray
  typ : ByteArray
  data : ByteArray
def noP : Pr := ⟨⟨#[]⟩, ⟨#[]⟩, ⟨#[]⟩⟩
abbrev prV (p : Pr) : Value := .agg #[.string p.name, .string p.typ, .string p.data]
def litP (p : Pr) : DataW Unit := .agg [.lit (.string p.name.data.toList), .lit (.string p.typ.data.toList), .lit (.string p.data.data.toList)]
def elemP (v : Value) : Option (DataW Unit × List MemPlace) :=
  match v with
  | .agg l => match l.toList with
    | [.string a, .string b, .string c] => some (litP ⟨a, b, c⟩, [])
    | _ => none
  | _ => none
theorem elemP_of (p : Pr) : elemP (prV p) = some (litP p, []) := rfl
theorem bytes_eq {a b : ByteArray} (h : a.data.toList = b.data.toList) : a = b := ByteArray.ext (Array.toList_inj.1 h)
theorem elemP_inv {v : Value} {p : Pr} {ps : List MemPlace} (h : elemP v = some (litP p, ps)) : v = prV p := by
  unfold elemP at h
  split at h
  · next l =>
    split at h
    · next a b c hl =>
      simp only [Option.some.injEq, Prod.mk.injEq, litP, DataW.agg.injEq, List.cons.injEq, DataW.lit.injEq, Lit.string.injEq, and_true] at h
      obtain ⟨⟨h1, h2, h3⟩, _⟩ := h
      obtain rfl := bytes_eq h1
      obtain rfl := bytes_eq h2
      obtain rfl := bytes_eq h3
      have : l = #[.string p.name, .string p.typ, .string p.data] := Array.toList_inj.1 hl
      rw [this]
    · cases h
  · cases h
abbrev keyS (s : ByteArray) : Lit := .string s.data.toList
theorem keyS_ne {s t : ByteArray} (h : s ≠ t) : keyS s ≠ keyS t := fun e => h (by injection e with e; exact bytes_eq e)
theorem keyS_of {s : ByteArray} (h : s.size ≤ maxLen) : keyOf Tryz.prog 9 (.string s) = some (keyS s) := WideMaps.keyOf_string_mk Tryz.underlying9 h
theorem keyedS : Keyed Tryz.prog 9 := string_keyed Tryz.underlying9
theorem zeroP (w : World) : (zeroValue 35).run Tryz.prog w = .ok (prV noP) w := by kernel_rfl
def litO (o : Option Pr) : DataW Unit := litP (o.getD noP)
/-- Block b is a map of n properties by their names. -/
def MapS (w : World) (b : Nat) (m : ByteArray → Option Pr) (n : Nat) : Prop :=
  ∃ D, w.ownsMap Tryz.prog 9 elemP b n D ∧ Maps.size D = n ∧ ∀ s, s.size ≤ maxLen → D.atKey (keyS s) (litP noP) = litO (m s) ∧ Maps.has D (keyS s) = (m s).isSome
section
variable {w w' : World} {b n : Nat} {nb : Int → Option Nat} {m : ByteArray → Option Pr}
theorem MapI.made (w : World) : MapI (w.alloc (.map #[] 0)) w.heap.size (fun _ => none) 0 :=
  ⟨_, World.ownsMap_made _ _ _ _, rfl, fun _ _ => ⟨rfl, rfl⟩⟩
theorem MapS.made (w : World) : MapS (w.alloc (.map #[] 0)) w.heap.size (fun _ => none) 0 :=
  ⟨_, World.ownsMap_made _ _ _ _, rfl, fun _ _ => ⟨rfl, rfl⟩⟩
theorem MapI.lt (h : MapI w b nb n) : b < w.heap.size := by obtain ⟨D, h, _⟩ := h; exact h.lt
theorem MapS.lt (h : MapS w b m n) : b < w.heap.size := by obtain ⟨D, h, _⟩ := h; exact h.lt
theorem MapI.same (h : MapI w b nb n) (hb : w'.heap[b]? = w.heap[b]?) : MapI w' b nb n := by
  obtain ⟨D, ⟨es, clock, h1, r1⟩, r⟩ := h
  exact ⟨D, ⟨es, clock, hb.trans h1, r1⟩, r⟩
theorem MapS.same (h : MapS w b m n) (hb : w'.heap[b]? = w.heap[b]?) : MapS w' b m n := by
  obtain ⟨D, ⟨es, clock, h1, r1⟩, r⟩ := h
  exact ⟨D, ⟨es, clock, hb.trans h1, r1⟩, r⟩
theorem MapI.look (h : MapI w b nb n) {i : Int} (hi : I64 i) : (Instr.lookup 106 (.map (some b)) (.int .i64 i) false).run Tryz.prog w = .ok (mapOf (nb i)) w := by
  obtain ⟨D, h, _, r⟩ := h
  obtain ⟨v, ps, h1, h2⟩ := h.lookup keyedI Tryz.underlying106 (zeroM w) (elemM_of none) (keyI_of hi)
  rw [(r i hi).1] at h2
  rw [h1, elemM_inv h2]
theorem MapS.look (h : MapS w b m n) {s : ByteArray} (hs : s.size ≤ maxLen) : (Instr.lookup 125 (.map (some b)) (.string s) true).run Tryz.prog w = .ok (.tuple #[prV ((m s).getD noP), .bool (m s).isSome]) w := by
  obtain ⟨D, h, _, r⟩ := h
  obtain ⟨v, ps, h1, h2⟩ := h.look_ok keyedS Tryz.underlying125 (zeroP w) (elemP_of noP) (keyS_of hs)
  rw [(r s hs).1] at h2
  rw [h1, elemP_inv h2, (r s hs).2]
theorem look_nilS (w : World) {s : ByteArray} (hs : s.size ≤ maxLen) : (Instr.lookup 125 (.map none) (.string s) true).run Tryz.prog w = .ok (.tuple #[prV noP, .bool false]) w :=
  Maps.look_nil true keyedS Tryz.underlying125 (zeroP w) (keyS_of hs)
theorem look_nilI (w : World) {i : Int} (hi : I64 i) : (Instr.lookup 106 (.map none) (.int .i64 i) false).run Tryz.prog w = .ok (.map none) w :=
  Maps.look_nil false keyedI Tryz.underlying106 (zeroM w) (keyI_of hi)
theorem MapI.put (h : MapI w b nb n) {i : Int} (hi : I64 i) (hn : n < 4611686018427387904) (c : Nat) :
    ∃ w', (Instr.mapUpdate 106 (.map (some b)) (.int .i64 i) (mapOf (some c))).run Tryz.prog w = .ok () w' ∧ MapI w' b (upI nb i (some c)) (if (nb i).isSome then n else n + 1) ∧ w.grownBy w' (some b) := by
  obtain ⟨D, h, hs, r⟩ := h
  obtain ⟨w', h1, h2, h3⟩ := h.update keyedI Tryz.underlying106 (by unfold maxLen; omega) (keyI_of hi) (elemM_of (some c))
  have hsz : Maps.size (D.put (keyI i) (litM (some c))) = if (nb i).isSome then n else n + 1 := by
    rw [Maps.size_put (h.tidy keyedI), (r i hi).2, hs]
  refine ⟨w', h1, ⟨_, ?_, hsz, fun j hj => ?_⟩, h3⟩
  · have := tight h2; rwa [hsz] at this
  · by_cases hij : j = i
    · subst hij
      rw [upI_same]
      exact ⟨Maps.atKey_put_same h.isMap (show WideAt.IsKeyLit (keyI j) from trivial) _ _, Maps.has_put_same h.isMap (show WideAt.IsKeyLit (keyI j) from trivial) _⟩
    · rw [upI_other _ _ hij]
      exact ⟨(Maps.atKey_put_other (keyI_ne hij) _ _).trans (r j hj).1, (Maps.has_put_other (keyI_ne hij) _).trans (r j hj).2⟩
theorem MapS.put (h : MapS w b m n) {s : ByteArray} (hs' : s.size ≤ maxLen) (hn : n < 4611686018427387904) (p : Pr) :
    ∃ w', (Instr.mapUpdate 125 (.map (some b)) (.string s) (prV p)).run Tryz.prog w = .ok () w' ∧ MapS w' b (upS m s (some p)) (if (m s).isSome then n else n + 1) ∧ w.grownBy w' (some b) := by
  obtain ⟨D, h, hs, r⟩ := h
  obtain ⟨w', h1, h2, h3⟩ := h.update keyedS Tryz.underlying125 (by unfold maxLen; omega) (keyS_of hs') (elemP_of p)
  have hsz : Maps.size (D.put (keyS s) (litP p)) = if (m s).isSome then n else n + 1 := by
    rw [Maps.size_put (h.tidy keyedS), (r s hs').2, hs]
  refine ⟨w', h1, ⟨_, ?_, hsz, fun j hj => ?_⟩, h3⟩
  · have := tight h2; rwa [hsz] at this
  · by_cases hij : j = s
    · subst hij
      rw [upS_same]
      exact ⟨Maps.atKey_put_same h.isMap (show WideAt.IsKeyLit (keyS j) from trivial) _ _, Maps.has_put_same h.isMap (show WideAt.IsKeyLit (keyS j) from trivial) _⟩
    · rw [upS_other _ _ hij]
      exact ⟨(Maps.atKey_put_other (keyS_ne hij) _ _).trans (r j hj).1, (Maps.has_put_other (keyS_ne hij) _).trans (r j hj).2⟩
theorem MapS.len (h : MapS w b m n) (ty : TypeId) : (Builtin.len_ #[125] ty #[.map (some b)]).run Tryz.prog w = .ok (.int .i64 n) w := by
  obtain ⟨D, h, hs, _⟩ := h
  rw [h.len Tryz.underlying125 ty, hs]
end
end Go.Proofs.YtfdgpbdppenhmaaGreat.Pp
end
section
namespace Go.Proofs.YtfdgpbdppenhmaaGreat.Pp
open Go.Lib
abbrev txt (l : List UInt8) : ByteArray := ⟨l.toArray⟩
theorem txt_of (s : ByteArray) : txt s.data.toList = s := rfl
end Go.Proofs.YtfdgpbdppenhmaaGreat.Pp
end
section
namespace Go.Proofs.YtfdgpbdppenhmaaGreat.Pp
open Go.RowKit Go.Maps Go.Shelf
theorem strclone_c (s : ByteArray) (w : World) (hs : s.size ≤ 281474976710656) : Calls Tryz.prog 99 #[.string s] w fun e w' => e = .returned (.string s) ∧ Below w.heap.size w w' := by
  have HC := Lib.hid (fun W => Any.stringslite_Clone cloneStr s W hs)
  go_enter Tryz.func99, Tryz.ntmps99
  go_wp2_with (go_at_call 124; refine (HC.out _).mono ?_; rintro e w' ⟨rfl, hb⟩)
  go_ret
  exact ⟨rfl, hb⟩
end Go.Proofs.YtfdgpbdppenhmaaGreat.Pp
end
section
namespace Go.Proofs.YtfdgpbdppenhmaaGreat.Pp
open Go.RowKit
/-- A byte of a text; 0 behind its end. -/
def byt (s : ByteArray) (k : Nat) : Int := if h : k < s.size then (s[k].toNat : Int) else 0
theorem byt_at {s : ByteArray} {k : Nat} (h : k < s.size) : byt s k = (s[k].toNat : Int) := dif_pos h
theorem byt_in (s : ByteArray) (k : Nat) : 0 ≤ byt s k ∧ byt s k ≤ 255 := by
  unfold byt
  split
  · have := s[k].toNat_lt; omega
  · omega
theorem byt_ext {s : ByteArray} {a k : Nat} (h : a + k < s.size) : byt (s.extract a s.size) k = byt s (a + k) := by
  have h1 : k < (s.extract a s.size).size := by rw [ByteArray.size_extract]; omega
  rw [byt_at h1, byt_at h, ByteArray.getElem_extract]
/-- The number of four bytes. -/
def num4 (a b c d : Int) : Int := if 2147483648 ≤ a + 256 * b + 65536 * c + 16777216 * d then a + 256 * b + 65536 * c + 16777216 * d - 4294967296 else a + 256 * b + 65536 * c + 16777216 * d
def numAt (s : ByteArray) (k : Nat) : Int := num4 (byt s k) (byt s (k + 1)) (byt s (k + 2)) (byt s (k + 3))
/-- The numbers of a text. -/
def numsL (s : ByteArray) : List Int := (List.range (s.size / 4)).map fun i => numAt s (4 * i)
theorem or_lit (j : Nat) {s m : Int} {p : Nat} (hp : p = 2 ^ j) (hb : p ≤ 16777216) (hs : 0 ≤ s) (hs' : s < p) (hm : 0 ≤ m) (hm' : m ≤ 255) : bits .or .u32 s (m * (p : Int) % 4294967296) = s + (p : Int) * m := by
  obtain ⟨m, rfl⟩ := Int.eq_ofNat_of_zero_le hm
  obtain ⟨s, rfl⟩ := Int.eq_ofNat_of_zero_le hs
  have h2 : m * p ≤ 255 * 16777216 := Nat.mul_le_mul (by omega) hb
  have e1 : ((m : Int) * (p : Int) % 4294967296) = ((m * p : Nat) : Int) := by rw [← Int.natCast_mul]; omega
  have e2 : ((p : Int) * (m : Int)) = ((m * p : Nat) : Int) := by rw [← Int.natCast_mul, Nat.mul_comm]
  have e3 : (s ||| m * p) = m * p + s := by
    rw [Nat.or_comm, hp, Nat.mul_comm, ← Nat.two_pow_add_eq_or_of_lt (by omega)]
  rw [e1, e2, u32_or_nat _ _ (by omega) (by omega), e3]; omega
theorem join4 {a b c d : Int} (ha : 0 ≤ a ∧ a ≤ 255) (hb : 0 ≤ b ∧ b ≤ 255) (hc : 0 ≤ c ∧ c ≤ 255) (hd : 0 ≤ d ∧ d ≤ 255) :
    wrap64 (wrap32 (bits .or .u32 (bits .or .u32 (bits .or .u32 (a % 4294967296) (b % 4294967296 * 256 % 4294967296)) (c % 4294967296 * 65536 % 4294967296)) (d % 4294967296 * 16777216 % 4294967296))) = num4 a b c d := by
  have e1 : a % 4294967296 = a := by omega
  have e2 : b % 4294967296 = b := by omega
  have e3 : c % 4294967296 = c := by omega
  have e4 : d % 4294967296 = d := by omega
  rw [e1, e2, e3, e4]
  have h1 := or_lit 8 (p := 256) rfl (by omega) ha.1 (by omega) hb.1 hb.2
  have h2 := or_lit 16 (s := a + 256 * b) (p := 65536) rfl (by omega) (by omega) (by omega) hc.1 hc.2
  have h3 := or_lit 24 (s := a + 256 * b + 65536 * c) (p := 16777216) rfl (by omega) (by omega) (by omega) hd.1 hd.2
  have h1' : bits .or .u32 a (b * 256 % 4294967296) = a + 256 * b := h1
  have h2' : bits .or .u32 (a + 256 * b) (c * 65536 % 4294967296) = a + 256 * b + 65536 * c := h2
  have h3' : bits .or .u32 (a + 256 * b + 65536 * c) (d * 16777216 % 4294967296) = a + 256 * b + 65536 * c + 16777216 * d := h3
  rw [h1', h2', h3']
  unfold num4 wrap64 wrap32
  split <;> omega
end Go.Proofs.YtfdgpbdppenhmaaGreat.Pp
end
section
namespace Go.Proofs.YtfdgpbdppenhmaaGreat.Pp
open Go.RowKit
def inN (r : Int) : Bool := decide (97 ≤ r ∧ r ≤ 122 ∨ 65 ≤ r ∧ r ≤ 90 ∨ 48 ≤ r ∧ r ≤ 57 ∨ r = 95)
/-- May a text be a name? -/
def nameB (s : ByteArray) : Bool := decide ((1 ≤ s.size ∧ s.size ≤ 32) ∧ ∀ k, k < s.size → inN (byt s k) = true)
theorem inName_c (r : Int) (w : World) : Calls Tryz.prog 151 #[.int .i32 r] w fun e w' => e = .returned (.bool (inN r)) ∧ w = w' := by
  have hq : (97 ≤ r ∧ r ≤ 122) ∨ (65 ≤ r ∧ r ≤ 90) ∨ (48 ≤ r ∧ r ≤ 57) ∨ r = 95 ∨ (¬ 48 ≤ r) ∨ (58 ≤ r ∧ r ≤ 64) ∨ (91 ≤ r ∧ r ≤ 94) ∨ r = 96 ∨ 123 ≤ r := by omega
  have HB : ∀ b : Bool, (b = true ↔ (97 ≤ r ∧ r ≤ 122 ∨ 65 ≤ r ∧ r ≤ 90 ∨ 48 ≤ r ∧ r ≤ 57 ∨ r = 95)) → b = inN r := fun b hb => by
    unfold inN
    rw [Bool.eq_iff_iff, hb, decide_eq_true_iff]
  have HH := Lib.hid HB
  clear HB
  rcases hq with ⟨h1, h2⟩ | ⟨h1, h2⟩ | ⟨h1, h2⟩ | h1 | h1 | ⟨h1, h2⟩ | ⟨h1, h2⟩ | h1 | h1
  all_goals
    (try subst h1)
    go_enter Tryz.func151, Tryz.ntmps151
    go_wp2_with fail
    go_ret
    exact ⟨ret_bool (HH.out _ (by simp <;> omega)), rfl⟩
theorem iter_below (w : World) (s : ByteArray) (k : Nat) : Below w.heap.size w (w.iter s k) := (Below.refl _ _).alloc (Nat.le_refl _) _
set_option maxRecDepth 100000 in
set_option maxHeartbeats 2000000 in
theorem name_c (s : ByteArray) (w : World) (hs : s.size ≤ 9223372036854775807) : Calls Tryz.prog 135 #[.string s] w fun e w' => e = .returned (.bool (nameB s)) ∧ Below w.heap.size w w' := by
  by_cases h0 : s.size = 0
  · have hE : s.toList.isEmpty = true := by rw [ByteArray.toList_eq, show s.data.toList = [] from List.eq_nil_of_length_eq_zero (by simpa using h0)]; rfl
    have HR := Lib.hid (show nameB s = false from decide_eq_false (fun h => by omega))
    clear h0 hs
    go_enter Tryz.func135, Tryz.ntmps135
    go_wp2_with fail
    go_ret
    exact ⟨ret_bool HR.out.symm, Below.refl _ _⟩
  · have hE : s.toList.isEmpty = false := by
      rw [ByteArray.toList_eq]
      cases hl : s.data.toList with
      | nil => exact absurd (by simpa using congrArg List.length hl) h0
      | cons a t => rfl
    by_cases h32 : 32 < s.size
    · have HR := Lib.hid (show nameB s = false from decide_eq_false (fun h => by omega))
      have h33 : (32 : Int) < (s.size : Int) := by omega
      clear h0
      go_enter Tryz.func135, Tryz.ntmps135
      go_wp2_with fail
      go_ret
      exact ⟨ret_bool HR.out.symm, Below.refl _ _⟩
    · have h33 : ¬ (32 : Int) < (s.size : Int) := by omega
      have HSZ := Lib.hid (show 1 ≤ s.size ∧ s.size ≤ 32 by omega)
      clear h0 h32 hs
      go_enter Tryz.func135, Tryz.ntmps135
      go_wp2_with fail
      go_loopw [] (fun wr => ∃ k : Nat, k ≤ s.size ∧ wr = w.iter s k ∧ Asd (∀ j, j < k → inN (byt s j) = true)) (fun wr => s.size - wr.iterPos w.heap.size)
      case atStart => exact ⟨0, Nat.zero_le _, rfl, fun j hj => absurd hj (Nat.not_lt_zero _)⟩
      case round =>
        obtain ⟨k, hk, rfl, hA⟩ := hrel
        have HA := Lib.hid (show ∀ j, j < k → inN (byt s j) = true from hA)
        clear hA
        by_cases hlt : k < s.size
        · by_cases ha : (s[k]'hlt).toNat < 128
          · have hnx : ∀ ty, (Instr.next (.pointer (some ⟨w.heap.size, 0, none⟩)) true ty).run Tryz.prog (w.iter s k) = _ := fun ty => run_next_ascii w s k ty hlt ha
            have HBY := Lib.hid (byt_at hlt)
            obtain ⟨bz, hbz⟩ : ∃ bz : Bool, bz = inN ((s[k]'hlt).toNat : Int) := ⟨_, rfl⟩
            have HN := Lib.hid (fun W => (show Calls Tryz.prog 151 #[.int .i32 ((s[k]'hlt).toNat : Int)] W fun e w' => e = .returned (.bool bz) ∧ W = w' from hbz ▸ inName_c _ W))
            have HBZ := Lib.hid hbz
            clear hbz
            cases bz with
            | true =>
              go_wp2_with (go_at_call 151; ((with_reducible refine (HN.out _).mono ?_); rintro e w1 ⟨rfl, rfl⟩))
              go_roundw
              case rel => exact ⟨k + 1, by omega, rfl, fun j hj => by
                rcases Nat.lt_or_ge j k with h | h
                · exact HA.out j h
                · obtain rfl : j = k := by omega
                  rw [HBY.out]; exact HBZ.out.symm⟩
              case measure => simp; omega
            | false =>
              have HR := Lib.hid (show nameB s = false from decide_eq_false (fun h => by
                have h1 := h.2 k hlt
                rw [HBY.out, ← HBZ.out] at h1
                cases h1))
              go_wp2_with (go_at_call 151; ((with_reducible refine (HN.out _).mono ?_); rintro e w1 ⟨rfl, rfl⟩))
              go_ret
              exact ⟨ret_bool HR.out.symm, iter_below w s _⟩
          · have hnx : ∀ ty, (Instr.next (.pointer (some ⟨w.heap.size, 0, none⟩)) true ty).run Tryz.prog (w.iter s k) = _ := fun ty => run_next_any w s k ty hlt
            have hd := (decode_high s k hlt (by omega)).1
            have HN := Lib.hid (fun W => (show Calls Tryz.prog 151 #[.int .i32 ((Utf8.decode s k).1 : Int)] W fun e w' => e = .returned (.bool false) ∧ W = w' from by
              have h := inName_c ((Utf8.decode s k).1 : Int) W
              rw [show inN ((Utf8.decode s k).1 : Int) = false from decide_eq_false (by omega)] at h
              exact h))
            have HR := Lib.hid (show nameB s = false from decide_eq_false (fun h => by
                have h1 := h.2 k hlt
                rw [byt_at hlt] at h1
                have h2 := of_decide_eq_true h1
                omega))
            clear ha
            go_wp2_with (go_at_call 151; ((with_reducible refine (HN.out _).mono ?_); rintro e w1 ⟨rfl, rfl⟩))
            go_ret
            exact ⟨ret_bool HR.out.symm, iter_below w s _⟩
        · obtain rfl : k = s.size := by omega
          have hnx : ∀ ty, (Instr.next (.pointer (some ⟨w.heap.size, 0, none⟩)) true ty).run Tryz.prog (w.iter s s.size) = _ := fun ty => run_next_end w s s.size ty hlt
          have HR := Lib.hid (show nameB s = true from decide_eq_true ⟨HSZ.out, HA.out⟩)
          go_wp2_with fail
          go_ret
          exact ⟨ret_bool HR.out.symm, iter_below w s _⟩
end Go.Proofs.YtfdgpbdppenhmaaGreat.Pp
end
