/- Rows of one-cell elements, read and owned: whatever the elements are. -/
import Derived.Test.YthppjmhocmppfaaDoorJac
import Derived.Deep.AppendLies
import Derived.Deep.RegionHeld3
import Derived.Deep.DeepCutAuto
import Derived.Deep.QuietTactic
import Derived.BigQuiet
import Derived.Laws.OwnMore
import Derived.Maps.AppendAt
import Derived.IntWalk
namespace Go.Proofs.YthppjmhocmppfaaDoor
open Go.RowKit Go.Maps
def I64 (i : Int) : Prop := -9223372036854775808 ≤ i ∧ i ≤ 9223372036854775807
theorem cell_list (w : World) (t : TypeId) (l : List Value) : ∀ (j : Nat) (u : Value), l[j]? = some u → (w.alloc (.cells l.toArray t)).cell? ((⟨w.heap.size, 0, none⟩ : Addr).add j) = some u := by
  intro j u hu
  have h := (Blk.new w t l.toArray).cell j
  rw [Addr.add_lit, Nat.zero_add, h]
  simpa using hu
theorem cell_list_at (w : World) (t : TypeId) (l : List Value) (k : Nat) (hk : w.heap.size = k) : ∀ (j : Nat) (u : Value), l[j]? = some u → (w.alloc (.cells l.toArray t)).cell? ((⟨k, 0, none⟩ : Addr).add j) = some u := by subst hk; exact cell_list w t l
theorem intInfo : (Tryd.prog.info? 3).map (fun i => (i.zero, i.size, i.bytes)) = some (some (.int .i64 0), 1, 8) := by kernel_rfl
theorem byteInfo : (Tryd.prog.info? 5).map (fun i => (i.zero, i.size, i.bytes)) = some (some (.int .u8 0), 1, 1) := by kernel_rfl
theorem strInfo : (Tryd.prog.info? 9).map (fun i => (i.zero, i.size, i.bytes)) = some (some (.string ByteArray.empty), 1, 16) := by kernel_rfl
theorem row_less {w : World} {B B' : Nat} {T : TypeId} {k : Nat} {v : Value} {n : Nat} {xs : List Value} (h : w.ownsRow B T k v n xs) (hb : B' ≤ B) : w.ownsRow B' T k v n xs := by
  obtain ⟨h1, h2⟩ := h
  refine ⟨h1, ?_⟩
  rcases h2 with h2 | ⟨g, cap, cur, a, b, c⟩
  · exact .inl h2
  · exact .inr ⟨g, cap, cur, a, Nat.le_trans hb b, c⟩
theorem own_next {B : Nat} {e : TypeId} {k : Nat} {v : Value} {n : Nat} {xs : List Value} {w w' : World} (h : w.ownsRow B e k v n xs) (hb : Below w.heap.size w w') : w'.ownsRow B e k v n xs :=
  h.kept (row := none) ⟨hb.os, hb.tape, hb.output, hb.size, fun j hj _ => hb.block j hj⟩ (by cases hv : v.ownBlock <;> simp)
/-- A row reads as these cells. -/
def Rd (w : World) (v : Value) (cs : List Value) : Prop := ∃ p c, v = .slice p cs.length c ∧ ∀ (j : Nat) (u : Value), cs[j]? = some u → ∃ b o, p = some ⟨b, o, none⟩ ∧ b < w.heap.size ∧ w.cell? ⟨b, o + j, none⟩ = some u
theorem Rd.next {w w' : World} {v : Value} {cs : List Value} (h : Rd w v cs) (hb : Below w.heap.size w w') : Rd w' v cs := by
  obtain ⟨p, c, h1, h2⟩ := h
  exact ⟨p, c, h1, fun j u hu => by obtain ⟨b, o, h3, h4, h5⟩ := h2 j u hu; exact ⟨b, o, h3, Nat.lt_of_lt_of_le h4 hb.size, (hb.cell (p := ⟨b, o + j, none⟩) h4).trans h5⟩⟩
theorem Rd.nil (w : World) : Rd w (.slice none 0 0) [] := ⟨none, 0, rfl, fun j u hu => by simp at hu⟩
/-- A row of the call's own: the world grew by it alone. -/
def Gi (T : TypeId) (w wr : World) (v : Value) (cs : List Value) : Prop := wr.ownsRow w.heap.size T 1 v cs.length cs ∧ Below w.heap.size w wr
section
variable {T : TypeId} {w wr w1 : World} {v v' : Value} {cs : List Value}
theorem Gi.nil (w : World) (T : TypeId) : Gi T w w (.slice none 0 0) [] := ⟨World.ownsRow_nil _ _ _ _, Below.refl _ _⟩
theorem Gi.next {w' : World} (h : Gi T w wr v cs) (hb : Below wr.heap.size wr w') : Gi T w w' v cs := ⟨own_next h.1 hb, hb.on h.2 h.2.size⟩
theorem Gi.put {us : List Value} {o : Obj} (h : Gi T w wr v cs) (ho : w1.ownsRow w.heap.size T 1 v' (cs.length + us.length) (cs ++ us)) (hg : (wr.alloc o).grownBy w1 v.ownBlock) : Gi T w w1 v' (cs ++ us) := by
  refine ⟨?_, below_only (h.2.alloc h.2.size _) hg (by have := h.2.size; simp; omega) (fun k hk => (World.ownsRow.lt h.1 k hk).1)⟩
  rw [List.length_append]
  exact ho
theorem own_rd {B : Nat} (h : w.ownsRow B T 1 v cs.length cs) : Rd w v cs := by
  have h0 := h
  obtain ⟨hlen, h1⟩ := h
  rcases h1 with ⟨rfl, hn⟩ | ⟨g, cap, cur, rfl, -, hg, hnc, hcm, hcs, ht⟩
  · have hx : cs = [] := List.eq_nil_of_length_eq_zero hn
    subst hx
    exact Rd.nil w
  · refine ⟨_, cap, rfl, fun j u hu => ⟨g, 0, rfl, (Array.getElem?_eq_some_iff.1 hg).1, ?_⟩⟩
    have hj := (List.getElem?_eq_some_iff.1 hu).1
    rw [Nat.zero_add]
    exact (World.ownsRow.cellAt h0 j (by omega)).trans hu
theorem Gi.rd (h : Gi T w wr v cs) : Rd wr v cs := own_rd h.1
end
abbrev ints (zs : List Int) : List Value := zs.map (Value.int .i64)
abbrev byts (zs : List Int) : List Value := zs.map (Value.int .u8)
abbrev strs (ss : List ByteArray) : List Value := ss.map Value.string
theorem one_ints (zs : List Int) : ∀ u ∈ ints zs, u.oneCell' = true := by
  intro u hu
  obtain ⟨z, _, rfl⟩ := List.mem_map.1 hu
  rfl
theorem one_byts (zs : List Int) : ∀ u ∈ byts zs, u.oneCell' = true := by
  intro u hu
  obtain ⟨z, _, rfl⟩ := List.mem_map.1 hu
  rfl
theorem one_strs (ss : List ByteArray) : ∀ u ∈ strs ss, u.oneCell' = true := by
  intro u hu
  obtain ⟨z, _, rfl⟩ := List.mem_map.1 hu
  rfl
theorem list_same {α : Type} {a b : List α} (hl : a.length = b.length) (h : ∀ j, j < a.length → a[j]? = b[j]?) : a = b := by
  apply List.ext_getElem?
  intro j
  rcases Nat.lt_or_ge j a.length with hj | hj
  · exact h j hj
  · rw [List.getElem?_eq_none hj, List.getElem?_eq_none (by omega)]
end Go.Proofs.YthppjmhocmppfaaDoor
