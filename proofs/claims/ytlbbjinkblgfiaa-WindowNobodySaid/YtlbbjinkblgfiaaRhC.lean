/- What is around a set: of the code, and of the document. -/
import Derived.Test.YtlbbjinkblgfiaaRhB
import Derived.Test.YtlbbjinkblgfiaaGeoE
import Derived.Test.YtlbbjinkblgfiaaGeoD
namespace Go.Proofs.Ytlbbjinkblgfiaa
open Go.RowKit Go.Shelf
def hullOf (a r : Rc) : Rc := hullR a.x a.y a.w a.h r.x r.y r.w r.h
def boundsR (rs : List Rc) : Rc := rs.foldl hullOf zeroR
theorem take_snoc_get {α : Type} {l : List α} {k : Nat} {x : α} (h : l[k]? = some x) : l.take (k + 1) = l.take k ++ [x] := by
  have hk := (List.getElem?_eq_some_iff.1 h).1
  rw [List.take_succ_eq_append_getElem hk]
  rw [List.getElem?_eq_getElem hk] at h
  injection h with h
  rw [h]
theorem bounds_snoc {rs : List Rc} {k : Nat} {r : Rc} (h : rs[k]? = some r) : boundsR (rs.take (k + 1)) = hullOf (boundsR (rs.take k)) r := by
  rw [take_snoc_get h]; unfold boundsR; rw [List.foldl_append]; rfl
/-- A block of four ints, as a rectangle. -/
def Bst (w0 : World) (n0 n1 : Nat) (Z A : Array Value) (wx : World) : Prop := Blk wx n0 23 Z ∧ Blk wx n1 23 A ∧ Below w0.heap.size w0 wx ∧ w0.heap.size ≤ n0 ∧ w0.heap.size ≤ n1 ∧ n0 ≠ n1
section
variable {w0 wx w1 : World} {n0 n1 : Nat} {Z A : Array Value}
theorem Bst.next (h : Bst w0 n0 n1 Z A wx) (hb : Below wx.heap.size wx w1) : Bst w0 n0 n1 Z A w1 := ⟨h.1.next hb, h.2.1.next hb, h.2.2.1.trans (hb.mono h.2.2.1.size), h.2.2.2⟩
theorem Bst.rset (h : Bst w0 n0 n1 Z A wx) (i : Nat) (v : Value) : Bst w0 n0 n1 Z (A.setIfInBounds i v) (wx.setCell ⟨n1, i, none⟩ v) :=
  ⟨h.1.far h.2.2.2.2.2 _, h.2.1.set_ i v, h.2.2.1.setCell h.2.2.2.2.1 _, h.2.2.2⟩
theorem Bst.zset (h : Bst w0 n0 n1 Z A wx) (i : Nat) (v : Value) : Bst w0 n0 n1 (Z.setIfInBounds i v) A (wx.setCell ⟨n0, i, none⟩ v) :=
  ⟨h.1.set_ i v, h.2.1.far (Ne.symm h.2.2.2.2.2) _, h.2.2.1.setCell h.2.2.2.1 _, h.2.2.2⟩
theorem Bst.four (h : Bst w0 n0 n1 Z A wx) (hA : A.size = 4) (v0 v1 v2 v3 : Value) :
    Bst w0 n0 n1 Z #[v0, v1, v2, v3] ((((wx.setCell ⟨n1, 0, none⟩ v0).setCell ⟨n1, 1, none⟩ v1).setCell ⟨n1, 2, none⟩ v2).setCell ⟨n1, 3, none⟩ v3) := by
  obtain ⟨l⟩ := A
  match l, hA with
  | [a0, a1, a2, a3], _ => exact (((h.rset 0 v0).rset 1 v1).rset 2 v2).rset 3 v3
theorem Bst.last (h : Bst w0 n0 n1 Z A wx) (v0 v1 v2 v3 : Value) :
    Below w0.heap.size w0 ((((wx.setCell ⟨n0, 0, none⟩ v0).setCell ⟨n0, 1, none⟩ v1).setCell ⟨n0, 2, none⟩ v2).setCell ⟨n0, 3, none⟩ v3) :=
  ((((h.zset 0 v0).zset 1 v1).zset 2 v2).zset 3 v3).2.2.1
end
end Go.Proofs.Ytlbbjinkblgfiaa
