/- What is around a set: of the code, and of the document. -/
import Derived.Test.YtfabknabkcfpjaaRhB
import Derived.Test.YtfabknabkcfpjaaGeoE
import Derived.Test.YtfabknabkcfpjaaGeoD
namespace Go.Proofs.Ytfabknabkcfpjaa
open Go.RowKit Go.Shelf
def hullOf (a r : Rc) : Rc := hullR a.x a.y a.w a.h r.x r.y r.w r.h
def boundsR (rs : List Rc) : Rc := rs.foldl hullOf zeroR
theorem take_snoc_get {α : Type} {l : List α} {k : Nat} {x : α} (h : l[k]? = some x) : l.take (k + 1) = l.take k ++ [x] := by
  have hk := (List.getElem?_eq_some_iff.1 h).1
  rw [List.take_succ_eq_append_getElem hk]
  rw [List.getElem?_eq_getElem hk] at h
  injection h with h
  rw [h]
theorem bounds_snoc {rs : List Rc} {k : Nat} {r : Rc} (h : rs[k]? = some r) : boundsR (rs.take (k + 1)) = hullOf (boundsR (rs.take k)) r := by
  rw [take_snoc_get h]; unfold boundsR; rw [List.foldl_append]; rfl
/-- A block of four ints, as a rectangle. -/
def Bst (w0 : World) (n0 n1 : Nat) (Z A : Array Value) (wx : World) : Prop := Blk wx n0 40 Z ∧ Blk wx n1 40 A ∧ Below w0.heap.size w0 wx ∧ w0.heap.size ≤ n0 ∧ w0.heap.size ≤ n1 ∧ n0 ≠ n1
section
variable {w0 wx w1 : World} {n0 n1 : Nat} {Z A : Array Value}
theorem Bst.next (h : Bst w0 n0 n1 Z A wx) (hb : Below wx.heap.size wx w1) : Bst w0 n0 n1 Z A w1 := ⟨h.1.next hb, h.2.1.next hb, h.2.2.1.trans (hb.mono h.2.2.1.size), h.2.2.2⟩
theorem Bst.rset (h : Bst w0 n0 n1 Z A wx) (i : Nat) (v : Value) : Bst w0 n0 n1 Z (A.setIfInBounds i v) (wx.setCell ⟨n1, i, none⟩ v) :=
  ⟨h.1.far h.2.2.2.2.2 _, h.2.1.set_ i v, h.2.2.1.setCell h.2.2.2.2.1 _, h.2.2.2⟩
theorem Bst.zset (h : Bst w0 n0 n1 Z A wx) (i : Nat) (v : Value) : Bst w0 n0 n1 (Z.setIfInBounds i v) A (wx.setCell ⟨n0, i, none⟩ v) :=
  ⟨h.1.set_ i v, h.2.1.far (Ne.symm h.2.2.2.2.2) _, h.2.2.1.setCell h.2.2.2.1 _, h.2.2.2⟩
theorem Bst.four (h : Bst w0 n0 n1 Z A wx) (hA : A.size = 4) (v0 v1 v2 v3 : Value) :
    Bst w0 n0 n1 Z #[v0, v1, v2, v3] ((((wx.setCell ⟨n1, 0, none⟩ v0).setCell ⟨n1, 1, none⟩ v1).setCell ⟨n1, 2, none⟩ v2).setCell ⟨n1, 3, none⟩ v3) := by
  obtain ⟨l⟩ := A
  match l, hA with
  | [a0, a1, a2, a3], _ => exact (((h.rset 0 v0).rset 1 v1).rset 2 v2).rset 3 v3
theorem Bst.last (h : Bst w0 n0 n1 Z A wx) (v0 v1 v2 v3 : Value) :
    Below w0.heap.size w0 ((((wx.setCell ⟨n0, 0, none⟩ v0).setCell ⟨n0, 1, none⟩ v1).setCell ⟨n0, 2, none⟩ v2).setCell ⟨n0, 3, none⟩ v3) :=
  ((((h.zset 0 v0).zset 1 v1).zset 2 v2).zset 3 v3).2.2.1
end
set_option maxHeartbeats 2000000 in
theorem rgBounds_c (v : Value) (rs : List Rc) (w : World) (hR : RdK encR 4 w v rs) (hn : rs.length ≤ 1152921504606846976) :
    Calls Try.prog 20 #[v] w fun e w' => e = .returned (rcV (boundsR rs)) ∧ Below w.heap.size w w' := by
  obtain ⟨p, c, rfl, hcell⟩ := hR
  have HC := Lib.hid hcell
  obtain ⟨n, hln⟩ : ∃ n, n = rs.length := ⟨_, rfl⟩
  rw [← hln] at hn ⊢
  have HN := Lib.hid hln
  have P0 : Bst w w.heap.size (w.heap.size + 1) #[.int .i64 0, .int .i64 0, .int .i64 0, .int .i64 0] #[.int .i64 0, .int .i64 0, .int .i64 0, .int .i64 0] ((w.alloc (.cells #[.int .i64 0, .int .i64 0, .int .i64 0, .int .i64 0] 40)).alloc (.cells #[.int .i64 0, .int .i64 0, .int .i64 0, .int .i64 0] 40)) :=
    ⟨(Blk.new w _ _).alloc _, by have := Blk.new (w.alloc (.cells #[.int .i64 0, .int .i64 0, .int .i64 0, .int .i64 0] 40)) 40 #[.int .i64 0, .int .i64 0, .int .i64 0, .int .i64 0]; simpa using this, ((Below.refl _ w).alloc (Nat.le_refl _) _).alloc (by simp) _, Nat.le_refl _, by omega, by omega⟩
  clear hcell hln
  go_enter Try.func20, Try.ntmps20
  go_wp2_with fail
  go_loopw [8] (fun z wr => ∃ k : Nat, k ≤ n ∧ z = .int .i64 k ∧ Bst w w.heap.size (w.heap.size + 1) #[.int .i64 0, .int .i64 0, .int .i64 0, .int .i64 0] #[.int .i64 (boundsR (rs.take k)).x, .int .i64 (boundsR (rs.take k)).y, .int .i64 (boundsR (rs.take k)).w, .int .i64 (boundsR (rs.take k)).h] wr) (fun z _ => n - (intOf z).toNat)
  case atStart => exact ⟨0, Nat.zero_le _, rfl, P0⟩
  case round =>
    obtain ⟨k, hk, rfl, P1⟩ := hrel
    clear P0
    obtain ⟨⟨a0, a1, a2, a3⟩, f0, f1, f2, f3⟩ := P1.2.1.c4
    by_cases hlt : k < n
    · obtain ⟨r, hx⟩ : ∃ r, rs[k]? = some r := ⟨_, List.getElem?_eq_getElem (by rw [← HN.out]; exact hlt)⟩
      have HX := Lib.hid (bounds_snoc hx)
      obtain ⟨b, o, rfl, hb1, hb2⟩ := HC.out k r hx
      obtain ⟨r0, r1, r2, r3⟩ := RdK.rect (w := wr) (fun i u hu => (P1.2.2.1.cell (p := ⟨b, o + k * 4 + i, none⟩) hb1).trans (hb2 i u hu))
      have hbl : b < wr.heap.size := Nat.lt_of_lt_of_le hb1 P1.2.2.1.size
      have hl1 := P1.2.1.lt
      generalize boundsR (rs.take k) = acc at *
      clear hb2 hx
      have hi0 : (0 : Int) ≤ (k : Int) := by omega
      have hi1 : (k : Int) < (n : Int) := by omega
      go_wp2_with fail
      have P2 := P1.next ((Below.refl _ _).alloc (Nat.le_refl _) (.cells #[.int .i64 r.x, .int .i64 r.y, .int .i64 r.w, .int .i64 r.h] 40))
      refine (hull_c acc.x acc.y acc.w acc.h r.x r.y r.w r.h _).mono ?_
      rintro e w1 ⟨rfl, hb⟩
      have P3 := P2.next hb
      clear hb P1 P2 a0 a1 a2 a3 f0 f1 f2 f3 r0 r1 r2 r3
      obtain ⟨_, f0, f1, f2, f3⟩ := P3.2.1.c4
      have hl1 := P3.2.1.lt
      go_wp2_with fail
      go_roundw
      case rel => exact ⟨k + 1, by omega, by go_num, by rw [HX.out]; exact P3.four rfl _ _ _ _⟩
      case measure => simp [intOf]; omega
    · obtain rfl : k = n := by omega
      obtain ⟨_, g0, g1, g2, g3⟩ := P1.1.c4
      have hl0 := P1.1.lt
      have hl1 := P1.2.1.lt
      have HT := Lib.hid (show boundsR (rs.take k) = boundsR rs by rw [HN.out, List.take_length])
      generalize boundsR (rs.take k) = acc at *
      go_wp2_with fail
      refine bodyPost_ret (v := rcV acc) (by simp [results, Try.results20, go_sem, *]; try rfl) rfl ?_
      exact ⟨by rw [HT.out], P1.last _ _ _ _⟩
end Go.Proofs.Ytfabknabkcfpjaa
