/- What is refused; a window told anew. -/
import Derived.Test.YtlbbjinkblgfiaaWiI
namespace Go.Proofs.Ytlbbjinkblgfiaa
open Go.RowKit Go.Shelf Go.Maps
/-- A call that changes the window i is refused. -/
def Refuse (w : World) (p : Value) (i code : Int) : Prop := ∀ W, Below w.heap.size w W → Calls Try.prog 47 #[p, .int .i64 i] W fun e w' => e = .returned (.tuple #[.pointer none, .int .i64 code]) ∧ W = w'
section
variable {w : World} {t : Nat} {l : Lay} {nd : Int → Option Nd} {made : Int} {cnt : Nat}
theorem refuse_none (h : TreeH w t l nd made cnt) {r : Nat} (h0 : l.nb 0 = some r) {i : Int} (hi : I64 i) (hb : l.nb i = none) : Refuse w (treeP t) i 6 := fun _ hW => changeable_none (h.next hW) h0 hi hb
theorem refuse_root (h : TreeH w t l nd made cnt) {r : Nat} (h0 : l.nb 0 = some r) : Refuse w (treeP t) 0 1 := fun _ hW => changeable_root (h.next hW) h0
theorem refuse_no {p : Value} (h : NoTree w p) {i : Int} (hi : I64 i) : Refuse w p i 3 := fun _ hW => changeable_no (h.next hW) hi
end
theorem map_f {w : World} {p : Value} {i code : Int} {on : Bool} (hR : Refuse w p i code) (h2 : (code != 0) = true) :
    Calls Try.prog 29 #[p, .int .i64 i, .bool on] w fun e w' => e = .returned (.int .i64 code) ∧ Below w.heap.size w w' := by
  have HR := Lib.hid (fun W (hW : Below w.heap.size w W) => hR W hW)
  clear hR
  go_enter Try.func29, Try.ntmps29
  go_wp2_with (go_at_call 47; ((with_reducible refine (HR.out _ (Below.refl _ _)).mono ?_); rintro e w' ⟨rfl, rfl⟩))
  go_ret
  exact ⟨rfl, (Below.refl _ _)⟩
theorem raise_f {w : World} {p : Value} {i code : Int} (hR : Refuse w p i code) (h2 : (code != 0) = true) :
    Calls Try.prog 25 #[p, .int .i64 i] w fun e w' => e = .returned (.int .i64 code) ∧ Below w.heap.size w w' := by
  have HR := Lib.hid (fun W (hW : Below w.heap.size w W) => hR W hW)
  clear hR
  go_enter Try.func25, Try.ntmps25
  go_wp2_with (go_at_call 47; ((with_reducible refine (HR.out _ (Below.refl _ _)).mono ?_); rintro e w' ⟨rfl, rfl⟩))
  go_ret
  exact ⟨rfl, (Below.refl _ _)⟩
theorem lower_f {w : World} {p : Value} {i code : Int} (hR : Refuse w p i code) (h2 : (code != 0) = true) :
    Calls Try.prog 28 #[p, .int .i64 i] w fun e w' => e = .returned (.int .i64 code) ∧ Below w.heap.size w w' := by
  have HR := Lib.hid (fun W (hW : Below w.heap.size w W) => hR W hW)
  clear hR
  go_enter Try.func28, Try.ntmps28
  go_wp2_with (go_at_call 47; ((with_reducible refine (HR.out _ (Below.refl _ _)).mono ?_); rintro e w' ⟨rfl, rfl⟩))
  go_ret
  exact ⟨rfl, (Below.refl _ _)⟩
theorem destroy_f {w : World} {p : Value} {i code : Int} (hR : Refuse w p i code) (h2 : (code != 0) = true) :
    Calls Try.prog 20 #[p, .int .i64 i] w fun e w' => e = .returned (.tuple #[.slice none 0 0, .int .i64 code]) ∧ Below w.heap.size w w' := by
  have HR := Lib.hid (fun W (hW : Below w.heap.size w W) => hR W hW)
  clear hR
  go_enter Try.func20, Try.ntmps20
  go_wp2_with (go_at_call 47; ((with_reducible refine (HR.out _ (Below.refl _ _)).mono ?_); rintro e w' ⟨rfl, rfl⟩))
  go_ret2
  exact ⟨rfl, (Below.refl _ _)⟩
theorem conf_f {w : World} {p : Value} {i code : Int} {x y a b : Int} (hR : Refuse w p i code) (h2 : (code != 0) = true) :
    Calls Try.prog 27 #[p, .int .i64 i, .agg #[.int .i64 x, .int .i64 y, .int .i64 a, .int .i64 b]] w fun e w' => e = .returned (.int .i64 code) ∧ Below w.heap.size w w' := by
  have HR := Lib.hid (fun W (hW : Below w.heap.size w W) => hR W hW)
  clear hR
  go_enter Try.func27, Try.ntmps27
  go_wp2_with (go_at_call 47; ((with_reducible refine (HR.out _ ((Below.refl _ _).alloc (Nat.le_refl _) _)).mono ?_); rintro e w' ⟨rfl, rfl⟩))
  go_ret
  exact ⟨rfl, ((Below.refl _ _).alloc (Nat.le_refl _) _)⟩
theorem repar_f {w : World} {p : Value} {i code : Int} {q x y : Int} (hR : Refuse w p i code) (h2 : (code != 0) = true) :
    Calls Try.prog 21 #[p, .int .i64 i, .int .i64 q, .agg #[.int .i64 x, .int .i64 y]] w fun e w' => e = .returned (.int .i64 code) ∧ Below w.heap.size w w' := by
  have HR := Lib.hid (fun W (hW : Below w.heap.size w W) => hR W hW)
  clear hR
  go_enter Try.func21, Try.ntmps21
  go_wp2_with (go_at_call 47; ((with_reducible refine (HR.out _ ((Below.refl _ _).alloc (Nat.le_refl _) _)).mono ?_); rintro e w' ⟨rfl, rfl⟩))
  go_ret
  exact ⟨rfl, ((Below.refl _ _).alloc (Nat.le_refl _) _)⟩
section
variable {w : World} {t : Nat} {l : Lay} {nd : Int → Option Nd} {made : Int} {cnt : Nat}
theorem map_c (h : TreeH w t l nd made cnt) {r : Nat} (h0 : l.nb 0 = some r) {i : Int} (hi : I64 i) {b : Nat} {d : Nd} (hb : l.nb i = some b) (hd : nd i = some d) (hz : i ≠ 0) (on : Bool) :
    Calls Try.prog 29 #[treeP t, .int .i64 i, .bool on] w fun e w' => e = .returned (.int .i64 0) ∧ TreeTo w t l l.nb (upd nd i (some ⟨{ d.win with on := on }, d.kids⟩)) made cnt w' := by
  have HC := Lib.hid (changeable_some h h0 hi hb hz)
  obtain ⟨⟨-, -, -, -, -, -, k6, -⟩, kf⟩ := h.cells hb hd
  have kf6 := kf 6
  have HT := Lib.hid (h.cell hb hd 6 (.bool on) { d.win with on := on } rfl)
  clear h h0 hi hb hd hz kf
  go_enter Try.func29, Try.ntmps29
  go_wp2_with (go_at_call 47; ((with_reducible refine (HC.out).mono ?_); rintro e w' ⟨rfl, rfl⟩))
  go_ret
  exact ⟨rfl, l, rfl, HT.out⟩
theorem TreeH.rect (h : TreeH w t l nd made cnt) {i : Int} {b : Nat} {d : Nd} (hb : l.nb i = some b) (hd : nd i = some d) (x y a e : Int) :
    TreeTo w t l l.nb (upd nd i (some ⟨⟨d.win.id, d.win.par, x, y, a, e, d.win.on⟩, d.kids⟩)) made cnt ((((w.setCell ⟨b, 2, none⟩ (.int .i64 x)).setCell ⟨b, 3, none⟩ (.int .i64 y)).setCell ⟨b, 4, none⟩ (.int .i64 a)).setCell ⟨b, 5, none⟩ (.int .i64 e)) := by
  obtain ⟨h1, t1⟩ := h.cell hb hd 2 (.int .i64 x) ⟨d.win.id, d.win.par, x, d.win.y, d.win.w, d.win.h, d.win.on⟩ rfl
  obtain ⟨h2, t2⟩ := h1.cell hb (upd_same _ _ _) 3 (.int .i64 y) ⟨d.win.id, d.win.par, x, y, d.win.w, d.win.h, d.win.on⟩ rfl
  obtain ⟨h3, t3⟩ := h2.cell hb (upd_same _ _ _) 4 (.int .i64 a) ⟨d.win.id, d.win.par, x, y, a, d.win.h, d.win.on⟩ rfl
  obtain ⟨h4, t4⟩ := h3.cell hb (upd_same _ _ _) 5 (.int .i64 e) ⟨d.win.id, d.win.par, x, y, a, e, d.win.on⟩ rfl
  rw [upd_twice, upd_twice, upd_twice] at h4
  exact ⟨l, rfl, h4, ((t1.trans t2).trans t3).trans t4⟩
theorem TreeTo.after {w' : World} {nb' : Int → Option Nat} {nd' : Int → Option Nd} {made' : Int} {cnt' : Nat} {W : World} (hW : Below w.heap.size w W) (h : TreeTo W t l nb' nd' made' cnt' w') : TreeTo w t l nb' nd' made' cnt' w' := by
  obtain ⟨l', h1, h2, h3⟩ := h
  exact ⟨l', h1, h2, Turn.after_below hW h3⟩
theorem conf_wrong (h : TreeH w t l nd made cnt) {r : Nat} (h0 : l.nb 0 = some r) {i : Int} (hi : I64 i) {b : Nat} (hb : l.nb i = some b) (hz : i ≠ 0) {x y a e : Int} (hr : rightB x y a e = false) :
    Calls Try.prog 27 #[treeP t, .int .i64 i, .agg #[.int .i64 x, .int .i64 y, .int .i64 a, .int .i64 e]] w fun e w' => e = .returned (.int .i64 10) ∧ Below w.heap.size w w' := by
  have HC := Lib.hid (changeable_some (h.alloc (.cells #[.int .i64 x, .int .i64 y, .int .i64 a, .int .i64 e] 23)) h0 hi hb hz)
  have HR := Lib.hid (fun W => right_c x y a e W)
  rw [hr] at HR
  clear h h0 hi hb hz hr
  go_enter Try.func27, Try.ntmps27
  go_wp2_with (first
    | (go_at_call 47; ((with_reducible refine (HC.out).mono ?_); rintro e w' ⟨rfl, rfl⟩))
    | (go_at_call 51; ((with_reducible refine (HR.out _).mono ?_); rintro e w' ⟨rfl, hb⟩)))
  go_ret
  exact ⟨rfl, hb.on ((Below.refl _ _).alloc (Nat.le_refl _) _) (by simp)⟩
set_option maxHeartbeats 1000000 in
theorem conf_c (h : TreeH w t l nd made cnt) {r : Nat} (h0 : l.nb 0 = some r) {i : Int} (hi : I64 i) {b : Nat} {d : Nd} (hb : l.nb i = some b) (hd : nd i = some d) (hz : i ≠ 0) {x y a e : Int} (hr : rightB x y a e = true) :
    Calls Try.prog 27 #[treeP t, .int .i64 i, .agg #[.int .i64 x, .int .i64 y, .int .i64 a, .int .i64 e]] w fun ex w' => ex = .returned (.int .i64 0) ∧ TreeTo w t l l.nb (upd nd i (some ⟨⟨d.win.id, d.win.par, x, y, a, e, d.win.on⟩, d.kids⟩)) made cnt w' := by
  obtain ⟨wb, hwb⟩ : ∃ wb, wb = w.alloc (.cells #[.int .i64 x, .int .i64 y, .int .i64 a, .int .i64 e] 23) := ⟨_, rfl⟩
  have hbel : Below w.heap.size w wb := by rw [hwb]; exact (Below.refl _ _).alloc (Nat.le_refl _) _
  have HC := Lib.hid (changeable_some (h.next hbel) h0 hi hb hz)
  have HR := Lib.hid (fun W => right_c x y a e W)
  rw [hr] at HR
  have hbx : Blk wb w.heap.size 23 #[.int .i64 x, .int .i64 y, .int .i64 a, .int .i64 e] := by rw [hwb]; exact Blk.new w _ _
  obtain ⟨⟨x0, x1, x2, x3⟩, -⟩ := hbx.c4
  have HX := Lib.hid (fun W (hW : Below wb.heap.size wb W) => (hbx.next hW).c4.1)
  have HK := Lib.hid (fun W (hW : Below wb.heap.size wb W) => (((h.next hbel).next hW).cells hb hd))
  have HT := Lib.hid (fun W (hW : Below wb.heap.size wb W) => TreeTo.after (hW.on hbel hbel.size) (((h.next hbel).next hW).rect hb hd x y a e))
  have HW := Lib.hid hwb
  clear h h0 hi hb hd hz hr hbx hbel
  go_enter Try.func27, Try.ntmps27
  go_upto_region 1 with fail
  rw [← HW.out]
  clear hwb
  go_wp2_with (first
    | (go_at_call 47; ((with_reducible refine (HC.out).mono ?_); rintro e w' ⟨rfl, rfl⟩))
    | (go_at_call 51; ((with_reducible refine (HR.out _).mono ?_); rintro e w1 ⟨rfl, hb⟩); obtain ⟨y0, y1, y2, y3⟩ := HX.out _ hb; obtain ⟨⟨k0, k1, k2, k3, k4, k5, k6, k7⟩, kf⟩ := HK.out _ hb; have f2 := kf 2; have f3 := kf 3; have f4 := kf 4; have f5 := kf 5; have HT1 := Lib.hid (HT.out _ hb); clear kf k0 k1 k6 k7 hb))
  go_ret
  exact ⟨rfl, HT1.out⟩
end
end Go.Proofs.Ytlbbjinkblgfiaa
