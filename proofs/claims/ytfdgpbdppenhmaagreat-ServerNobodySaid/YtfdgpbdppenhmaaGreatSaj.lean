/- Where a window begins. -/
import Derived.Test.YtfdgpbdppenhmaaGreatSai
section
namespace Go.Proofs.YtfdgpbdppenhmaaGreat
open Go.RowKit Go.Shelf Go.Maps
def xOf (nd : Int → Option Nd) (i : Int) : Int := match nd i with
  | some d => d.win.x
  | none => 0
def yOf (nd : Int → Option Nd) (i : Int) : Int := match nd i with
  | some d => d.win.y
  | none => 0
/-- The sums on the way to the root. -/
def absX (nd : Int → Option Nd) : Nat → Int → Int
  | 0, _ => 0
  | n + 1, i => absX nd n (parOf nd i) + xOf nd i
def absY (nd : Int → Option Nd) : Nat → Int → Int
  | 0, _ => 0
  | n + 1, i => absY nd n (parOf nd i) + yOf nd i
theorem wrap_wrap (a b : Int) : IntKind.i64.wrap (IntKind.i64.wrap a + b) = IntKind.i64.wrap (a + b) := by
  rw [IntKind.wrap_i64, IntKind.wrap_i64, IntKind.wrap_i64]
  omega
theorem abs_f {w : World} {p : Value} {i : Int} (hf : ∀ W, Below w.heap.size w W → Calls Tryz.prog 66 #[p, .int .i64 i] W fun e w' => e = .returned (.pointer none) ∧ W = w') :
    Calls Tryz.prog 51 #[p, .int .i64 i] w fun e w' => e = .returned (.tuple #[.agg #[.int .i64 0, .int .i64 0], .bool false]) ∧ Below w.heap.size w w' := by
  have H1 := Lib.hid (hf (w.alloc (.cells #[.int .i64 0, .int .i64 0] 87)) ((Below.refl _ w).alloc (Nat.le_refl _) _))
  clear hf
  go_enter Tryz.func51, Tryz.ntmps51
  go_wp2_with (go_at_call 66; ((with_reducible refine (H1.out).mono ?_); rintro e w' ⟨rfl, rfl⟩))
  refine bodyPost_ret (v := .tuple #[.agg #[.int .i64 0, .int .i64 0], .bool false]) (by simp [results, Tryz.results51, go_sem]) rfl ?_
  exact ⟨rfl, (Below.refl _ w).alloc (Nat.le_refl _) _⟩
theorem abs_no {w : World} {p : Value} (h : NoTree w p) {i : Int} (hi : I64 i) : Calls Tryz.prog 51 #[p, .int .i64 i] w fun e w' => e = .returned (.tuple #[.agg #[.int .i64 0, .int .i64 0], .bool false]) ∧ Below w.heap.size w w' :=
  abs_f fun _ hW => find_no (h.next hW) hi
section
variable {w : World} {t : Nat} {l : Lay} {nd : Int → Option Nd} {made : Int} {cnt : Nat}
theorem abs_none (h : TreeH w t l nd made cnt) {i : Int} (hi : I64 i) (hb : l.nb i = none) : Calls Tryz.prog 51 #[treeP t, .int .i64 i] w fun e w' => e = .returned (.tuple #[.agg #[.int .i64 0, .int .i64 0], .bool false]) ∧ Below w.heap.size w w' :=
  abs_f fun _ hW => find_none (h.next hW) hi hb
set_option maxRecDepth 100000 in
set_option maxHeartbeats 4000000 in
theorem abs_c (hw : Wide nd) : ∀ (n : Nat) (i : Int) (w : World), TreeH w t l nd made cnt → Way nd n i →
    Calls Tryz.prog 51 #[treeP t, .int .i64 i] w fun e w' => e = .returned (.tuple #[.agg #[.int .i64 (IntKind.i64.wrap (absX nd n i)), .int .i64 (IntKind.i64.wrap (absY nd n i))], .bool true]) ∧ Below w.heap.size w w'
  | n, i, w, h, hW => by
    obtain ⟨d, hd⟩ := hW.there
    obtain ⟨b, hb⟩ := h.block hd
    have hi := (hw i d hd).1
    obtain ⟨wb, hwb⟩ : ∃ wb, wb = w.alloc (.cells #[.int .i64 0, .int .i64 0] 87) := ⟨_, rfl⟩
    have hbel : Below w.heap.size w wb := by rw [hwb]; exact (Below.refl _ _).alloc (Nat.le_refl _) _
    have H1 := Lib.hid (find_some (h.next hbel) hi hb)
    have hbx : Blk wb w.heap.size 87 #[.int .i64 0, .int .i64 0] := by rw [hwb]; exact Blk.new w _ _
    cases n with
    | zero =>
      obtain ⟨rfl, _⟩ := hW
      have H0 := H1
      rw [hwb] at H0
      clear h hd hb hi hbel H1 hbx hwb
      go_enter Tryz.func51, Tryz.ntmps51
      go_wp2_with (go_at_call 66; ((with_reducible refine (H0.out).mono ?_); rintro e w' ⟨rfl, rfl⟩))
      refine bodyPost_ret (v := .tuple #[.agg #[.int .i64 0, .int .i64 0], .bool true]) (by simp [results, Tryz.results51, go_sem]) rfl ?_
      exact ⟨rfl, (Below.refl _ w).alloc (Nat.le_refl _) _⟩
    | succ n =>
      obtain ⟨hz, d', hd', hW'⟩ := hW
      rw [hd] at hd'
      injection hd' with hd'
      subst hd'
      have hz1 : (i == 0) = false := by simpa using hz
      have HR := Lib.hid (abs_c hw n d.win.par wb (h.next hbel) hW')
      have k1 := ((h.next hbel).cells hb hd).1.2.1
      have hsz : w.heap.size < wb.heap.size := hbx.lt
      obtain ⟨px, hpx⟩ : ∃ px, px = IntKind.i64.wrap (absX nd n d.win.par) := ⟨_, rfl⟩
      obtain ⟨py, hpy⟩ : ∃ py, py = IntKind.i64.wrap (absY nd n d.win.par) := ⟨_, rfl⟩
      rw [← hpx, ← hpy] at HR
      have HX := Lib.hid (show IntKind.i64.wrap (px + d.win.x) = IntKind.i64.wrap (absX nd (n + 1) i) by rw [hpx, wrap_wrap]; simp only [absX, parOf, xOf, hd])
      have HY := Lib.hid (show IntKind.i64.wrap (py + d.win.y) = IntKind.i64.wrap (absY nd (n + 1) i) by rw [hpy, wrap_wrap]; simp only [absY, parOf, yOf, hd])
      have HK := Lib.hid (fun W (hW : Below wb.heap.size wb W) => (((h.next hbel).next hW).cells hb hd).1)
      have HQ := Lib.hid (fun W (hW : Below wb.heap.size wb W) => (hbx.next hW).c2)
      have HBL := Lib.hid (fun W (hW : Below wb.heap.size wb W) => hW.on hbel hbel.size)
      have HB := Lib.hid (show b < w.heap.size from (h.node i b d hb hd).1.lt)
      have HW := Lib.hid hwb
      clear h hW' hd hb hi hz hbx hbel hpx hpy
      go_enter Tryz.func51, Tryz.ntmps51
      go_upto_region 1 with fail
      rw [← HW.out]
      clear hwb
      go_upto_region 5 with (first
        | (go_at_call 66; ((with_reducible refine (H1.out).mono ?_); rintro e w' ⟨rfl, rfl⟩))
        | (go_at_call 51; ((with_reducible refine (HR.out).mono ?_); rintro e W2 ⟨rfl, hb2⟩)))
      have hb3 : Below wb.heap.size wb (W2.alloc (.cells #[.int .i64 px, .int .i64 py] 87)) := hb2.alloc hb2.size _
      have hx3 := Blk.new W2 87 #[.int .i64 px, .int .i64 py]
      have hlt3 : wb.heap.size ≤ W2.heap.size := hb2.size
      generalize W2.alloc (.cells #[.int .i64 px, .int .i64 py] 87) = W3 at hb3 hx3 ⊢
      obtain ⟨⟨x0, x1⟩, -⟩ := hx3.c2
      obtain ⟨-, -, n2, n3, -⟩ := HK.out _ hb3
      obtain ⟨⟨q0, q1⟩, ⟨f0, f1⟩⟩ := HQ.out _ hb3
      have hb4 := HBL.out _ hb3
      have ne1 : W2.heap.size ≠ w.heap.size := by omega
      have ne2 : b ≠ w.heap.size := by have := HB.out; omega
      clear hb2 hx3 hb3 hlt3
      refine wp_region_noPanic ?_
      refine wp_region_held_drew (S := fun wx => (wx.cell? ⟨W2.heap.size, 0, none⟩ = some (.int .i64 px) ∧ wx.cell? ⟨W2.heap.size, 1, none⟩ = some (.int .i64 py)) ∧ wx.cell? ⟨b, 2, none⟩ = some (.int .i64 d.win.x) ∧ wx.cell? ⟨b, 3, none⟩ = some (.int .i64 d.win.y)) (by kernel_rfl) (by exact ⟨⟨x0, x1⟩, n2, n3⟩) (fun hHeld => ?_)
      refine wpAnyH_take (i := 0) (v := ?v0) rfl (by kernel_rfl) (by kernel_rfl) (by kernel_rfl) (fun _ _ _ h => h) (Or.inl ⟨by kernel_rfl, ?y0⟩) (by assumption) ?r0
      case y0 => (intro wq hSw; (try dsimp only at hSw); go_simp; (try with_reducible rfl))
      (try simp only [Act.put, List.getElem_toArray, List.getElem_cons_zero, List.setIfInBounds_toArray, List.set_cons_zero, List.set_cons_succ])
      refine wpAnyH_take (i := 1) (v := ?v1) rfl (by kernel_rfl) (by kernel_rfl) (by kernel_rfl) (fun _ _ _ h => h) (Or.inl ⟨by kernel_rfl, ?y1⟩) (by assumption) ?r1
      case y1 => (intro wq hSw; (try dsimp only at hSw); go_simp; (try with_reducible rfl))
      (try simp only [Act.put, List.getElem_toArray, List.getElem_cons_succ, List.getElem_cons_zero, List.setIfInBounds_toArray, List.set_cons_zero, List.set_cons_succ])
      refine wpAnyH_take (i := 2) (v := ?v2) rfl (by kernel_rfl) (by kernel_rfl) (by kernel_rfl) (fun _ _ _ h => h) (Or.inl ⟨by kernel_rfl, ?y2⟩) (by assumption) ?r2
      case y2 => (intro wq hSw; (try dsimp only at hSw); go_simp; (try with_reducible rfl))
      (try simp only [Act.put, List.getElem_toArray, List.getElem_cons_succ, List.getElem_cons_zero, List.setIfInBounds_toArray, List.set_cons_zero, List.set_cons_succ])
      refine wpAnyH_take (i := 3) (v := ?v3) rfl (by kernel_rfl) (by kernel_rfl) (by kernel_rfl) (fun _ _ _ h => h) (Or.inl ⟨by kernel_rfl, ?y3⟩) (by assumption) ?r3
      case y3 => (intro wq hSw; (try dsimp only at hSw); go_simp; (try with_reducible rfl))
      (try simp only [Act.put, List.getElem_toArray, List.getElem_cons_succ, List.getElem_cons_zero, List.setIfInBounds_toArray, List.set_cons_zero, List.set_cons_succ])
      refine wpAnyH_take (i := 4) (v := ?v4) rfl (by kernel_rfl) (by kernel_rfl) (by kernel_rfl) (fun _ _ _ h => h) (Or.inl ⟨by kernel_rfl, ?y4⟩) (by assumption) ?r4
      case y4 => (intro wq hSw; (try dsimp only at hSw); go_simp; (try with_reducible rfl))
      (try simp only [Act.put, List.getElem_toArray, List.getElem_cons_succ, List.getElem_cons_zero, List.setIfInBounds_toArray, List.set_cons_zero, List.set_cons_succ])
      refine wpAnyH_take (i := 5) (v := ?v5) rfl (by kernel_rfl) (by kernel_rfl) (by kernel_rfl) (fun _ _ _ h => h) (Or.inl ⟨by kernel_rfl, ?y5⟩) (by assumption) ?r5
      case y5 => (intro wq hSw; (try dsimp only at hSw); go_simp; (try with_reducible rfl))
      (try simp only [Act.put, List.getElem_toArray, List.getElem_cons_succ, List.getElem_cons_zero, List.setIfInBounds_toArray, List.set_cons_zero, List.set_cons_succ])
      refine wpAnyH_take (i := 6) (v := ?v6) rfl (by kernel_rfl) (by kernel_rfl) (by kernel_rfl) (fun _ _ _ h => h) (Or.inl ⟨by kernel_rfl, ?y6⟩) (by assumption) ?r6
      case y6 => (intro wq hSw; (try dsimp only at hSw); go_simp; (try with_reducible rfl))
      (try simp only [Act.put, List.getElem_toArray, List.getElem_cons_succ, List.getElem_cons_zero, List.setIfInBounds_toArray, List.set_cons_zero, List.set_cons_succ])
      refine wpAnyH_take (i := 7) (v := ?v7) rfl (by kernel_rfl) (by kernel_rfl) (by kernel_rfl) (fun _ _ _ h => h) (Or.inl ⟨by kernel_rfl, ?y7⟩) (by assumption) ?r7
      case y7 => (intro wq hSw; (try dsimp only at hSw); go_simp; (try with_reducible rfl))
      (try simp only [Act.put, List.getElem_toArray, List.getElem_cons_succ, List.getElem_cons_zero, List.setIfInBounds_toArray, List.set_cons_zero, List.set_cons_succ])
      refine wpAnyH_take (i := 8) (v := ?v8) rfl (by kernel_rfl) (by kernel_rfl) (by kernel_rfl) (fun _ _ _ h => h) (Or.inl ⟨by kernel_rfl, ?y8⟩) (by assumption) ?r8
      case y8 => (intro wq hSw; (try dsimp only at hSw); go_simp; (try with_reducible rfl))
      (try simp only [Act.put, List.getElem_toArray, List.getElem_cons_succ, List.getElem_cons_zero, List.setIfInBounds_toArray, List.set_cons_zero, List.set_cons_succ])
      refine wpAnyH_take (i := 9) (v := ?v9) rfl (by kernel_rfl) (by kernel_rfl) (by kernel_rfl) (fun _ _ _ h => h) (Or.inl ⟨by kernel_rfl, ?y9⟩) (by assumption) ?r9
      case y9 => (intro wq hSw; (try dsimp only at hSw); go_simp; (try with_reducible rfl))
      (try simp only [Act.put, List.getElem_toArray, List.getElem_cons_succ, List.getElem_cons_zero, List.setIfInBounds_toArray, List.set_cons_zero, List.set_cons_succ])
      refine wpAnyH_take (i := 10) (v := ?v10) rfl (by kernel_rfl) (by kernel_rfl) (by kernel_rfl) (fun _ _ _ h => h) (Or.inl ⟨by kernel_rfl, ?y10⟩) (by assumption) ?r10
      case y10 => (intro wq hSw; (try dsimp only at hSw); go_simp; (try with_reducible rfl))
      (try simp only [Act.put, List.getElem_toArray, List.getElem_cons_succ, List.getElem_cons_zero, List.setIfInBounds_toArray, List.set_cons_zero, List.set_cons_succ])
      refine wpAnyH_take (i := 11) (v := ?v11) rfl (by kernel_rfl) (by kernel_rfl) (by kernel_rfl) (fun _ _ _ h => h) (Or.inl ⟨by kernel_rfl, ?y11⟩) (by assumption) ?r11
      case y11 => (intro wq hSw; (try dsimp only at hSw); go_simp; (try with_reducible rfl))
      (try simp only [Act.put, List.getElem_toArray, List.getElem_cons_succ, List.getElem_cons_zero, List.setIfInBounds_toArray, List.set_cons_zero, List.set_cons_succ])
      refine wpAnyH_take (i := 12) (v := ?v12) rfl (by kernel_rfl) (by kernel_rfl) (by kernel_rfl) (fun _ _ _ h => h) (Or.inl ⟨by kernel_rfl, ?y12⟩) (by assumption) ?r12
      case y12 => (intro wq hSw; (try dsimp only at hSw); go_simp; (try with_reducible rfl))
      (try simp only [Act.put, List.getElem_toArray, List.getElem_cons_succ, List.getElem_cons_zero, List.setIfInBounds_toArray, List.set_cons_zero, List.set_cons_succ])
      refine wpAnyH_take (i := 13) (v := ?v13) rfl (by kernel_rfl) (by kernel_rfl) (by kernel_rfl) (fun _ _ _ h => h) (Or.inl ⟨by kernel_rfl, ?y13⟩) (by assumption) ?r13
      case y13 => (intro wq hSw; (try dsimp only at hSw); go_simp; (try with_reducible rfl))
      (try simp only [Act.put, List.getElem_toArray, List.getElem_cons_succ, List.getElem_cons_zero, List.setIfInBounds_toArray, List.set_cons_zero, List.set_cons_succ])
      refine wpAnyH_take (i := 14) (v := ?v14) rfl (by kernel_rfl) (by kernel_rfl) (by kernel_rfl) (fun _ _ _ h => h) (Or.inl ⟨by kernel_rfl, ?y14⟩) (by assumption) ?r14
      case y14 => (intro wq hSw; (try dsimp only at hSw); go_simp; (try with_reducible rfl))
      (try simp only [Act.put, List.getElem_toArray, List.getElem_cons_succ, List.getElem_cons_zero, List.setIfInBounds_toArray, List.set_cons_zero, List.set_cons_succ])
      refine wpAnyH_take (i := 15) (v := ?v15) rfl (by kernel_rfl) (by kernel_rfl) (by kernel_rfl) (fun _ _ _ h => h) (Or.inl ⟨by kernel_rfl, ?y15⟩) (by assumption) ?r15
      case y15 => (intro wq hSw; (try dsimp only at hSw); go_simp; (try with_reducible rfl))
      (try simp only [Act.put, List.getElem_toArray, List.getElem_cons_succ, List.getElem_cons_zero, List.setIfInBounds_toArray, List.set_cons_zero, List.set_cons_succ])
      refine wpAnyH_take (i := 16) (v := ?v16) rfl (by kernel_rfl) (by kernel_rfl) (by kernel_rfl) (fun _ _ _ h => h) (Or.inl ⟨by kernel_rfl, ?y16⟩) (by assumption) ?r16
      case y16 => (intro wq hSw; (try dsimp only at hSw); go_simp; (try with_reducible rfl))
      (try simp only [Act.put, List.getElem_toArray, List.getElem_cons_succ, List.getElem_cons_zero, List.setIfInBounds_toArray, List.set_cons_zero, List.set_cons_succ])
      refine wpAnyH_take (i := 17) (v := ?v17) rfl (by kernel_rfl) (by kernel_rfl) (by kernel_rfl) (fun _ _ _ h => h) (Or.inl ⟨by kernel_rfl, ?y17⟩) (by assumption) ?r17
      case y17 => (intro wq hSw; (try dsimp only at hSw); go_simp; (try with_reducible rfl))
      (try simp only [Act.put, List.getElem_toArray, List.getElem_cons_succ, List.getElem_cons_zero, List.setIfInBounds_toArray, List.set_cons_zero, List.set_cons_succ])
      refine wpAnyH_take (i := 18) (v := ?v18) rfl (by kernel_rfl) (by kernel_rfl) (by kernel_rfl) (fun _ _ _ h => h) (Or.inl ⟨by kernel_rfl, ?y18⟩) (by assumption) ?r18
      case y18 => (intro wq hSw; (try dsimp only at hSw); go_simp; (try with_reducible rfl))
      (try simp only [Act.put, List.getElem_toArray, List.getElem_cons_succ, List.getElem_cons_zero, List.setIfInBounds_toArray, List.set_cons_zero, List.set_cons_succ])
      refine wpAnyH_ready (rs := [19]) (by kernel_rfl) (by simp) ?_
      refine AllReadyH.cons rfl (fun K hK => ?_) AllReadyH.nil
      go_simp
      refine hK.out _ _ (by exact ⟨⟨by go_simp, by go_simp⟩, by go_simp, by go_simp⟩) (fun hHeld => ?_)
      clear hK K
      (try simp only [Act.put, List.getElem_toArray, List.getElem_cons_succ, List.getElem_cons_zero, List.setIfInBounds_toArray, List.set_cons_zero, List.set_cons_succ])
      refine wpAnyH_take (i := 20) (v := ?v20) rfl (by kernel_rfl) (by kernel_rfl) (by kernel_rfl) (fun _ _ _ h => h) (Or.inl ⟨by kernel_rfl, ?y20⟩) (by assumption) ?r20
      case y20 => (intro wq hSw; (try dsimp only at hSw); go_simp; (try with_reducible rfl))
      (try simp only [Act.put, List.getElem_toArray, List.getElem_cons_succ, List.getElem_cons_zero, List.setIfInBounds_toArray, List.set_cons_zero, List.set_cons_succ])
      refine wpAnyH_done (by kernel_rfl) ?_ _
      refine NoPanic.normal ?_
      go_wp2_with fail
      refine bodyPost_ret (v := .tuple #[.agg #[.int .i64 (IntKind.i64.wrap (px + d.win.x)), .int .i64 (IntKind.i64.wrap (py + d.win.y))], .bool true]) (by simp [results, Tryz.results51, go_sem, q0, q1]) rfl ?_
      exact ⟨by rw [HX.out, HY.out], (hb4.drew.setCell (Nat.le_refl _) _).setCell (Nat.le_refl _) _⟩
end
end Go.Proofs.YtfdgpbdppenhmaaGreat
end
