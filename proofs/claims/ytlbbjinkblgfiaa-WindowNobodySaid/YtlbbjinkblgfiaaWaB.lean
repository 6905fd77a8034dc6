/- The chapter's example, walked. -/
import Derived.Test.YtlbbjinkblgfiaaWaA
namespace Go.Proofs.Ytlbbjinkblgfiaa
open Go.RowKit Go.Shelf Go.Maps
theorem rect_w (x y a e : Int) (w : World) : Calls Try.prog 33 #[.int .i64 x, .int .i64 y, .int .i64 a, .int .i64 e] w fun ex w' => ex = .returned (.agg #[.int .i64 x, .int .i64 y, .int .i64 a, .int .i64 e]) ∧ Below w.heap.size w w' := by
  go_enter Try.func33, Try.ntmps33
  go_wp2_with fail
  refine bodyPost_ret (v := .agg #[.int .i64 x, .int .i64 y, .int .i64 a, .int .i64 e]) (by simp [results, Try.results33, go_sem]) rfl ?_
  exact ⟨rfl, (Below.refl _ w).alloc (Nat.le_refl _) _⟩
theorem begun_w {x y a b : Int} (w : World) (hr : emptyB x y a b = false) : Calls Try.prog 32 #[.agg #[.int .i64 x, .int .i64 y, .int .i64 a, .int .i64 b]] w fun e w' => ∃ t, e = .returned (treeP t) ∧ Wst w t (nd0 x y a b) 0 1 w' := by
  obtain ⟨wb, hwb⟩ : ∃ wb, wb = w.alloc (.cells #[.int .i64 x, .int .i64 y, .int .i64 a, .int .i64 b] 23) := ⟨_, rfl⟩
  have hbel : Below w.heap.size w wb := by rw [hwb]; exact (Below.refl _ _).alloc (Nat.le_refl _) _
  have hbx : Blk wb w.heap.size 23 #[.int .i64 x, .int .i64 y, .int .i64 a, .int .i64 b] := by rw [hwb]; exact Blk.new w _ _
  obtain ⟨⟨x0, x1, x2, x3⟩, -⟩ := hbx.c4
  have HN := Lib.hid (new_c wb hr)
  have HB := Lib.hid hbel
  have HW := Lib.hid hwb
  clear hr hbel hbx
  go_enter Try.func32, Try.ntmps32
  go_upto_region 1 with fail
  rw [← HW.out]
  clear hwb
  go_wp2_with (go_at_call 9; ((with_reducible refine (HN.out).mono ?_); rintro e w1 ⟨t, rfl, hT⟩); have HT := Lib.hid hT; clear hT)
  go_ret
  obtain ⟨l, _, h1, h2, h3⟩ := HT.out
  exact ⟨_, rfl, l, h1, h2.on HB.out HB.out.size, fun b hb => Nat.le_trans HB.out.size (h3 b hb)⟩
theorem point_kept {w w' : World} {x y : Int} (hb : Below (w.alloc (.cells #[.int .i64 x, .int .i64 y] 26)).heap.size (w.alloc (.cells #[.int .i64 x, .int .i64 y] 26)) w') : Blk w' w.heap.size 26 #[.int .i64 x, .int .i64 y] := (Blk.new w _ _).next hb
theorem Wst.alloc {w0 wx : World} {t : Nat} {nd : Int → Option Nd} {made : Int} {cnt : Nat} (h : Wst w0 t nd made cnt wx) (o : Obj) : Wst w0 t nd made cnt (wx.alloc o) := h.next ((Below.refl _ _).alloc (Nat.le_refl _) o)
theorem awk0_fresh : nd0 0 0 100 100 (0 + 1) = none := rfl
theorem awk1_fresh : awk1 (0 + 1 + 1) = none := rfl
theorem nd0_kids (x y a e : Int) : ∀ j dj, nd0 x y a e j = some dj → dj.kids.length ≤ 4096 := by
  intro j dj h
  unfold nd0 upd at h
  split at h
  · injection h with h; subst h; exact Nat.zero_le _
  · cases h
theorem awk1_kids : ∀ j dj, awk1 j = some dj → dj.kids.length ≤ 4096 := by
  intro i d h
  rw [awk1_is] at h
  split at h
  · injection h with h; subst h; decide
  · split at h
    · injection h with h; subst h; decide
    · cases h
set_option maxRecDepth 100000 in
set_option maxHeartbeats 8000000 in
theorem awake_c (w : World) : Calls Try.prog 11 #[] w fun e w' => e = .returned (.bool true) ∧ Below w.heap.size w w' := by
  have HBG := Lib.hid (fun W => begun_w (x := 0) (y := 0) (a := 100) (b := 100) W (by decide))
  have HR1 := Lib.hid (fun W => rect_w 0 0 100 100 W)
  have HR2 := Lib.hid (fun W => rect_w 10 10 50 50 W)
  have HR3 := Lib.hid (fun W => rect_w 5 5 50 50 W)
  have HC1 := Lib.hid (fun (w0 wx : World) (t : Nat) (h : Wst w0 t (nd0 0 0 100 100) 0 1 wx) => (show Calls Try.prog 26 #[treeP t, .int .i64 0, .agg #[.int .i64 10, .int .i64 10, .int .i64 50, .int .i64 50]] wx fun ex w' => ex = .returned (.tuple #[.int .i64 1, .int .i64 0]) ∧ Wst w0 t awk1 1 2 w' from
    h.create (d0 := rootNd 0 0 100 100) (q := 0) (x := 10) (y := 10) (a := 50) (e := 50) (dq := rootNd 0 0 100 100) rfl i64_0 (by decide) (by decide) awk0_fresh (by decide) (nd0_kids _ _ _ _) rfl (by decide)))
  have HC2 := Lib.hid (fun (w0 wx : World) (t : Nat) (h : Wst w0 t awk1 1 2 wx) => (show Calls Try.prog 26 #[treeP t, .int .i64 1, .agg #[.int .i64 5, .int .i64 5, .int .i64 50, .int .i64 50]] wx fun ex w' => ex = .returned (.tuple #[.int .i64 2, .int .i64 0]) ∧ Wst w0 t awk2 2 3 w' from
    h.create (d0 := ⟨⟨0, -1, 0, 0, 100, 100, true⟩, [1]⟩) (q := 1) (x := 5) (y := 5) (a := 50) (e := 50) (dq := ⟨⟨1, 0, 10, 10, 50, 50, false⟩, []⟩) rfl ⟨by decide, by decide⟩ (by decide) (by decide) awk1_fresh (by decide) awk1_kids rfl (by decide)))
  have HM1 := Lib.hid (fun (w0 wx : World) (t : Nat) (h : Wst w0 t awk2 2 3 wx) => (show Calls Try.prog 29 #[treeP t, .int .i64 1, .bool true] wx fun ex w' => ex = .returned (.int .i64 0) ∧ Wst w0 t awk3 2 3 w' from
    h.map (d0 := ⟨⟨0, -1, 0, 0, 100, 100, true⟩, [1]⟩) (i := 1) (d := ⟨⟨1, 0, 10, 10, 50, 50, false⟩, [2]⟩) rfl ⟨by decide, by decide⟩ rfl (by decide) true))
  have HM2 := Lib.hid (fun (w0 wx : World) (t : Nat) (h : Wst w0 t awk3 2 3 wx) => (show Calls Try.prog 29 #[treeP t, .int .i64 2, .bool true] wx fun ex w' => ex = .returned (.int .i64 0) ∧ Wst w0 t awk4 2 3 w' from
    h.map (d0 := ⟨⟨0, -1, 0, 0, 100, 100, true⟩, [1]⟩) (i := 2) (d := ⟨⟨2, 1, 5, 5, 50, 50, false⟩, []⟩) rfl ⟨by decide, by decide⟩ rfl (by decide) true))
  have HAB := Lib.hid (fun (w0 wx : World) (t : Nat) (h : Wst w0 t awk4 2 3 wx) => (show Calls Try.prog 22 #[treeP t, .int .i64 2] wx fun ex w' => ex = .returned (.tuple #[.agg #[.int .i64 15, .int .i64 15], .bool true]) ∧ Below wx.heap.size wx w' from
    h.abs awk4_wide awk4_way2))
  have HU1 := Lib.hid (fun (w0 wx : World) (t : Nat) (h : Wst w0 t awk4 2 3 wx) => (show Calls Try.prog 15 #[treeP t, .agg #[.int .i64 20, .int .i64 20]] wx fun ex w' => ex = .returned (.tuple #[.int .i64 2, .bool true]) ∧ Below wx.heap.size wx w' from
    (h.under awk4_wide awk4_kids (d := ⟨⟨0, -1, 0, 0, 100, 100, true⟩, [1]⟩) rfl awk4_tall).mono fun e w' ⟨he, hb⟩ => ⟨by rw [he, if_pos (by decide), awk4_see1], hb⟩))
  have HU2 := Lib.hid (fun (w0 wx : World) (t : Nat) (h : Wst w0 t awk4 2 3 wx) => (show Calls Try.prog 15 #[treeP t, .agg #[.int .i64 12, .int .i64 12]] wx fun ex w' => ex = .returned (.tuple #[.int .i64 1, .bool true]) ∧ Below wx.heap.size wx w' from
    (h.under awk4_wide awk4_kids (d := ⟨⟨0, -1, 0, 0, 100, 100, true⟩, [1]⟩) rfl awk4_tall).mono fun e w' ⟨he, hb⟩ => ⟨by rw [he, if_pos (by decide), awk4_see2], hb⟩))
  have HU3 := Lib.hid (fun (w0 wx : World) (t : Nat) (h : Wst w0 t awk4 2 3 wx) => (show Calls Try.prog 15 #[treeP t, .agg #[.int .i64 61, .int .i64 61]] wx fun ex w' => ex = .returned (.tuple #[.int .i64 0, .bool true]) ∧ Below wx.heap.size wx w' from
    (h.under awk4_wide awk4_kids (d := ⟨⟨0, -1, 0, 0, 100, 100, true⟩, [1]⟩) rfl awk4_tall).mono fun e w' ⟨he, hb⟩ => ⟨by rw [he, if_pos (by decide), awk4_see3], hb⟩))
  have HRP := Lib.hid (fun (w0 wx : World) (t : Nat) (h : Wst w0 t awk4 2 3 wx) => (show Calls Try.prog 21 #[treeP t, .int .i64 1, .int .i64 2, .agg #[.int .i64 15, .int .i64 15]] wx fun ex w' => ex = .returned (.int .i64 61) ∧ Below wx.heap.size wx w' from by
    obtain ⟨l, h1, h2, h3⟩ := h
    obtain ⟨b0, hb0⟩ := h1.block (i := 0) (d := ⟨⟨0, -1, 0, 0, 100, 100, true⟩, [1]⟩) rfl
    obtain ⟨b1, hb1⟩ := h1.block (i := 1) (d := ⟨⟨1, 0, 10, 10, 50, 50, true⟩, [2]⟩) rfl
    obtain ⟨b2, hb2⟩ := h1.block (i := 2) (d := ⟨⟨2, 1, 5, 5, 50, 50, true⟩, []⟩) rfl
    refine (repar_c h1 awk4_wide hb0 (i := 1) (q := 2) (x := 15) (y := 15) ⟨by decide, by decide⟩ ⟨by decide, by decide⟩ hb1 (d := ⟨⟨1, 0, 10, 10, 50, 50, true⟩, [2]⟩) rfl (by decide) hb0 (dp := ⟨⟨0, -1, 0, 0, 100, 100, true⟩, [1]⟩) rfl (by decide) i64_0 awk4_kids 2 (.inr awk4_way2)).mono ?_
    intro e w' hR
    unfold ReparR at hR
    rw [if_neg (by rw [hb2]; simp), if_pos (by decide)] at hR
    exact hR))
  go_enter Try.func11, Try.ntmps11
  go_wp2_with (first
    | (go_at_call 33; first | ((with_reducible refine (HR1.out _).mono ?_); rintro e wr1 ⟨rfl, hb1⟩; have HB1 := Lib.hid hb1; clear hb1 HR1) | ((with_reducible refine (HR2.out _).mono ?_); rintro e wr2 ⟨rfl, hb2⟩; have T2 := Lib.hid (T1.out.next hb2); clear hb2 HR2) | ((with_reducible refine (HR3.out _).mono ?_); rintro e wr3 ⟨rfl, hb3⟩; have T4 := Lib.hid (T3.out.next hb3); clear hb3 HR3))
    | (go_at_call 32; ((with_reducible refine (HBG.out _).mono ?_); rintro e wt1 ⟨t, rfl, hT⟩); have T1 := Lib.hid hT; clear hT)
    | (go_at_call 26; first | ((with_reducible refine (HC1.out _ _ _ T2.out).mono ?_); rintro e wt3 ⟨rfl, hT⟩; have T3 := Lib.hid hT; clear hT HC1) | ((with_reducible refine (HC2.out _ _ _ T4.out).mono ?_); rintro e wt5 ⟨rfl, hT⟩; have T5 := Lib.hid hT; clear hT HC2))
    | (go_at_call 29; first | ((with_reducible refine (HM1.out _ _ _ T5.out).mono ?_); rintro e wt6 ⟨rfl, hT⟩; have T6 := Lib.hid hT; clear hT HM1) | ((with_reducible refine (HM2.out _ _ _ T6.out).mono ?_); rintro e wt7 ⟨rfl, hT⟩; have T7 := Lib.hid hT; clear hT HM2))
    | (go_at_call 22; ((with_reducible refine (HAB.out _ _ _ T7.out).mono ?_); rintro e wt8 ⟨rfl, hb8⟩); have T8 := Lib.hid (T7.out.next hb8); clear hb8)
    | (go_at_call 15; first
      | ((with_reducible refine (HU1.out _ _ _ (T8.out.alloc _)).mono ?_); rintro e wt9 ⟨rfl, hb9⟩; have T9 := Lib.hid ((T8.out.alloc _).next hb9); have P9 := Lib.hid (point_kept hb9); clear hb9 HU1)
      | ((with_reducible refine (HU2.out _ _ _ T9.out).mono ?_); rintro e wt10 ⟨rfl, hb10⟩; have T10 := Lib.hid (T9.out.next hb10); have P10 := Lib.hid (P9.out.next hb10); clear hb10 HU2)
      | ((with_reducible refine (HU3.out _ _ _ T10.out).mono ?_); rintro e wt11 ⟨rfl, hb11⟩; have T11 := Lib.hid (T10.out.next hb11); obtain ⟨p0, p1⟩ := (P10.out.next hb11).c2.1; clear hb11 HU3))
    | (go_at_call 21; ((with_reducible refine (HRP.out _ _ _ T11.out).mono ?_); rintro e wt12 ⟨rfl, hb12⟩); have T12 := Lib.hid (T11.out.next hb12); clear hb12))
  go_ret
  exact ⟨rfl, T12.out.below.on HB1.out HB1.out.size⟩
end Go.Proofs.Ytlbbjinkblgfiaa
