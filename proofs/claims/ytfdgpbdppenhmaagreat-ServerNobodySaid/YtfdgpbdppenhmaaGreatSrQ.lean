/- The chapter's example, walked. -/
import Derived.Test.YtfdgpbdppenhmaaGreatSrP
namespace Go.Proofs.YtfdgpbdppenhmaaGreat
open Go.RowKit Go.Shelf Go.Maps
abbrev p0 : Pp.Pr := ⟨⟨#[]⟩, ⟨#[]⟩, ⟨#[]⟩⟩
def aw0 : Xs := Xs.start 0 0 100 100
def aw1 : Xs := (aw0.do 1 ⟨1, 0, 0, 1, 2, 3, 4, p0⟩).2.2
def aw2 : Xs := (aw1.do 1 ⟨3, 1, 0, 0, 0, 0, 0, p0⟩).2.2
def aw3 : Xs := (aw2.do 2 ⟨5, 1, 0, 0, 0, 1, 1, p0⟩).2.2
theorem aw_a : (aw0.do 1 ⟨1, 0, 0, 1, 2, 3, 4, p0⟩).1 = 1 ∧ (aw0.do 1 ⟨1, 0, 0, 1, 2, 3, 4, p0⟩).2.1 = 0 := by decide +kernel
theorem aw_b : (aw1.do 1 ⟨3, 1, 0, 0, 0, 0, 0, p0⟩).1 = 0 ∧ (aw1.do 1 ⟨3, 1, 0, 0, 0, 0, 0, p0⟩).2.1 = 0 := by decide +kernel
theorem aw_c : (winL aw2.R aw2.L 1).on = false ∧ thereL aw2.R aw2.L 1 = true := by decide +kernel
theorem aw_d : (aw2.do 2 ⟨5, 1, 0, 0, 0, 1, 1, p0⟩).1 = 0 ∧ (aw2.do 2 ⟨5, 1, 0, 0, 0, 1, 1, p0⟩).2.1 = 80 := by decide +kernel
theorem aw_e : aw3.E = [⟨1, 1, 0, 0, 0, 0, ⟨#[]⟩⟩] := by rfl
theorem i64_le {i : Int} (h : -1000000 ≤ i ∧ i ≤ 1000000) : I64 i := ⟨by omega, by omega⟩
theorem aw_V0 : V aw0 0 := V.start 0 0 100 100
theorem aw_V1 : V aw1 1 := V.done aw_V0 (by omega) (i64_le ⟨by decide, by decide⟩) _ (i64_le ⟨by decide, by decide⟩) (i64_le ⟨by decide, by decide⟩)
theorem aw_V2 : V aw2 2 := V.done aw_V1 (by omega) (i64_le ⟨by decide, by decide⟩) _ (i64_le ⟨by decide, by decide⟩) (i64_le ⟨by decide, by decide⟩)
theorem aw_V3 : V aw3 3 := V.done aw_V2 (by omega) (i64_le ⟨by decide, by decide⟩) _ (i64_le ⟨by decide, by decide⟩) (i64_le ⟨by decide, by decide⟩)
theorem p0_small : p0.name.size ≤ maxLen ∧ p0.typ.size ≤ maxLen := by decide +kernel
abbrev rq10 (kind win other x y a e : Int) : Value := .agg #[.int .i64 kind, .int .i64 win, .int .i64 other, .int .i64 x, .int .i64 y, .int .i64 a, .int .i64 e, .string ⟨#[]⟩, .string ⟨#[]⟩, .string ⟨#[]⟩]
section
variable {w w' : World} {s : Nat} {Y : Yl}
theorem aw_1 (h : Srv w s Y aw0 0) : Calls Tryz.prog 20 #[srvP s, .int .i64 1, rq10 1 0 0 1 2 3 4] w fun ex w' => ex = .returned (.tuple #[.int .i64 1, .int .i64 0]) ∧ SrvTo w s Y aw1 1 w' := by
  have h1 := do_c h aw_V0 (by omega) (a := 1) (i64_le ⟨by decide, by decide⟩) ⟨1, 0, 0, 1, 2, 3, 4, p0⟩ (i64_le ⟨by decide, by decide⟩) (i64_le ⟨by decide, by decide⟩) p0_small.1 p0_small.2
  rw [aw_a.1, aw_a.2] at h1
  exact h1
theorem aw_2 (h : Srv w s Y aw1 1) : Calls Tryz.prog 20 #[srvP s, .int .i64 1, rq10 3 1 0 0 0 0 0] w fun ex w' => ex = .returned (.tuple #[.int .i64 0, .int .i64 0]) ∧ SrvTo w s Y aw2 2 w' := by
  have h1 := do_c h aw_V1 (by omega) (a := 1) (i64_le ⟨by decide, by decide⟩) ⟨3, 1, 0, 0, 0, 0, 0, p0⟩ (i64_le ⟨by decide, by decide⟩) (i64_le ⟨by decide, by decide⟩) p0_small.1 p0_small.2
  rw [aw_b.1, aw_b.2] at h1
  exact h1
theorem aw_3 (h : Srv w s Y aw2 2) : Calls Tryz.prog 20 #[srvP s, .int .i64 2, rq10 5 1 0 0 0 1 1] w fun ex w' => ex = .returned (.tuple #[.int .i64 0, .int .i64 80]) ∧ SrvTo w s Y aw3 3 w' := by
  have h1 := do_c h aw_V2 (by omega) (a := 2) (i64_le ⟨by decide, by decide⟩) ⟨5, 1, 0, 0, 0, 1, 1, p0⟩ (i64_le ⟨by decide, by decide⟩) (i64_le ⟨by decide, by decide⟩) p0_small.1 p0_small.2
  rw [aw_d.1, aw_d.2] at h1
  exact h1
theorem aw_4 (h : Srv w s Y aw2 2) : ∃ a b c d e f : Int, Calls Tryz.prog 21 #[srvP s, .int .i64 1] w fun ex w' => ex = .returned (.tuple #[.agg #[.int .i64 a, .int .i64 b, .int .i64 c, .int .i64 d, .int .i64 e, .int .i64 f, .bool false], .bool true]) ∧ Below w.heap.size w w' := by
  have h1 := sget_c h aw_V2.s (i := 1) (i64_le ⟨by decide, by decide⟩)
  rw [aw_c.2] at h1
  have h2 : winV (winL aw2.R aw2.L 1) = .agg #[.int .i64 (winL aw2.R aw2.L 1).id, .int .i64 (winL aw2.R aw2.L 1).par, .int .i64 (winL aw2.R aw2.L 1).x, .int .i64 (winL aw2.R aw2.L 1).y, .int .i64 (winL aw2.R aw2.L 1).w, .int .i64 (winL aw2.R aw2.L 1).h, .bool false] := by
    show Value.agg #[_, _, _, _, _, _, .bool (winL aw2.R aw2.L 1).on] = _
    rw [aw_c.1]
  rw [h2] at h1
  exact ⟨_, _, _, _, _, _, h1⟩
end
theorem lit_ev (w : World) (v0 v1 v2 v3 v4 v5 : Int) (v6 : ByteArray) : RdE (w.alloc (.cells #[.int .i64 v0, .int .i64 v1, .int .i64 v2, .int .i64 v3, .int .i64 v4, .int .i64 v5, .string v6] 71)) (.slice (some ⟨w.heap.size, 0, none⟩) 1 1) [⟨v0, v1, v2, v3, v4, v5, v6⟩] :=
  ⟨_, 1, rfl, fun j x hx => by
    cases j with
    | zero =>
      simp at hx
      subst hx
      refine ⟨w.heap.size, 0, rfl, by simp, fun i u hu => ?_⟩
      have h := (Blk.new w 71 #[.int .i64 v0, .int .i64 v1, .int .i64 v2, .int .i64 v3, .int .i64 v4, .int .i64 v5, .string v6]).cell i
      rw [show 0 + 0 * 7 + i = i by omega, h]
      simpa [encE] using hu
    | succ j => simp at hx⟩
theorem RdE.next {w w' : World} {v : Value} {l : List Ev} (h : RdE w v l) (hb : Below w.heap.size w w') : RdE w' v l := RdK.below h hb
set_option maxRecDepth 100000 in
set_option maxHeartbeats 8000000 in
theorem awake8_c (w : World) : Calls Tryz.prog 10 #[] w fun e w' => e = .returned (.bool true) ∧ Below w.heap.size w w' := by
  have HBG := Lib.hid (fun W => begun_c W)
  have HR := Lib.hid (fun x y a b W => rect8_c x y a b W)
  go_enter Tryz.func10, Tryz.ntmps10
  go_upto_region 2 with (go_at_call 15; ((with_reducible refine (HBG.out _).mono ?_); rintro e w1 ⟨s, rfl, Y1, S1, B1, F1⟩); have HS1 := Lib.hid (show Srv w1 s Y1 aw0 0 from S1); have HB1 := Lib.hid (And.intro B1 F1); clear S1 B1 F1)
  go_upto_region 6 with (first
    | (go_at_call 16; ((with_reducible refine (HR.out _ _ _ _ _).mono ?_); rintro e w2 ⟨rfl, hb⟩); have HB2 := Lib.hid hb; clear hb)
    | (go_at_call 20; ((with_reducible refine (aw_1 (HS1.out.next HB2.out)).mono ?_); rintro e w3 ⟨rfl, Y2, S2, U2⟩); have HS2 := Lib.hid S2; have HU2 := Lib.hid (U2.after_below HB2.out); clear S2 U2)
    | (go_at_call 20; ((with_reducible refine (aw_2 HS2.out).mono ?_); rintro e w4 ⟨rfl, Y3, S3, U3⟩); have HS3 := Lib.hid S3; have HU3 := Lib.hid (HU2.out.trans U3); clear S3 U3))
  obtain ⟨ga, gb, gc, gd, ge, gf, hG⟩ := aw_4 HS3.out
  have HG := Lib.hid hG
  clear hG
  go_upto_region 7 with (go_at_call 21; ((with_reducible refine (HG.out).mono ?_); rintro e w5 ⟨rfl, hb⟩); have HB5 := Lib.hid hb; clear hb)
  obtain ⟨wc, hwc⟩ : ∃ wc, wc = w5.alloc (.cells #[.int .i64 ga, .int .i64 gb, .int .i64 gc, .int .i64 gd, .int .i64 ge, .int .i64 gf, .bool false] 61) := ⟨_, rfl⟩
  have hx : Blk wc w5.heap.size 61 #[.int .i64 ga, .int .i64 gb, .int .i64 gc, .int .i64 gd, .int .i64 ge, .int .i64 gf, .bool false] := by rw [hwc]; exact Blk.new w5 _ _
  have hb6 : Below w5.heap.size w5 wc := by rw [hwc]; exact (Below.refl _ _).alloc (Nat.le_refl _) _
  rw [← hwc]
  have HX := Lib.hid hx
  have HB6 := Lib.hid (hb6.on HB5.out HB5.out.size)
  have HNF := Lib.hid (show ¬ Y3.foot s w5.heap.size from fun hf => by
    have h1 := (HS3.out.next HB5.out).foot_lt hf
    omega)
  clear hx hb6 hwc
  go_upto_region 8 with (first
    | (go_at_call 16; ((with_reducible refine (HR.out _ _ _ _ _).mono ?_); rintro e w7 ⟨rfl, hb⟩); have HB7 := Lib.hid hb; clear hb)
    | (go_at_call 20; ((with_reducible refine (aw_3 (HS3.out.next (HB7.out.on HB6.out HB6.out.size))).mono ?_); rintro e w8 ⟨rfl, Y4, S4, U4⟩); have c6 := (U4.blk (HX.out.next HB7.out) HNF.out).at_ (i := 6) (v := .bool false) rfl; have HS4 := Lib.hid S4; have HU4 := Lib.hid (HU3.out.trans (U4.after_below (HB7.out.on HB6.out HB6.out.size))); clear S4 U4))
  go_wp2_with (first
    | (go_at_call 24; ((with_reducible refine (events_c HS4.out).mono ?_); rintro e w9 ⟨rfl, ho, Y5, S5, U5⟩); have HO := Lib.hid (OwK.reads encE_len ho); have HU5 := Lib.hid (HU4.out.trans U5); clear ho S5 U5)
    | (go_at_call 27; ((with_reducible refine (evs_same _ _ [⟨1, 1, 0, 0, 0, 0, ⟨#[]⟩⟩] _ (RdE.next (aw_e ▸ HO.out) ((Below.refl _ _).alloc (Nat.le_refl _) _)) (lit_ev _ 1 1 0 0 0 0 ⟨#[]⟩) (by decide)).mono ?_); rintro e w10 ⟨rfl, hb⟩); have HB10 := Lib.hid hb; clear hb))
  go_ret
  refine ⟨rfl, ?_⟩
  have k1 := HU5.out.below HB1.out.1 HB1.out.1.size HB1.out.2
  exact (HB10.out.on ((Below.refl _ _).alloc (Nat.le_refl _) _) (by simp)).on k1 k1.size
end Go.Proofs.YtfdgpbdppenhmaaGreat
