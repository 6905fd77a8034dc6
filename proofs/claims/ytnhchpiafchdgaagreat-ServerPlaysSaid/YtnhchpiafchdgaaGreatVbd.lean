/- Texts SuJ SrQ SrR SuT SuU. -/
import Derived.Test.YtnhchpiafchdgaaGreatTav
import Derived.Test.YtnhchpiafchdgaaGreatTas
import Derived.Test.YtnhchpiafchdgaaGreatTbb
import Derived.Test.YtnhchpiafchdgaaGreatTbc
import Derived.Test.YtnhchpiafchdgaaGreatTat
import Derived.Test.YtnhchpiafchdgaaGreatTaa
namespace Go.Proofs.YtnhchpiafchdgaaGreat
open Go.RowKit Go.Shelf Go.Maps
section
variable {w w' w0 : World} {r : Nat} {Z : Zl} {X : Xs} {k : Nat}
abbrev Zl.zero : Zl := ⟨.slice none 0 0, .slice none 0 0, .slice none 0 0, .slice none 0 0⟩
set_option maxRecDepth 100000 in
set_option maxHeartbeats 4000000 in
theorem rnew_c (w : World) (x y a e : Int) :
  Calls Tryz.prog 11 #[.agg #[.int .i64 x, .int .i64 y, .int .i64 a, .int .i64 e]] w fun ex w' => ∃ r, ex = .returned (refP r) ∧ Ref w' r Zl.zero (Xs.start x y a e) ∧ w.heap.size ≤ r ∧ Below w.heap.size w w' := by
 have HN := Lib.hid (fun (W : World) (hW : Below w.heap.size w W) => (show Ref (W.alloc (.cells (refS Zl.zero (Xs.start x y a e)) 59)) W.heap.size Zl.zero (Xs.start x y a e) ∧ w.heap.size ≤ W.heap.size ∧ Below w.heap.size w (W.alloc (.cells (refS Zl.zero (Xs.start x y a e)) 59)) from
  ⟨⟨Blk.new W _ _, OwK.nil _ _, Pp.OwK.nil _ _, OwK.nil _ _, OwK.nil _ _⟩, hW.size, hW.alloc hW.size _⟩))
 go_enter Tryz.func11, Tryz.ntmps11
 go_wp2_with fail
 go_ret
 exact ⟨_, rfl, by
  have h1 := HN.out _ ((Below.refl w.heap.size w).alloc (Nat.le_refl _) (.cells #[.int .i64 x, .int .i64 y, .int .i64 a, .int .i64 e] 23))
  simp only [World.size_alloc] at h1
  exact h1⟩
set_option maxRecDepth 100000 in
set_option maxHeartbeats 4000000 in
theorem rtaken_c (h : Ref w r Z X) :
  Calls Tryz.prog 37 #[refP r] w fun ex w' => ex = .returned Z.ev ∧ OwK encE 71 7 w' 0 Z.ev X.E ∧ RefTo w r Z X.taken.2 w' := by
 obtain ⟨p, c, hev⟩ := h.e.slice
 have b10 := h.blk.at_ (i := 10) (v := Z.ev) rfl
 have f10 := h.blk.frozen 10
 have HZ := Lib.hid (show OwK encE 71 7 (w.setCell ⟨r, 10, none⟩ (.slice none 0 0)) 0 Z.ev X.E ∧ RefTo w r Z X.taken.2 (w.setCell ⟨r, 10, none⟩ (.slice none 0 0)) from
  ⟨row_set h.e (fun b hb => h.ne_row h.e (by decide) hb) _, h.putE (Below.refl _ _) (OwK.nil _ _) (fun b hb => by cases hb)⟩)
 rw [hev] at b10 HZ
 obtain ⟨n, hn⟩ : ∃ n, n = X.E.length := ⟨_, rfl⟩
 have HE := Lib.hid hev
 rw [← hn] at b10
 have HN := Lib.hid hn
 clear h hev hn
 go_enter Tryz.func37, Tryz.ntmps37
 go_wp2_with fail
 go_ret
 exact ⟨by rw [HE.out, ← HN.out]; rfl, by have h1 := HZ.out; rw [HE.out]; exact h1⟩
end
end Go.Proofs.YtnhchpiafchdgaaGreat
namespace Go.Proofs.YtnhchpiafchdgaaGreat
open Go.RowKit Go.Shelf Go.Maps
abbrev p0 : Pp.Pr := ⟨⟨#[]⟩, ⟨#[]⟩, ⟨#[]⟩⟩
def aw0 : Xs := Xs.start 0 0 100 100
def aw1 : Xs := (aw0.do 1 ⟨1, 0, 0, 1, 2, 3, 4, p0⟩).2.2
def aw2 : Xs := (aw1.do 1 ⟨3, 1, 0, 0, 0, 0, 0, p0⟩).2.2
def aw3 : Xs := (aw2.do 2 ⟨5, 1, 0, 0, 0, 1, 1, p0⟩).2.2
theorem aw_a : (aw0.do 1 ⟨1, 0, 0, 1, 2, 3, 4, p0⟩).1 = 1 ∧ (aw0.do 1 ⟨1, 0, 0, 1, 2, 3, 4, p0⟩).2.1 = 0 := by decide +kernel
theorem aw_b : (aw1.do 1 ⟨3, 1, 0, 0, 0, 0, 0, p0⟩).1 = 0 ∧ (aw1.do 1 ⟨3, 1, 0, 0, 0, 0, 0, p0⟩).2.1 = 0 := by decide +kernel
theorem aw_c : (winL aw2.R aw2.L 1).on = false ∧ thereL aw2.R aw2.L 1 = true := by decide +kernel
theorem aw_d : (aw2.do 2 ⟨5, 1, 0, 0, 0, 1, 1, p0⟩).1 = 0 ∧ (aw2.do 2 ⟨5, 1, 0, 0, 0, 1, 1, p0⟩).2.1 = 80 := by decide +kernel
theorem aw_e : aw3.E = [⟨1, 1, 0, 0, 0, 0, ⟨#[]⟩⟩] := by rfl
theorem i64_le {i : Int} (h : -1000000 ≤ i ∧ i ≤ 1000000) : I64 i := ⟨by omega, by omega⟩
theorem aw_V0 : V aw0 0 := V.start 0 0 100 100
theorem aw_V1 : V aw1 1 := V.done aw_V0 (by omega) (i64_le ⟨by decide, by decide⟩) _ (i64_le ⟨by decide, by decide⟩) (i64_le ⟨by decide, by decide⟩)
theorem aw_V2 : V aw2 2 := V.done aw_V1 (by omega) (i64_le ⟨by decide, by decide⟩) _ (i64_le ⟨by decide, by decide⟩) (i64_le ⟨by decide, by decide⟩)
theorem p0_small : p0.name.size ≤ maxLen ∧ p0.typ.size ≤ maxLen := by decide +kernel
abbrev rq10 (kind win other x y a e : Int) : Value := .agg #[.int .i64 kind, .int .i64 win, .int .i64 other, .int .i64 x, .int .i64 y, .int .i64 a, .int .i64 e, .string ⟨#[]⟩, .string ⟨#[]⟩, .string ⟨#[]⟩]
section
variable {w w' : World} {s : Nat} {Y : Yl}
theorem aw_1 (h : Srv w s Y aw0 0) : Calls Tryz.prog 20 #[srvP s, .int .i64 1, rq10 1 0 0 1 2 3 4] w fun ex w' => ex = .returned (.tuple #[.int .i64 1, .int .i64 0]) ∧ SrvTo w s Y aw1 1 w' := by
 have h1 := do_c h aw_V0 (by omega) (a := 1) (i64_le ⟨by decide, by decide⟩) ⟨1, 0, 0, 1, 2, 3, 4, p0⟩ (i64_le ⟨by decide, by decide⟩) (i64_le ⟨by decide, by decide⟩) p0_small.1 p0_small.2
 rw [aw_a.1, aw_a.2] at h1
 exact h1
theorem aw_2 (h : Srv w s Y aw1 1) : Calls Tryz.prog 20 #[srvP s, .int .i64 1, rq10 3 1 0 0 0 0 0] w fun ex w' => ex = .returned (.tuple #[.int .i64 0, .int .i64 0]) ∧ SrvTo w s Y aw2 2 w' := by
 have h1 := do_c h aw_V1 (by omega) (a := 1) (i64_le ⟨by decide, by decide⟩) ⟨3, 1, 0, 0, 0, 0, 0, p0⟩ (i64_le ⟨by decide, by decide⟩) (i64_le ⟨by decide, by decide⟩) p0_small.1 p0_small.2
 rw [aw_b.1, aw_b.2] at h1
 exact h1
theorem aw_3 (h : Srv w s Y aw2 2) : Calls Tryz.prog 20 #[srvP s, .int .i64 2, rq10 5 1 0 0 0 1 1] w fun ex w' => ex = .returned (.tuple #[.int .i64 0, .int .i64 80]) ∧ SrvTo w s Y aw3 3 w' := by
 have h1 := do_c h aw_V2 (by omega) (a := 2) (i64_le ⟨by decide, by decide⟩) ⟨5, 1, 0, 0, 0, 1, 1, p0⟩ (i64_le ⟨by decide, by decide⟩) (i64_le ⟨by decide, by decide⟩) p0_small.1 p0_small.2
 rw [aw_d.1, aw_d.2] at h1
 exact h1
theorem aw_4 (h : Srv w s Y aw2 2) : ∃ a b c d e f : Int, Calls Tryz.prog 21 #[srvP s, .int .i64 1] w fun ex w' => ex = .returned (.tuple #[.agg #[.int .i64 a, .int .i64 b, .int .i64 c, .int .i64 d, .int .i64 e, .int .i64 f, .bool false], .bool true]) ∧ Below w.heap.size w w' := by
 have h1 := sget_c h aw_V2.s (i := 1) (i64_le ⟨by decide, by decide⟩)
 rw [aw_c.2] at h1
 have h2 : winV (winL aw2.R aw2.L 1) = .agg #[.int .i64 (winL aw2.R aw2.L 1).id, .int .i64 (winL aw2.R aw2.L 1).par, .int .i64 (winL aw2.R aw2.L 1).x, .int .i64 (winL aw2.R aw2.L 1).y, .int .i64 (winL aw2.R aw2.L 1).w, .int .i64 (winL aw2.R aw2.L 1).h, .bool false] := by
  show Value.agg #[_, _, _, _, _, _, .bool (winL aw2.R aw2.L 1).on] = _
  rw [aw_c.1]
 rw [h2] at h1
 exact ⟨_, _, _, _, _, _, h1⟩
end
theorem lit_ev (w : World) (v0 v1 v2 v3 v4 v5 : Int) (v6 : ByteArray) : RdE (w.alloc (.cells #[.int .i64 v0, .int .i64 v1, .int .i64 v2, .int .i64 v3, .int .i64 v4, .int .i64 v5, .string v6] 71)) (.slice (some ⟨w.heap.size, 0, none⟩) 1 1) [⟨v0, v1, v2, v3, v4, v5, v6⟩] :=
 ⟨_, 1, rfl, fun j x hx => by
  cases j with
  | zero =>
   simp at hx
   subst hx
   refine ⟨w.heap.size, 0, rfl, by simp, fun i u hu => ?_⟩
   have h := (Blk.new w 71 #[.int .i64 v0, .int .i64 v1, .int .i64 v2, .int .i64 v3, .int .i64 v4, .int .i64 v5, .string v6]).cell i
   rw [show 0 + 0 * 7 + i = i by omega, h]
   simpa [encE] using hu
  | succ j => simp at hx⟩
theorem RdE.next {w w' : World} {v : Value} {l : List Ev} (h : RdE w v l) (hb : Below w.heap.size w w') : RdE w' v l := RdK.below h hb
set_option maxRecDepth 100000 in
set_option maxHeartbeats 8000000 in
theorem awake8_c (w : World) : Calls Tryz.prog 10 #[] w fun e w' => e = .returned (.bool true) ∧ Below w.heap.size w w' := by
 have HBG := Lib.hid (fun W => begun_c W)
 have HR := Lib.hid (fun x y a b W => rect8_c x y a b W)
 go_enter Tryz.func10, Tryz.ntmps10
 go_upto_region 2 with (go_at_call 15; ((with_reducible refine (HBG.out _).mono ?_); rintro e w1 ⟨s, rfl, Y1, S1, B1, F1⟩); have HS1 := Lib.hid (show Srv w1 s Y1 aw0 0 from S1); have HB1 := Lib.hid (And.intro B1 F1); clear S1 B1 F1)
 go_upto_region 6 with (first
  | (go_at_call 16; ((with_reducible refine (HR.out _ _ _ _ _).mono ?_); rintro e w2 ⟨rfl, hb⟩); have HB2 := Lib.hid hb; clear hb)
  | (go_at_call 20; ((with_reducible refine (aw_1 (HS1.out.next HB2.out)).mono ?_); rintro e w3 ⟨rfl, Y2, S2, U2⟩); have HS2 := Lib.hid S2; have HU2 := Lib.hid (U2.after_below HB2.out); clear S2 U2)
  | (go_at_call 20; ((with_reducible refine (aw_2 HS2.out).mono ?_); rintro e w4 ⟨rfl, Y3, S3, U3⟩); have HS3 := Lib.hid S3; have HU3 := Lib.hid (HU2.out.trans U3); clear S3 U3))
 obtain ⟨ga, gb, gc, gd, ge, gf, hG⟩ := aw_4 HS3.out
 have HG := Lib.hid hG
 clear hG
 go_upto_region 7 with (go_at_call 21; ((with_reducible refine (HG.out).mono ?_); rintro e w5 ⟨rfl, hb⟩); have HB5 := Lib.hid hb; clear hb)
 obtain ⟨wc, hwc⟩ : ∃ wc, wc = w5.alloc (.cells #[.int .i64 ga, .int .i64 gb, .int .i64 gc, .int .i64 gd, .int .i64 ge, .int .i64 gf, .bool false] 61) := ⟨_, rfl⟩
 have hx : Blk wc w5.heap.size 61 #[.int .i64 ga, .int .i64 gb, .int .i64 gc, .int .i64 gd, .int .i64 ge, .int .i64 gf, .bool false] := by rw [hwc]; exact Blk.new w5 _ _
 have hb6 : Below w5.heap.size w5 wc := by rw [hwc]; exact (Below.refl _ _).alloc (Nat.le_refl _) _
 rw [← hwc]
 have HX := Lib.hid hx
 have HB6 := Lib.hid (hb6.on HB5.out HB5.out.size)
 have HNF := Lib.hid (show ¬ Y3.foot s w5.heap.size from fun hf => by
  have h1 := (HS3.out.next HB5.out).foot_lt hf
  omega)
 clear hx hb6 hwc
 go_upto_region 8 with (first
  | (go_at_call 16; ((with_reducible refine (HR.out _ _ _ _ _).mono ?_); rintro e w7 ⟨rfl, hb⟩); have HB7 := Lib.hid hb; clear hb)
  | (go_at_call 20; ((with_reducible refine (aw_3 (HS3.out.next (HB7.out.on HB6.out HB6.out.size))).mono ?_); rintro e w8 ⟨rfl, Y4, S4, U4⟩); have c6 := (U4.blk (HX.out.next HB7.out) HNF.out).at_ (i := 6) (v := .bool false) rfl; have HS4 := Lib.hid S4; have HU4 := Lib.hid (HU3.out.trans (U4.after_below (HB7.out.on HB6.out HB6.out.size))); clear S4 U4))
 go_wp2_with (first
  | (go_at_call 24; ((with_reducible refine (events_c HS4.out).mono ?_); rintro e w9 ⟨rfl, ho, Y5, S5, U5⟩); have HO := Lib.hid (OwK.reads encE_len ho); have HU5 := Lib.hid (HU4.out.trans U5); clear ho S5 U5)
  | (go_at_call 27; ((with_reducible refine (evs_same _ _ [⟨1, 1, 0, 0, 0, 0, ⟨#[]⟩⟩] _ (RdE.next (aw_e ▸ HO.out) ((Below.refl _ _).alloc (Nat.le_refl _) _)) (lit_ev _ 1 1 0 0 0 0 ⟨#[]⟩) (by decide)).mono ?_); rintro e w10 ⟨rfl, hb⟩); have HB10 := Lib.hid hb; clear hb))
 go_ret
 refine ⟨rfl, ?_⟩
 have k1 := HU5.out.below HB1.out.1 HB1.out.1.size HB1.out.2
 exact (HB10.out.on ((Below.refl _ _).alloc (Nat.le_refl _) _) (by simp)).on k1 k1.size
end Go.Proofs.YtnhchpiafchdgaaGreat
namespace Go.Proofs.YtnhchpiafchdgaaGreat
open Go.RowKit Go.Shelf Go.Maps
abbrev zeroS : Array Value := #[.pointer none, .pointer none, .map none, .map none, .slice none 0 0, .int .i64 0, .bool false]
structure Sn (w : World) (g tb : Nat) (A : Array Value) (W : World) : Prop where
 box : Blk W g 39 A
 zs : Blk W tb 80 zeroS
 sl : Blk W (tb + 1) 25 #[.pointer none, srvP tb]
 below : Below w.heap.size w W
theorem Sn.next {w W W' : World} {g tb : Nat} {A : Array Value} (h : Sn w g tb A W) (hb : Below W.heap.size W W') : Sn w g tb A W' := ⟨h.box.next hb, h.zs.next hb, h.sl.next hb, hb.on h.below h.below.size⟩
theorem Blk.c11 {w : World} {g : Nat} {t : TypeId} {v0 v1 v2 v3 v4 v5 v6 v7 v8 v9 v10 : Value} (h : Blk w g t #[v0, v1, v2, v3, v4, v5, v6, v7, v8, v9, v10]) :
  w.cell? ⟨g, 0, none⟩ = some v0 ∧ w.cell? ⟨g, 1, none⟩ = some v1 ∧ w.cell? ⟨g, 2, none⟩ = some v2 ∧ w.cell? ⟨g, 3, none⟩ = some v3 ∧ w.cell? ⟨g, 4, none⟩ = some v4 ∧ w.cell? ⟨g, 5, none⟩ = some v5 ∧ w.cell? ⟨g, 6, none⟩ = some v6 ∧ w.cell? ⟨g, 7, none⟩ = some v7 ∧ w.cell? ⟨g, 8, none⟩ = some v8 ∧ w.cell? ⟨g, 9, none⟩ = some v9 ∧ w.cell? ⟨g, 10, none⟩ = some v10 :=
 ⟨h.at_ (i := 0) rfl, h.at_ (i := 1) rfl, h.at_ (i := 2) rfl, h.at_ (i := 3) rfl, h.at_ (i := 4) rfl, h.at_ (i := 5) rfl, h.at_ (i := 6) rfl, h.at_ (i := 7) rfl, h.at_ (i := 8) rfl, h.at_ (i := 9) rfl, h.at_ (i := 10) rfl⟩
end Go.Proofs.YtnhchpiafchdgaaGreat
namespace Go.Proofs.YtnhchpiafchdgaaGreat
open Go.RowKit Go.Shelf Go.Maps
def A8.short (t : A8) : Bool := decide ((t.q.p.name.size : Int) ≤ 200) && decide ((t.q.p.typ.size : Int) ≤ 200)
set_option maxRecDepth 100000 in
theorem short8_c (t : A8) (w : World) : Calls Tryz.prog 12 #[.agg ⟨t.cells⟩] w fun ex w' => ex = .returned (.bool t.short) ∧ Below w.heap.size w w' := by
 obtain ⟨ac, ⟨ki, wi, ot, x, y, a, e, ⟨nm, ty, da⟩⟩⟩ := t
 obtain ⟨wb, hwb⟩ : ∃ wb, wb = w.alloc (.cells #[.int .i64 ac, .int .i64 ki, .int .i64 wi, .int .i64 ot, .int .i64 x, .int .i64 y, .int .i64 a, .int .i64 e, .string nm, .string ty, .string da] 39) := ⟨_, rfl⟩
 have hbel : Below w.heap.size w wb := by rw [hwb]; exact (Below.refl _ _).alloc (Nat.le_refl _) _
 have hbx : Blk wb w.heap.size 39 #[.int .i64 ac, .int .i64 ki, .int .i64 wi, .int .i64 ot, .int .i64 x, .int .i64 y, .int .i64 a, .int .i64 e, .string nm, .string ty, .string da] := by rw [hwb]; exact Blk.new w _ _
 obtain ⟨-, -, -, -, -, -, -, -, x8, x9, -⟩ := hbx.c11
 have HW := Lib.hid hwb
 have HB := Lib.hid hbel
 clear hbx hbel
 unfold A8.short
 show Calls Tryz.prog 12 #[.agg #[.int .i64 ac, .int .i64 ki, .int .i64 wi, .int .i64 ot, .int .i64 x, .int .i64 y, .int .i64 a, .int .i64 e, .string nm, .string ty, .string da]] w fun ex w' => ex = .returned (.bool (decide ((nm.size : Int) ≤ 200) && decide ((ty.size : Int) ≤ 200))) ∧ Below w.heap.size w w'
 by_cases h1 : (nm.size : Int) ≤ 200
 · rw [decide_eq_true h1]
   by_cases h2 : (ty.size : Int) ≤ 200
   · rw [decide_eq_true h2]
     go_enter Tryz.func12, Tryz.ntmps12
     go_upto_region 1 with fail
     rw [← HW.out]
     clear hwb
     go_wp2_with fail
     go_ret
     exact ⟨rfl, HB.out⟩
   · rw [decide_eq_false h2]
     go_enter Tryz.func12, Tryz.ntmps12
     go_upto_region 1 with fail
     rw [← HW.out]
     clear hwb
     go_wp2_with fail
     go_ret
     exact ⟨rfl, HB.out⟩
 · rw [decide_eq_false h1]
   go_enter Tryz.func12, Tryz.ntmps12
   go_upto_region 1 with fail
   rw [← HW.out]
   clear hwb
   go_wp2_with fail
   go_ret
   exact ⟨rfl, HB.out⟩
section
variable {w w' w0 : World} {s r : Nat} {Y : Yl} {Z : Zl} {X X' X1 : Xs} {k k' kd : Nat}
theorem Bm.codeg (h : Bm w0 s r Y Z X X' k w) (hT : SrvTo w s Y X1 k' w') : ∃ Y', Bm w0 s r Y' Z X X1 k' w' := by
 obtain ⟨Y', h1, h2⟩ := hT
 refine ⟨Y', h1, ref_stays h.c h.d (fun b hb => (h.yf b hb).2) h2, ⟨h2.os.trans h.be.os, h2.tape.trans h.be.tape, h2.output.trans h.be.output, Nat.le_trans h.be.size h2.size, fun i hi => (h2.block i (Nat.lt_of_lt_of_le hi h.be.size) fun hf => by have := (h.yf i hf).1; omega).trans (h.be.block i hi)⟩, fun b hb => ?_, h.zf⟩
 rcases h2.foot b hb with h3 | h3
 · exact h.yf b h3
 · exact ⟨Nat.le_trans h.be.size h3, fun hf => by have := h.d.foot_lt hf; omega⟩
theorem Bm.docg (h : Bm w0 s r Y Z X X' k w) (hT : RefTo w r Z X1 w') : ∃ Z', Bm w0 s r Y Z' X1 X' k w' := by
 obtain ⟨Z', h1, h2⟩ := hT
 refine ⟨Z', srv_stays h.c (fun b hb => (h.yf b hb).2) h2, h1, ⟨h2.os.trans h.be.os, h2.tape.trans h.be.tape, h2.output.trans h.be.output, Nat.le_trans h.be.size h2.size, fun i hi => (h2.block i (Nat.lt_of_lt_of_le hi h.be.size) fun hf => by have := h.zf i hf; omega).trans (h.be.block i hi)⟩, fun b hb => ⟨(h.yf b hb).1, fun hf => ?_⟩, fun b hb => ?_⟩
 · rcases h2.foot b hf with h3 | h3
   · exact (h.yf b hb).2 h3
   · have := h.c.foot_lt hb
     omega
 · rcases h2.foot b hb with h3 | h3
   · exact h.zf b h3
   · exact Nat.le_trans h.be.size h3
theorem Bm.more (h : Bm w0 s r Y Z X X' k w) (hk : k ≤ k') : Bm w0 s r Y Z X X' k' w := by
 exact ⟨h.c.more hk, h.d, h.be, h.yf, h.zf⟩
def Xs.act (X : Xs) (t : A8) : Xs := if t.q.kind = 20 then (if X.G = true then X.stopC else X) else if t.q.kind = 21 then { X with G := true } else if t.q.kind = 22 then { X with E := [] } else (X.do t.actor t.q).2.2
theorem V.act (h : V X k) (hk : k + 1 ≤ 1000) {t : A8} (ht : t.ok) : V (X.act t) (k + 1) := by
 unfold Xs.act
 split
 · split
   · exact h.toV0.stopC.le (Nat.le_succ k) hk
   · exact h.le (Nat.le_succ k) hk
 · split
   · exact V.le ⟨h.toV0.manage true, h.foc⟩ (Nat.le_succ k) hk
   · split
     · exact V.le ⟨h.toV0.events, h.foc⟩ (Nat.le_succ k) hk
     · exact h.done hk ht.actor t.q ht.win ht.other
def Dn (w0 : World) (s r : Nat) (X X' : Xs) (k : Nat) (t : A8) (w' : World) : Prop := ∃ Y' Z', Bm w0 s r Y' Z' (X.act t) (X'.act t) (k + 1) w'
set_option maxRecDepth 100000 in
set_option maxHeartbeats 8000000 in
theorem does_stop (h : Bm w0 s r Y Z X X' k w) (hV : V0 X' k) (hD : V0 X kd) (t : A8) (ht : t.q.kind = 20) :
   Calls Tryz.prog 13 #[srvP s, refP r, .agg ⟨t.cells⟩] w fun ex w' => ∃ b, ex = .returned (.bool b) ∧ (X = X' → b = true) ∧ Dn w0 s r X X' k t w' := by
 obtain ⟨ac, ⟨ki, wi, ot, x, y, a, e, ⟨nm, ty, da⟩⟩⟩ := t
 dsimp only at ht
 subst ht
 obtain ⟨wb, hwb⟩ : ∃ wb, wb = w.alloc (.cells #[.int .i64 ac, .int .i64 20, .int .i64 wi, .int .i64 ot, .int .i64 x, .int .i64 y, .int .i64 a, .int .i64 e, .string nm, .string ty, .string da] 39) := ⟨_, rfl⟩
 have hbel : Below w.heap.size w wb := by rw [hwb]; exact (Below.refl _ _).alloc (Nat.le_refl _) _
 have hbx : Blk wb w.heap.size 39 #[.int .i64 ac, .int .i64 20, .int .i64 wi, .int .i64 ot, .int .i64 x, .int .i64 y, .int .i64 a, .int .i64 e, .string nm, .string ty, .string da] := by rw [hwb]; exact Blk.new w _ _
 obtain ⟨x0, x1, x2, x3, x4, x5, x6, x7, x8, x9, x10⟩ := hbx.c11
 have HW := Lib.hid hwb
 have hs := h.next hbel
 show Calls Tryz.prog 13 #[srvP s, refP r, .agg #[.int .i64 ac, .int .i64 20, .int .i64 wi, .int .i64 ot, .int .i64 x, .int .i64 y, .int .i64 a, .int .i64 e, .string nm, .string ty, .string da]] w _
 obtain ⟨n1, e1⟩ : ∃ n : Int, n = (if X'.G = true then 0 else 8) := ⟨_, rfl⟩
 obtain ⟨n2, e2⟩ : ∃ n : Int, n = (if X.G = true then 0 else 8) := ⟨_, rfl⟩
 have hc := stop_c hs.c hV
 rw [← e1] at hc
 have hd := fun (Y : Yl) (W : World) (hB : Bm w0 s r Y Z X (if X'.G = true then X'.stopC else X') k W) => rstop_c hB.d hD hD.mlen
 rw [← e2] at hd
 have HC := Lib.hid hc
 have HD := Lib.hid hd
 have HS := Lib.hid hs
 have HE := Lib.hid (And.intro e1 e2)
 clear hbx hbel h hs hc hd e1 e2 hV hD
 go_enter Tryz.func13, Tryz.ntmps13
 go_upto_region 1 with fail
 rw [← HW.out]
 clear hwb
 go_wp2_with (first
   | (go_at_call 31; ((with_reducible refine (HC.out).mono ?_); rintro ex w1 ⟨rfl, hT⟩); have H1 := Lib.hid (HS.out.codeg hT); clear hT; obtain ⟨Y1, h1⟩ := H1.out; have HB1 := Lib.hid h1; clear h1)
   | (go_at_call 36; ((with_reducible refine (HD.out _ _ HB1.out).mono ?_); rintro ex w2 ⟨rfl, hT⟩); have H2 := Lib.hid (HB1.out.docg hT); clear hT))
 go_ret
 obtain ⟨Z2, h2⟩ := H2.out
 refine ⟨_, rfl, fun e => ?_, Y1, Z2, ?_⟩
 · obtain ⟨e1, e2⟩ := HE.out
   rw [e1, e2, e]
   simp
 · exact h2.more (Nat.le_succ k)
theorem box_stays {g : Nat} {cs : Array Value} {Y : Yl} (h : Srv w s Y X k) (hg : Blk w g 39 cs) (hT : SrvTo w s Y X1 k' w') : Blk w' g 39 cs := by
 obtain ⟨Y', -, h2⟩ := hT
 exact (h2.block g hg.lt (srv_ne h hg (by decide) (by decide) (by decide) (by decide) (by decide) (by decide))).trans hg
set_option maxRecDepth 100000 in
set_option maxHeartbeats 8000000 in
theorem does_start (h : Bm w0 s r Y Z X X' k w) (t : A8) (ht : t.q.kind = 21) :
  Calls Tryz.prog 13 #[srvP s, refP r, .agg ⟨t.cells⟩] w fun ex w' => ∃ b, ex = .returned (.bool b) ∧ (X = X' → b = true) ∧ Dn w0 s r X X' k t w' := by
 obtain ⟨ac, ⟨ki, wi, ot, x, y, a, e, ⟨nm, ty, da⟩⟩⟩ := t
 dsimp only at ht
 subst ht
 obtain ⟨wb, hwb⟩ : ∃ wb, wb = w.alloc (.cells #[.int .i64 ac, .int .i64 21, .int .i64 wi, .int .i64 ot, .int .i64 x, .int .i64 y, .int .i64 a, .int .i64 e, .string nm, .string ty, .string da] 39) := ⟨_, rfl⟩
 have hbel : Below w.heap.size w wb := by rw [hwb]; exact (Below.refl _ _).alloc (Nat.le_refl _) _
 have hbx : Blk wb w.heap.size 39 #[.int .i64 ac, .int .i64 21, .int .i64 wi, .int .i64 ot, .int .i64 x, .int .i64 y, .int .i64 a, .int .i64 e, .string nm, .string ty, .string da] := by rw [hwb]; exact Blk.new w _ _
 obtain ⟨x0, x1, x2, x3, x4, x5, x6, x7, x8, x9, x10⟩ := hbx.c11
 have HW := Lib.hid hwb
 have hs := h.next hbel
 show Calls Tryz.prog 13 #[srvP s, refP r, .agg #[.int .i64 ac, .int .i64 21, .int .i64 wi, .int .i64 ot, .int .i64 x, .int .i64 y, .int .i64 a, .int .i64 e, .string nm, .string ty, .string da]] w _
 obtain ⟨n1, e1⟩ : ∃ n : Int, n = (if X'.G = true then 8 else 0) := ⟨_, rfl⟩
 obtain ⟨Z2, h2⟩ := hs.docg (hs.d.cell 9 (.bool true) (X' := { X with G := true }) rfl rfl rfl rfl rfl)
 have hc := start_c h2.c
 rw [← e1] at hc
 have HC := Lib.hid hc
 have H2 := Lib.hid h2
 have HE := Lib.hid e1
 obtain ⟨-, -, -, -, -, -, -, -, -, b9, -⟩ := hs.d.blk.at11
 have f9 := hs.d.blk.frozen 9
 clear hbx hbel h hs hc e1 h2
 obtain ⟨g, hg⟩ : ∃ g, g = X.G := ⟨_, rfl⟩
 rw [← hg] at b9
 have HG := Lib.hid hg
 clear hg
 cases g with
 | true =>
  go_enter Tryz.func13, Tryz.ntmps13
  go_upto_region 1 with fail
  rw [← HW.out]
  clear hwb
  go_wp2_with ((go_at_call 32; ((with_reducible refine (HC.out).mono ?_); rintro ex w1 ⟨rfl, hT⟩); have H1 := Lib.hid (H2.out.codeg hT); clear hT))
  go_ret
  obtain ⟨Y1, h1⟩ := H1.out
  refine ⟨_, rfl, fun e => ?_, Y1, Z2, ?_⟩
  · rw [HE.out, ← e, ← HG.out]
    simp
  · exact h1.more (Nat.le_succ k)
 | false =>
  go_enter Tryz.func13, Tryz.ntmps13
  go_upto_region 1 with fail
  rw [← HW.out]
  clear hwb
  go_wp2_with ((go_at_call 32; ((with_reducible refine (HC.out).mono ?_); rintro ex w1 ⟨rfl, hT⟩); have H1 := Lib.hid (H2.out.codeg hT); clear hT))
  go_ret
  obtain ⟨Y1, h1⟩ := H1.out
  refine ⟨_, rfl, fun e => ?_, Y1, Z2, ?_⟩
  · rw [HE.out, ← e, ← HG.out]
    simp
  · exact h1.more (Nat.le_succ k)
theorem evs_any (p p' : Option Addr) (n n' c c' : Nat) (a a' : List Ev) (w : World) (hn : n = a.length) (hn' : n' = a'.length) (ha : RdE w (.slice p n c) a) (hb : RdE w (.slice p' n' c') a') (hE : a' = a ∨ a' = []) (hla : a.length ≤ 1048576) :
   Calls Tryz.prog 27 #[.slice p n c, .slice p' n' c'] w fun e w' => (∃ b, e = .returned (.bool b) ∧ (a' = a → b = true)) ∧ Below w.heap.size w w' := by
 subst hn hn'
 by_cases h : a' = a
 · subst h
   exact (evs_same _ _ a' w ha hb hla).mono fun e w' h => ⟨⟨true, h.1, fun _ => rfl⟩, h.2⟩
 · have h' : a' = [] := hE.resolve_left h
   subst h'
   exact (evs_len p p' a.length ([] : List Ev).length c c' w (fun e => h (List.length_eq_zero_iff.1 e).symm)).mono fun e w' h1 => ⟨⟨false, h1.1, fun e => absurd e h⟩, h1.2⟩
theorem events_c' (h : Srv w s Y X k) : Calls Tryz.prog 24 #[srvP s] w fun ex w' => ∃ p c, ex = .returned (.slice p X.E.length c) ∧ Y.wv = .slice p X.E.length c ∧ OwK encE 71 7 w' 0 Y.wv X.E ∧ SrvTo w s Y { X with E := [] } k w' :=
 (events_c h).mono fun ex w' hh => by
  obtain ⟨p, c, e⟩ := hh.2.1.slice
  exact ⟨p, c, by rw [hh.1, e], e, hh.2⟩
theorem rtaken_c' (h : Ref w r Z X) : Calls Tryz.prog 37 #[refP r] w fun ex w' => ∃ p c, ex = .returned (.slice p X.E.length c) ∧ OwK encE 71 7 w' 0 (.slice p X.E.length c) X.E ∧ RefTo w r Z { X with E := [] } w' :=
 (rtaken_c h).mono fun ex w' hh => by
  obtain ⟨p, c, e⟩ := hh.2.1.slice
  exact ⟨p, c, by rw [hh.1, e], e ▸ hh.2.1, hh.2.2⟩
set_option maxRecDepth 100000 in
set_option maxHeartbeats 8000000 in
theorem does_events (h : Bm w0 s r Y Z X X' k w) (hV : V0 X' k) (hE : X.E = X'.E ∨ X.E = []) (t : A8) (ht : t.q.kind = 22) :
  Calls Tryz.prog 13 #[srvP s, refP r, .agg ⟨t.cells⟩] w fun ex w' => ∃ b, ex = .returned (.bool b) ∧ (X = X' → b = true) ∧ Dn w0 s r X X' k t w' := by
 obtain ⟨ac, ⟨ki, wi, ot, x, y, a, e, ⟨nm, ty, da⟩⟩⟩ := t
 dsimp only at ht
 subst ht
 obtain ⟨wb, hwb⟩ : ∃ wb, wb = w.alloc (.cells #[.int .i64 ac, .int .i64 22, .int .i64 wi, .int .i64 ot, .int .i64 x, .int .i64 y, .int .i64 a, .int .i64 e, .string nm, .string ty, .string da] 39) := ⟨_, rfl⟩
 have hbel : Below w.heap.size w wb := by rw [hwb]; exact (Below.refl _ _).alloc (Nat.le_refl _) _
 have hbx : Blk wb w.heap.size 39 #[.int .i64 ac, .int .i64 22, .int .i64 wi, .int .i64 ot, .int .i64 x, .int .i64 y, .int .i64 a, .int .i64 e, .string nm, .string ty, .string da] := by rw [hwb]; exact Blk.new w _ _
 obtain ⟨x0, x1, x2, x3, x4, x5, x6, x7, x8, x9, x10⟩ := hbx.c11
 have HW := Lib.hid hwb
 have hs := h.next hbel
 show Calls Tryz.prog 13 #[srvP s, refP r, .agg #[.int .i64 ac, .int .i64 22, .int .i64 wi, .int .i64 ot, .int .i64 x, .int .i64 y, .int .i64 a, .int .i64 e, .string nm, .string ty, .string da]] w _
 have hl : X'.E.length ≤ 1048576 := Nat.le_trans hV.ev (by decide)
 have hc : Calls Tryz.prog 24 #[srvP s] wb fun ex w' => ∃ p c, ex = .returned (.slice p X'.E.length c) ∧ RdE w' (.slice p X'.E.length c) X'.E ∧ (∃ Y1, Bm w0 s r Y1 Z X { X' with E := [] } k w') ∧ ∀ Z1 X1 w2, Ref w' r Z X → RefTo w' r Z1 X1 w2 → Z1.foot r = Z.foot r → RdE w2 (.slice p X'.E.length c) X'.E :=
  (events_c' hs.c).mono fun ex w1 ⟨p, c, h1, h2, h3, h4⟩ => by
   refine ⟨p, c, h1, ?_, hs.codeg h4, fun Z1 X1 w2 hR hT hf => ?_⟩
   · rw [← h2]
     exact OwK.reads (fun _ => rfl) h3
   · obtain ⟨Z2, -, hT⟩ := hT
     rw [← h2]
     refine OwK.reads (fun _ => rfl) (row_kept h3 fun b hb => hT.block b ?_ ?_)
     · obtain ⟨cs, hcs⟩ := ok_block h3 hb
       exact hcs.lt
     · rw [hf]
       exact (hs.yf b (.inr (.inr (.inr (.inr (.inr hb)))))).2
 obtain ⟨n1, e1⟩ : ∃ n, n = X'.E.length := ⟨_, rfl⟩
 obtain ⟨n2, e2⟩ : ∃ n, n = X.E.length := ⟨_, rfl⟩
 rw [← e1] at hc
 have hd := fun (Y : Yl) (W : World) (hB : Bm w0 s r Y Z X { X' with E := [] } k W) => rtaken_c' hB.d
 rw [← e2] at hd
 have HC := Lib.hid hc
 have HD := Lib.hid hd
 have HE := Lib.hid (And.intro e1 (And.intro e2 (And.intro hE hl)))
 clear hbx hbel h hs hc hd e1 e2 hV hE hl
 go_enter Tryz.func13, Tryz.ntmps13
 go_upto_region 1 with fail
 rw [← HW.out]
 clear hwb
 go_wp2_with (first
  | (go_at_call 24; ((with_reducible refine (HC.out).mono ?_); rintro ex w1 ⟨p1, c1, rfl, hR, hT, hK⟩); obtain ⟨Y1, h1⟩ := hT; have HB1 := Lib.hid h1; have HK := Lib.hid hK; clear h1 hR hK)
  | (go_at_call 37; ((with_reducible refine (HD.out _ _ HB1.out).mono ?_); rintro ex w2 ⟨p2, c2, rfl, hR, hT⟩); have HR1 := Lib.hid (HK.out _ _ _ HB1.out.d hT rfl); have HR2 := Lib.hid (show RdE w2 (.slice p2 n2 c2) X.E from OwK.reads (fun _ => rfl) hR); have H2 := Lib.hid (HB1.out.docg hT); clear hT hR)
  | (go_at_call 27; ((with_reducible refine (evs_any _ _ _ _ _ _ _ _ _ HE.out.1 HE.out.2.1 HR1.out HR2.out HE.out.2.2.1 HE.out.2.2.2).mono ?_); rintro ex w3 ⟨⟨b, rfl, hb⟩, hW⟩); have HF := Lib.hid (And.intro hb hW); clear hb hW))
 go_ret
 obtain ⟨Z2, h2⟩ := H2.out
 obtain ⟨hb, hW⟩ := HF.out
 refine ⟨_, rfl, fun e => hb (by rw [e]), Y1, Z2, ?_⟩
 exact (h2.next hW).more (Nat.le_succ k)
set_option maxRecDepth 100000 in
set_option maxHeartbeats 8000000 in
theorem does_do (h : Bm w0 s r Y Z X X' k w) (hV : V X' k) (hk : k + 1 ≤ 1000) (hD : V0 X kd) (hkd : kd + 1 ≤ 1000) (t : A8) (ht : t.ok) (h20 : ¬ t.q.kind = 20) (h21 : ¬ t.q.kind = 21) (h22 : ¬ t.q.kind = 22) :
   Calls Tryz.prog 13 #[srvP s, refP r, .agg ⟨t.cells⟩] w fun ex w' => ∃ b, ex = .returned (.bool b) ∧ (X = X' → b = true) ∧ Dn w0 s r X X' k t w' := by
 have ea : ∀ W, (∃ Y' Z', Bm w0 s r Y' Z' (X.do t.actor t.q).2.2 (X'.do t.actor t.q).2.2 (k + 1) W) → Dn w0 s r X X' k t W := fun W hh => by
   unfold Dn Xs.act
   rw [if_neg h20, if_neg h21, if_neg h22, if_neg h20, if_neg h21, if_neg h22]
   exact hh
 obtain ⟨ac, q⟩ := t
 have hc0 := fun (W : World) (hB : Bm w0 s r Y Z X X' k W) => do_c hB.c hV hk ht.actor q ht.win ht.other ht.name ht.typ
 have hd0 := fun (Y : Yl) (W : World) (hB : Bm w0 s r Y Z X (X'.do ac q).2.2 (k + 1) W) => rdo_c hB.d hD hD.mlen hkd ac q ht.win ht.other ht.name ht.typ
 obtain ⟨n1, e1⟩ : ∃ n : Int, n = (X'.do ac q).1 := ⟨_, rfl⟩
 obtain ⟨n2, e2⟩ : ∃ n : Int, n = (X.do ac q).1 := ⟨_, rfl⟩
 obtain ⟨m1, e3⟩ : ∃ n : Int, n = (X'.do ac q).2.1 := ⟨_, rfl⟩
 obtain ⟨m2, e4⟩ : ∃ n : Int, n = (X.do ac q).2.1 := ⟨_, rfl⟩
 dsimp only at hc0 hd0 ea h20 h21 h22
 rw [← e1, ← e3] at hc0
 rw [← e2, ← e4] at hd0
 have HE := Lib.hid (And.intro (And.intro e1 e2) (And.intro e3 e4))
 have HA := Lib.hid ea
 obtain ⟨X1, ex1⟩ : ∃ X1, X1 = (X'.do ac q).2.2 := ⟨_, rfl⟩
 obtain ⟨X2, ex2⟩ : ∃ X2, X2 = (X.do ac q).2.2 := ⟨_, rfl⟩
 rw [← ex1] at hc0 hd0
 rw [← ex2] at hd0
 have HX := Lib.hid (And.intro ex1 ex2)
 clear e1 e2 e3 e4 ea ex1 ex2 hV hD ht
 obtain ⟨ki, wi, ot, x, y, a, e, ⟨nm, ty, da⟩⟩ := q
 dsimp only at h20 h21 h22
 obtain ⟨wb, hwb⟩ : ∃ wb, wb = w.alloc (.cells #[.int .i64 ac, .int .i64 ki, .int .i64 wi, .int .i64 ot, .int .i64 x, .int .i64 y, .int .i64 a, .int .i64 e, .string nm, .string ty, .string da] 39) := ⟨_, rfl⟩
 have hbel : Below w.heap.size w wb := by rw [hwb]; exact (Below.refl _ _).alloc (Nat.le_refl _) _
 have hbx : Blk wb w.heap.size 39 #[.int .i64 ac, .int .i64 ki, .int .i64 wi, .int .i64 ot, .int .i64 x, .int .i64 y, .int .i64 a, .int .i64 e, .string nm, .string ty, .string da] := by rw [hwb]; exact Blk.new w _ _
 obtain ⟨x0, x1, x2, x3, x4, x5, x6, x7, x8, x9, x10⟩ := hbx.c11
 have HW := Lib.hid hwb
 have hs := h.next hbel
 show Calls Tryz.prog 13 #[srvP s, refP r, .agg #[.int .i64 ac, .int .i64 ki, .int .i64 wi, .int .i64 ot, .int .i64 x, .int .i64 y, .int .i64 a, .int .i64 e, .string nm, .string ty, .string da]] w _
 have HC := Lib.hid (show Calls Tryz.prog 20 #[srvP s, .int .i64 ac, .agg #[.int .i64 ki, .int .i64 wi, .int .i64 ot, .int .i64 x, .int .i64 y, .int .i64 a, .int .i64 e, .string nm, .string ty, .string da]] wb _ from hc0 wb hs)
 have HD := Lib.hid (show ∀ (Y : Yl) (W : World) (hB : Bm w0 s r Y Z X X1 (k + 1) W), Calls Tryz.prog 38 #[refP r, .int .i64 ac, .agg #[.int .i64 ki, .int .i64 wi, .int .i64 ot, .int .i64 x, .int .i64 y, .int .i64 a, .int .i64 e, .string nm, .string ty, .string da]] W _ from hd0)
 have HS := Lib.hid (And.intro hs hbx)
 clear hbx hbel h hs hc0 hd0
 have HF := fun (W : World) (hx : Blk W w.heap.size 39 #[.int .i64 ac, .int .i64 ki, .int .i64 wi, .int .i64 ot, .int .i64 x, .int .i64 y, .int .i64 a, .int .i64 e, .string nm, .string ty, .string da]) => hx.c11
 by_cases hn : n1 = n2
 · go_enter Tryz.func13, Tryz.ntmps13
   go_upto_region 1 with fail
   rw [← HW.out]
   clear hwb
   go_wp2_with (first
     | (go_at_call 20; ((with_reducible refine (HC.out).mono ?_); rintro ex w1 ⟨rfl, hT⟩); obtain ⟨Y1, h1⟩ := HS.out.1.codeg hT; have HB1 := Lib.hid h1; have hy := HF _ (box_stays HS.out.1.c HS.out.2 hT); clear h1 hT; obtain ⟨y0, y1, y2, y3, y4, y5, y6, y7, y8, y9, y10⟩ := hy)
     | (go_at_call 38; ((with_reducible refine (HD.out _ _ HB1.out).mono ?_); rintro ex w2 ⟨rfl, hT⟩); have H2 := Lib.hid (HB1.out.docg hT); clear hT))
   go_ret
   obtain ⟨Z2, h2⟩ := H2.out
   refine ⟨_, rfl, fun e => ?_, HA.out _ ⟨Y1, Z2, ?_⟩⟩
   · obtain ⟨⟨e1, e2⟩, e3, e4⟩ := HE.out
     rw [e3, e4, e]
     simp
   · rw [← HX.out.1, ← HX.out.2]
     exact h2
 · go_enter Tryz.func13, Tryz.ntmps13
   go_upto_region 1 with fail
   rw [← HW.out]
   clear hwb
   go_wp2_with (first
     | (go_at_call 20; ((with_reducible refine (HC.out).mono ?_); rintro ex w1 ⟨rfl, hT⟩); obtain ⟨Y1, h1⟩ := HS.out.1.codeg hT; have HB1 := Lib.hid h1; have hy := HF _ (box_stays HS.out.1.c HS.out.2 hT); clear h1 hT; obtain ⟨y0, y1, y2, y3, y4, y5, y6, y7, y8, y9, y10⟩ := hy)
     | (go_at_call 38; ((with_reducible refine (HD.out _ _ HB1.out).mono ?_); rintro ex w2 ⟨rfl, hT⟩); have H2 := Lib.hid (HB1.out.docg hT); clear hT))
   go_ret
   obtain ⟨Z2, h2⟩ := H2.out
   refine ⟨_, rfl, fun e => ?_, HA.out _ ⟨Y1, Z2, ?_⟩⟩
   · obtain ⟨⟨e1, e2⟩, e3, e4⟩ := HE.out
     exact absurd (by rw [e1, e2, e]) hn
   · rw [← HX.out.1, ← HX.out.2]
     exact h2
theorem does8_c (h : Bm w0 s r Y Z X X' k w) (hV : V X' k) (hk : k + 1 ≤ 1000) (hD : V0 X kd) (hkd : kd + 1 ≤ 1000) (hE : X.E = X'.E ∨ X.E = []) (t : A8) (ht : t.ok) :
   Calls Tryz.prog 13 #[srvP s, refP r, .agg ⟨t.cells⟩] w fun ex w' => ∃ b, ex = .returned (.bool b) ∧ (X = X' → b = true) ∧ Dn w0 s r X X' k t w' := by
 by_cases h20 : t.q.kind = 20
 · exact does_stop h hV.toV0 hD t h20
 · by_cases h21 : t.q.kind = 21
   · exact does_start h t h21
   · by_cases h22 : t.q.kind = 22
     · exact does_events h hV.toV0 hE t h22
     · exact does_do h hV hk hD hkd t ht h20 h21 h22
end
end Go.Proofs.YtnhchpiafchdgaaGreat
namespace Go.Proofs.YtnhchpiafchdgaaGreat
open Go.RowKit Go.Shelf Go.Maps
section
variable {w w' w0 w1 w2 w3 : World} {s r : Nat} {Y : Yl} {Z : Zl} {X X' X1 : Xs} {k k' kd : Nat}
theorem bm_begin (h : SrvNew w s X k w1) (hb : Below w1.heap.size w1 w2) (hR : Ref w3 r Zl.zero X1) (hr : w2.heap.size ≤ r) (hb3 : Below w2.heap.size w2 w3) : ∃ Y Z, Bm w s r Y Z X1 X k w3 := by
 obtain ⟨Y, h1, h2, h3⟩ := h
 have hb2 := hb.on h2 h2.size
 refine ⟨Y, Zl.zero, (h1.next hb).next hb3, hR, hb3.on hb2 hb2.size, fun b hb' => ⟨h3 b hb', fun hf => ?_⟩, fun b hf => ?_⟩
 · have := h1.foot_lt hb'
   have := hb.size
   rcases hf with hf | hf
   · omega
   · cases hf
 · have := hb2.size
   rcases hf with hf | hf
   · omega
   · cases hf
def FlS (w0 : World) (s r : Nat) (k : Nat) (wr : World) : Prop := ∃ X Y Z, V X k ∧ Bm w0 s r Y Z X X k wr
end
end Go.Proofs.YtnhchpiafchdgaaGreat
