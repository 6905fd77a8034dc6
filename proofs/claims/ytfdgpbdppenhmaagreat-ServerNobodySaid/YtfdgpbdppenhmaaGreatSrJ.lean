/- A display's calls that write, walked: setProp, foreign, askManager. -/
import Derived.Test.YtfdgpbdppenhmaaGreatSrI
namespace Go.Proofs.YtfdgpbdppenhmaaGreat
open Go.RowKit Go.Shelf Go.Maps
def Xs.setp (X : Xs) (actor i : Int) (p : Pp.Pr) : Xs :=
  let X' : Xs := if Pp.eH X.H i p = 0 then { X with H := Pp.sH X.H i p } else X
  if Pp.eH X.H i p = 0 ∧ actor ≠ 0 then X'.tell ⟨5, i, 0, 0, 0, 0, p.name⟩ else X'
section
variable {w w' : World} {s : Nat} {Y : Yl} {X : Xs} {k m : Nat}
theorem Srv.table_to (h : Srv w s Y X k) (hk : k ≤ m) {l' : Pp.Tl} {H' : List Pp.Hd} (ht : l'.t = Y.tl.t) (h1 : Pp.TT w' l' H' m) (h2 : Turn Y.tl.foot l'.foot w w') : SrvTo w s Y { X with H := H' } m w' := by
  obtain ⟨col, h⟩ := h
  obtain ⟨h3, h4⟩ := h.tabled hk h1 h2
  refine ⟨_, ⟨paintC w col 2, ?_⟩, h4⟩
  have e : srvA Y X = srvA { Y with tl := l' } { X with H := H' } := by
    show #[treeP Y.t, Pp.tabP Y.tl.t, .map (some Y.mp), .map (some Y.sp), Y.wv, .int .i64 X.F, .bool X.G] = #[treeP Y.t, Pp.tabP l'.t, .map (some Y.mp), .map (some Y.sp), Y.wv, .int .i64 X.F, .bool X.G]
    rw [ht]
  rw [← e]
  exact h3
theorem eH_name {H : List Pp.Hd} {i : Int} {p : Pp.Pr} (h : Pp.eH H i p = 0) : p.name.size ≤ 32 := by
  unfold Pp.eH Pp.setE at h
  split at h
  · next hb => exact Pp.nameB_size hb.1
  · omega
theorem sH_same {H : List Pp.Hd} {i : Int} {p : Pp.Pr} (h : Pp.eH H i p ≠ 0) : Pp.sH H i p = H := by
  unfold Pp.sH Pp.setR
  rw [if_neg]
  exact h
set_option maxRecDepth 100000 in
set_option maxHeartbeats 4000000 in
theorem setprop_c (h : Srv w s Y X k) (hV : V0 X k) (hk : k + 1 ≤ 1000) {a i : Int} (ha : 0 ≤ a) (hi : I64 i) (p : Pp.Pr) (z1 : p.name.size ≤ maxLen) (z2 : p.typ.size ≤ maxLen) :
    Calls Tryz.prog 95 #[srvP s, .int .i64 a, .int .i64 i, Pp.prV p] w fun ex w' => ex = .returned (.int .i64 (Pp.eH X.H i p)) ∧ SrvTo w s Y (X.setp a i p) (k + 1) w' := by
  obtain ⟨wb, hwb⟩ : ∃ wb, wb = w.alloc (.cells #[.string p.name, .string p.typ, .string p.data] 35) := ⟨_, rfl⟩
  have hbel : Below w.heap.size w wb := by rw [hwb]; exact (Below.refl _ _).alloc (Nat.le_refl _) _
  have hbx : Blk wb w.heap.size 35 #[.string p.name, .string p.typ, .string p.data] := by rw [hwb]; exact Blk.new w _ _
  have hs := h.next hbel
  obtain ⟨⟨-, b1, -, -, -, -, -⟩, -⟩ := hs.blk.c7
  obtain ⟨⟨x0, x1, x2⟩, -⟩ := hbx.c3
  have HW := Lib.hid hwb
  have HB := Lib.hid hbel
  obtain ⟨X1, hX1⟩ : ∃ X1 : Xs, X1 = { X with H := Pp.sH X.H i p } := ⟨_, rfl⟩
  obtain ⟨err, herr⟩ : ∃ err, err = Pp.eH X.H i p := ⟨_, rfl⟩
  have HC := Lib.hid (fun (W : World) (hW : Below wb.heap.size wb W) => (show Calls Tryz.prog 119 #[Pp.tabP Y.tl.t, .int .i64 i, Pp.prV p] W fun ex w' => ex = .returned (.int .i64 err) ∧ Blk w' w.heap.size 35 #[.string p.name, .string p.typ, .string p.data] ∧ ∃ Y1, Srv w' s Y1 X1 (k + 1) ∧ Turn (Y.foot s) (Y1.foot s) w w' from by
    rw [herr]
    refine (Pp.tt_set (hs.next hW).tab hV.h (by omega) hi p z1 z2).mono fun ex w' hh => ?_
    obtain ⟨h1, l', h2, h3, h4⟩ := hh
    have h5 := (hs.next hW).table_to (Nat.le_succ k) h2 h3 h4
    obtain ⟨Y1, h6, h7⟩ := h5
    refine ⟨h1, h7.blk (hbx.next hW) (fun hf => ?_), Y1, by rw [hX1]; exact h6, h7.after_below (hW.on hbel hbel.size)⟩
    have := h.foot_lt hf
    omega))
  have hE : X1.E.length ≤ 4096 := by rw [hX1]; exact hV.ev
  have HE := Lib.hid hE
  by_cases he : err = 0
  · subst he
    have hnm := eH_name herr.symm
    by_cases h0 : a = 0
    · subst h0
      have HX := Lib.hid (show X.setp 0 i p = X1 by unfold Xs.setp; rw [← herr]; simp [hX1])
      rw [← herr]
      clear h hV hs hbx hbel hX1 hE herr hnm
      go_enter Tryz.func95, Tryz.ntmps95
      go_upto_region 1 with fail
      rw [← HW.out]
      clear hwb
      go_region_law (go_simp; (go_at_call 119; ((with_reducible refine (HC.out _ (Below.refl _ _).drew).mono ?_); rintro ex w1 ⟨rfl, hx1, Y1, S1, U1⟩); have HS := Lib.hid (And.intro S1 U1); clear S1 U1 hx1))
      all_goals (go_wp2_with (go_at_call 67; ((with_reducible refine (client_c _ _).mono ?_); rintro e w2 ⟨rfl, rfl⟩)))
      all_goals go_ret
      all_goals exact ⟨rfl, by rw [HX.out]; exact ⟨_, HS.out.1, HS.out.2⟩⟩
    · have HX := Lib.hid (show X.setp a i p = X1.tell ⟨5, i, 0, 0, 0, 0, p.name⟩ by unfold Xs.setp; rw [← herr]; simp [hX1, h0])
      have hpos : (0 : Int) < a := by omega
      rw [← herr]
      have HN := Lib.hid (show p.name.size ≤ 281474976710656 by omega)
      clear h hV hs hbx hbel hX1 hE herr hnm h0 ha
      go_enter Tryz.func95, Tryz.ntmps95
      go_upto_region 1 with fail
      rw [← HW.out]
      clear hwb
      go_region_law (go_simp; (go_at_call 119; ((with_reducible refine (HC.out _ (Below.refl _ _).drew).mono ?_); rintro ex w1 ⟨rfl, hx1, Y1, S1, U1⟩); have HS := Lib.hid (And.intro S1 U1); clear S1 U1; obtain ⟨⟨y0, y1, y2⟩, -⟩ := hx1.c3; clear hx1))
      all_goals (go_wp2_with (first
        | (go_at_call 67; ((with_reducible refine (client_c _ _).mono ?_); rintro e w2 ⟨rfl, rfl⟩))
        | (go_at_call 99; ((with_reducible refine (Pp.strclone_c _ _ HN.out).mono ?_); rintro e w2 ⟨rfl, hb⟩); have HS2 := Lib.hid (And.intro (HS.out.1.next hb) (HS.out.2.then_below hb)); clear hb)
        | (go_at_call 110; ((with_reducible refine (tell_c HS2.out.1 HE.out ⟨5, i, 0, 0, 0, 0, p.name⟩).mono ?_); rintro e w3 ⟨rfl, T3⟩); have HT := Lib.hid (SrvTo.trans HS2.out.2 T3); clear T3)))
      all_goals go_ret
      all_goals exact ⟨rfl, by rw [HX.out]; exact HT.out⟩
  · have he' : (err == 0) = false := by simpa using he
    have HX := Lib.hid (show X.setp a i p = X1 by
      have hne : Pp.eH X.H i p ≠ 0 := by rw [← herr]; exact he
      unfold Xs.setp; simp only [if_neg hne, if_neg (fun hh : Pp.eH X.H i p = 0 ∧ a ≠ 0 => hne hh.1), hX1, sH_same hne])
    rw [← herr]
    clear h hV hs hbx hbel hX1 hE herr he
    go_enter Tryz.func95, Tryz.ntmps95
    go_upto_region 1 with fail
    rw [← HW.out]
    clear hwb
    go_region_law (go_simp; (go_at_call 119; ((with_reducible refine (HC.out _ (Below.refl _ _).drew).mono ?_); rintro ex w1 ⟨rfl, hx1, Y1, S1, U1⟩); have HS := Lib.hid (And.intro S1 U1); clear S1 U1 hx1))
    all_goals (go_wp2_with (go_at_call 67; ((with_reducible refine (client_c _ _).mono ?_); rintro e w2 ⟨rfl, rfl⟩)))
    all_goals go_ret
    all_goals exact ⟨rfl, by rw [HX.out]; exact ⟨_, HS.out.1, HS.out.2⟩⟩
end
end Go.Proofs.YtfdgpbdppenhmaaGreat
