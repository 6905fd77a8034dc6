/- Texts SwB. -/
import Derived.Test.YtnhchpiafchdgaaGreatVbe
import Derived.Test.YtnhchpiafchdgaaGreatTaa
namespace Go.Proofs.YtnhchpiafchdgaaGreat
open Go.RowKit Go.Shelf Go.Maps
section
variable {w w' w0 w1 w2 w3 : World} {s r : Nat} {Y : Yl} {Z : Zl} {X X' X1 : Xs} {k k' kd : Nat}
theorem kids_len (h : Sane X.R X.L k) (i : Int) : (kidsL X.L i).length ≤ 1048576 := by
 have h1 := h.len
 have h2 := h.most
 have h3 : (kidsL X.L i).length ≤ X.L.length := by
  unfold kidsL
  rw [List.length_map]
  exact List.length_filter_le _ _
 omega
set_option maxRecDepth 100000 in
set_option maxHeartbeats 16000000 in
theorem shows8_c (h : Bm w0 s r Y Z X X k w) (hV : V X k) {i : Int} (hi : I64 i) {nm : ByteArray} (hn : nm.size ≤ maxLen) :
   Calls Tryz.prog 14 #[srvP s, refP r, .int .i64 i, .string nm] w fun e w' => e = .returned (.bool true) ∧ Below w.heap.size w w' := by
 have hS := shows_all hV.s hi
 obtain ⟨pl, cl, hlv, -⟩ := RO.rd h.d.l
 obtain ⟨pp, cp, hpv, -⟩ := Pp.OH.rd h.d.p
 have hks := kids_len hV.s i
 have hML : X.M.length ≤ 1048576 := Nat.le_trans hV.toV0.mlen (by decide)
 have hHL : X.H.length ≤ 1048576 := Nat.le_trans hV.hl (Nat.le_trans hV.s.most (by decide))
 obtain ⟨n, hnn⟩ : ∃ n, n = X.L.length := ⟨_, rfl⟩
 obtain ⟨m, hmm⟩ : ∃ m, m = X.H.length := ⟨_, rfl⟩
 rw [← hnn] at hlv
 rw [← hmm] at hpv
 have hY := fun (W : World) (hW : Below w.heap.size w W) => (show W.cell? ⟨r, 0, none⟩ = some (.int .i64 X.R.x) ∧ W.cell? ⟨r, 1, none⟩ = some (.int .i64 X.R.y) ∧ W.cell? ⟨r, 2, none⟩ = some (.int .i64 X.R.w) ∧ W.cell? ⟨r, 3, none⟩ = some (.int .i64 X.R.h) ∧ W.cell? ⟨r, 4, none⟩ = some (.int .i64 X.R.last) ∧ W.cell? ⟨r, 5, none⟩ = some (.slice pl n cl) ∧ W.cell? ⟨r, 6, none⟩ = some (.slice pp m cp) ∧ W.cell? ⟨r, 8, none⟩ = some (.int .i64 X.F) from by
   obtain ⟨b0, b1, b2, b3, b4, b5, b6, -, b8, -, -⟩ := (h.next hW).d.blk.at11
   rw [hlv] at b5
   rw [hpv] at b6
   exact ⟨b0, b1, b2, b3, b4, b5, b6, b8⟩)
 have gc := fun (W : World) (hW : Below w.heap.size w W) => sget_c (h.next hW).c hV.s hi
 have gr := fun (W : World) (hW : Below w.heap.size w W) => hS.rget W _ (RO.rd (h.next hW).d.l)
 have pc := fun (W : World) (hW : Below w.heap.size w W) => sprop_c (h.next hW).c hV.h hi hn
 have pr := fun (W : World) (hW : Below w.heap.size w W) => Pp.rget_c (Pp.OH.rd (h.next hW).d.p) hHL i nm
 have oc := fun (W : World) (hW : Below w.heap.size w W) => owner_c (h.next hW).c hi
 have orr := fun (W : World) (hW : Below w.heap.size w W) => rowner_c (h.next hW).d hML i
 have ab := fun (W : World) (hW : Below w.heap.size w W) => sabs_c (h.next hW).c hV.s hi
 have ar := fun (W : World) (hW : Below w.heap.size w W) => hS.rabs W _ (RO.rd (h.next hW).d.l)
 have vc := fun (W : World) (hW : Below w.heap.size w W) => sview_c (h.next hW).c hV.s hi
 have vr := fun (W : World) (hW : Below w.heap.size w W) => hS.rview W _ (RO.rd (h.next hW).d.l)
 have kc := fun (W : World) (hW : Below w.heap.size w W) => skids_c (h.next hW).c hV.s hi
 have kr := fun (W : World) (hW : Below w.heap.size w W) => hS.rkids W _ (RO.rd (h.next hW).d.l)
 have HFO := Lib.hid (fun (W : World) (hW : Below w.heap.size w W) => focus_c (h.next hW).c)
 have HIN := Lib.hid (fun (va vb : Value) (W : World) (ha : RdI W va (kidsL X.L i)) (hb : RdI W vb (kidsL X.L i)) => ints8_same va vb _ W ha hb hks)
 change ∀ (W : World) (hW : Below w.heap.size w W), Calls Tryz.prog 40 #[Z.pv, .int .i64 i, .string nm] W fun e w' => e = .returned (.tuple #[Pp.prV ((Pp.msH X.H i nm).getD Pp.noP), .bool (Pp.msH X.H i nm).isSome]) ∧ Below W.heap.size W w' at pr
 rw [hlv] at gr ar vr kr
 rw [hpv] at pr
 obtain ⟨v, hv⟩ : ∃ v, v = winL X.R X.L i := ⟨_, rfl⟩
 obtain ⟨th, hth⟩ : ∃ v, v = thereL X.R X.L i := ⟨_, rfl⟩
 obtain ⟨ax, hax⟩ : ∃ v, v = absXL X.R X.L i := ⟨_, rfl⟩
 obtain ⟨ay, hay⟩ : ∃ v, v = absYL X.R X.L i := ⟨_, rfl⟩
 obtain ⟨vb, hvb⟩ : ∃ v, v = viewL X.R X.L i := ⟨_, rfl⟩
 obtain ⟨p, hp⟩ : ∃ v, v = (Pp.msH X.H i nm).getD Pp.noP := ⟨_, rfl⟩
 obtain ⟨ph, hph⟩ : ∃ v, v = (Pp.msH X.H i nm).isSome := ⟨_, rfl⟩
 rw [← hv, ← hth] at gc gr
 rw [← hax, ← hay, ← hth] at ab ar
 rw [← hvb] at vc vr
 rw [← hp, ← hph] at pc pr
 obtain ⟨vi, vp, vx, vy, vw, vh, vo⟩ := v
 obtain ⟨pn, pt, pd⟩ := p
 have HGC := Lib.hid gc
 have HGR := Lib.hid gr
 have HPC := Lib.hid pc
 have HPR := Lib.hid pr
 have HAC := Lib.hid ab
 have HAR := Lib.hid ar
 have HVC := Lib.hid vc
 have HVR := Lib.hid vr
 have HKC := Lib.hid kc
 have HKR := Lib.hid kr
 have HY := Lib.hid hY
 have hown := hV.own
 clear gc gr pc pr ab ar vc vr kc kr hY hv hth hax hay hvb hp hph hlv hpv hks hML hHL hnn hmm hS h
 have e0 : (vi == vi) = true := by simp
 have e1 : (vp == vp) = true := by simp
 have e2 : (vx == vx) = true := by simp
 have e3 : (vy == vy) = true := by simp
 have e4 : (vw == vw) = true := by simp
 have e5 : (vh == vh) = true := by simp
 have e6 : (vo == vo) = true := by simp
 have e7 : (th == th) = true := by simp
 have e8 : (ax == ax) = true := by simp
 have e9 : (ay == ay) = true := by simp
 have e10 : (vb == vb) = true := by simp
 have e11 : (ph == ph) = true := by simp
 by_cases hin : inM X.M i
 · rw [makF_of hin] at oc
   obtain ⟨mm, hf, h1, h2⟩ := mfind_some hin
   have hge : 0 ≤ ownM i X.M := by rw [own_of hf]; exact (hown mm h1).1
   obtain ⟨ow, how⟩ : ∃ o, o = ownM i X.M := ⟨_, rfl⟩
   rw [← how] at oc orr hge
   have HOC := Lib.hid oc
   have HOR := Lib.hid orr
   have hgd : decide (0 ≤ ow) = true := decide_eq_true hge
   have e12 : (ow == ow) = true := by simp
   clear oc orr how hf h1 h2 hown hin hV hi hn
   have BB0 := Lib.hid (Below.refl w.heap.size w)
   obtain ⟨y0, y1, y2, y3, y4, y5, y6, y8⟩ := HY.out w (Below.refl _ _)
   go_enter Tryz.func14, Tryz.ntmps14
   go_upto_region 2 with (go_at_call 21; ((with_reducible refine (HGC.out _ BB0.out).mono ?_); rintro ex w1 ⟨rfl, hb⟩); have HN1 := Lib.hid hb; clear hb)
   obtain ⟨q1, hq⟩ : ∃ q, q = w1.alloc (.cells #[.int .i64 vi, .int .i64 vp, .int .i64 vx, .int .i64 vy, .int .i64 vw, .int .i64 vh, .bool vo] 61) := ⟨_, rfl⟩
   have hbq : Below w1.heap.size w1 q1 := by rw [hq]; exact (Below.refl _ _).alloc (Nat.le_refl _) _
   have hkq : Blk q1 w1.heap.size 61 #[.int .i64 vi, .int .i64 vp, .int .i64 vx, .int .i64 vy, .int .i64 vw, .int .i64 vh, .bool vo] := by rw [hq]; exact Blk.new w1 _ _
   obtain ⟨g1, hg⟩ : ∃ g, g = w1.heap.size := ⟨_, rfl⟩
   rw [← hg] at hkq ⊢
   rw [← hq]
   have K1_1 := Lib.hid hkq
   have BB1 := Lib.hid (hbq.on (HN1.out.on BB0.out BB0.out.size) (HN1.out.on BB0.out BB0.out.size).size)
   clear hq hbq hkq hg
   obtain ⟨y0, y1, y2, y3, y4, y5, y6, y8⟩ := HY.out _ BB1.out
   go_upto_region 3 with (go_at_call 39; ((with_reducible refine (HGR.out _ BB1.out).mono ?_); rintro ex w2 ⟨rfl, hb⟩); have HN2 := Lib.hid hb; clear hb)
   obtain ⟨q2, hq⟩ : ∃ q, q = w2.alloc (.cells #[.int .i64 vi, .int .i64 vp, .int .i64 vx, .int .i64 vy, .int .i64 vw, .int .i64 vh, .bool vo] 61) := ⟨_, rfl⟩
   have hbq : Below w2.heap.size w2 q2 := by rw [hq]; exact (Below.refl _ _).alloc (Nat.le_refl _) _
   have hkq : Blk q2 w2.heap.size 61 #[.int .i64 vi, .int .i64 vp, .int .i64 vx, .int .i64 vy, .int .i64 vw, .int .i64 vh, .bool vo] := by rw [hq]; exact Blk.new w2 _ _
   obtain ⟨g2, hg⟩ : ∃ g, g = w2.heap.size := ⟨_, rfl⟩
   rw [← hg] at hkq ⊢
   rw [← hq]
   have K1_2 := Lib.hid ((K1_1.out.next HN2.out).next hbq)
   have K2_2 := Lib.hid hkq
   have BB2 := Lib.hid (hbq.on (HN2.out.on BB1.out BB1.out.size) (HN2.out.on BB1.out BB1.out.size).size)
   clear hq hbq hkq hg
   obtain ⟨y0, y1, y2, y3, y4, y5, y6, y8⟩ := HY.out _ BB2.out
   go_upto_region 4 with (go_at_call 28; ((with_reducible refine (HPC.out _ BB2.out).mono ?_); rintro ex w3 ⟨rfl, hb⟩); have HN3 := Lib.hid hb; clear hb)
   obtain ⟨q3, hq⟩ : ∃ q, q = w3.alloc (.cells #[.string pn, .string pt, .string pd] 35) := ⟨_, rfl⟩
   have hbq : Below w3.heap.size w3 q3 := by rw [hq]; exact (Below.refl _ _).alloc (Nat.le_refl _) _
   have hkq : Blk q3 w3.heap.size 35 #[.string pn, .string pt, .string pd] := by rw [hq]; exact Blk.new w3 _ _
   obtain ⟨g3, hg⟩ : ∃ g, g = w3.heap.size := ⟨_, rfl⟩
   rw [← hg] at hkq ⊢
   rw [← hq]
   have K1_3 := Lib.hid ((K1_2.out.next HN3.out).next hbq)
   have K2_3 := Lib.hid ((K2_2.out.next HN3.out).next hbq)
   have K3_3 := Lib.hid hkq
   have BB3 := Lib.hid (hbq.on (HN3.out.on BB2.out BB2.out.size) (HN3.out.on BB2.out BB2.out.size).size)
   clear hq hbq hkq hg
   obtain ⟨y0, y1, y2, y3, y4, y5, y6, y8⟩ := HY.out _ BB3.out
   go_upto_region 5 with (go_at_call 40; ((with_reducible refine (HPR.out _ BB3.out).mono ?_); rintro ex w4 ⟨rfl, hb⟩); have HN4 := Lib.hid hb; clear hb)
   obtain ⟨q4, hq⟩ : ∃ q, q = w4.alloc (.cells #[.string pn, .string pt, .string pd] 35) := ⟨_, rfl⟩
   have hbq : Below w4.heap.size w4 q4 := by rw [hq]; exact (Below.refl _ _).alloc (Nat.le_refl _) _
   have hkq : Blk q4 w4.heap.size 35 #[.string pn, .string pt, .string pd] := by rw [hq]; exact Blk.new w4 _ _
   obtain ⟨g4, hg⟩ : ∃ g, g = w4.heap.size := ⟨_, rfl⟩
   rw [← hg] at hkq ⊢
   rw [← hq]
   have K1_4 := Lib.hid ((K1_3.out.next HN4.out).next hbq)
   have K2_4 := Lib.hid ((K2_3.out.next HN4.out).next hbq)
   have K3_4 := Lib.hid ((K3_3.out.next HN4.out).next hbq)
   have K4_4 := Lib.hid hkq
   have BB4 := Lib.hid (hbq.on (HN4.out.on BB3.out BB3.out.size) (HN4.out.on BB3.out BB3.out.size).size)
   clear hq hbq hkq hg
   obtain ⟨y0, y1, y2, y3, y4, y5, y6, y8⟩ := HY.out _ BB4.out
   go_upto_region 7 with (first | (go_at_call 29; ((with_reducible refine (HOC.out _ BB4.out).mono ?_); rintro ex wo ⟨rfl, rfl⟩); skip) | (go_at_call 22; ((with_reducible refine (HOR.out _ BB4.out).mono ?_); rintro ex wo ⟨rfl, rfl⟩); skip))
   have b1_0 := K1_4.out.at_ (i := 0) (v := .int .i64 vi) rfl
   have b1_1 := K1_4.out.at_ (i := 1) (v := .int .i64 vp) rfl
   have b1_2 := K1_4.out.at_ (i := 2) (v := .int .i64 vx) rfl
   have b1_3 := K1_4.out.at_ (i := 3) (v := .int .i64 vy) rfl
   have b1_4 := K1_4.out.at_ (i := 4) (v := .int .i64 vw) rfl
   have b1_5 := K1_4.out.at_ (i := 5) (v := .int .i64 vh) rfl
   have b1_6 := K1_4.out.at_ (i := 6) (v := .bool vo) rfl
   have b2_0 := K2_4.out.at_ (i := 0) (v := .int .i64 vi) rfl
   have b2_1 := K2_4.out.at_ (i := 1) (v := .int .i64 vp) rfl
   have b2_2 := K2_4.out.at_ (i := 2) (v := .int .i64 vx) rfl
   have b2_3 := K2_4.out.at_ (i := 3) (v := .int .i64 vy) rfl
   have b2_4 := K2_4.out.at_ (i := 4) (v := .int .i64 vw) rfl
   have b2_5 := K2_4.out.at_ (i := 5) (v := .int .i64 vh) rfl
   have b2_6 := K2_4.out.at_ (i := 6) (v := .bool vo) rfl
   have b3_0 := K3_4.out.at_ (i := 0) (v := .string pn) rfl
   have b3_1 := K3_4.out.at_ (i := 1) (v := .string pt) rfl
   have b3_2 := K3_4.out.at_ (i := 2) (v := .string pd) rfl
   have b4_0 := K4_4.out.at_ (i := 0) (v := .string pn) rfl
   have b4_1 := K4_4.out.at_ (i := 1) (v := .string pt) rfl
   have b4_2 := K4_4.out.at_ (i := 2) (v := .string pd) rfl
   go_upto_region 10 with (go_at_call 30; ((with_reducible refine (HAC.out _ BB4.out).mono ?_); rintro ex w5 ⟨rfl, hb⟩); have HN5 := Lib.hid hb; clear hb)
   obtain ⟨q5, hq⟩ : ∃ q, q = w5.alloc (.cells #[.int .i64 ax, .int .i64 ay] 87) := ⟨_, rfl⟩
   have hbq : Below w5.heap.size w5 q5 := by rw [hq]; exact (Below.refl _ _).alloc (Nat.le_refl _) _
   have hkq : Blk q5 w5.heap.size 87 #[.int .i64 ax, .int .i64 ay] := by rw [hq]; exact Blk.new w5 _ _
   obtain ⟨g5, hg⟩ : ∃ g, g = w5.heap.size := ⟨_, rfl⟩
   rw [← hg] at hkq ⊢
   rw [← hq]
   have K1_5 := Lib.hid ((K1_4.out.next HN5.out).next hbq)
   have K2_5 := Lib.hid ((K2_4.out.next HN5.out).next hbq)
   have K3_5 := Lib.hid ((K3_4.out.next HN5.out).next hbq)
   have K4_5 := Lib.hid ((K4_4.out.next HN5.out).next hbq)
   have K5_5 := Lib.hid hkq
   have BB5 := Lib.hid (hbq.on (HN5.out.on BB4.out BB4.out.size) (HN5.out.on BB4.out BB4.out.size).size)
   clear hq hbq hkq hg
   obtain ⟨y0, y1, y2, y3, y4, y5, y6, y8⟩ := HY.out _ BB5.out
   go_upto_region 11 with (go_at_call 41; ((with_reducible refine (HAR.out _ BB5.out).mono ?_); rintro ex w6 ⟨rfl, hb⟩); have HN6 := Lib.hid hb; clear hb)
   obtain ⟨q6, hq⟩ : ∃ q, q = w6.alloc (.cells #[.int .i64 ax, .int .i64 ay] 87) := ⟨_, rfl⟩
   have hbq : Below w6.heap.size w6 q6 := by rw [hq]; exact (Below.refl _ _).alloc (Nat.le_refl _) _
   have hkq : Blk q6 w6.heap.size 87 #[.int .i64 ax, .int .i64 ay] := by rw [hq]; exact Blk.new w6 _ _
   obtain ⟨g6, hg⟩ : ∃ g, g = w6.heap.size := ⟨_, rfl⟩
   rw [← hg] at hkq ⊢
   rw [← hq]
   have K1_6 := Lib.hid ((K1_5.out.next HN6.out).next hbq)
   have K2_6 := Lib.hid ((K2_5.out.next HN6.out).next hbq)
   have K3_6 := Lib.hid ((K3_5.out.next HN6.out).next hbq)
   have K4_6 := Lib.hid ((K4_5.out.next HN6.out).next hbq)
   have K5_6 := Lib.hid ((K5_5.out.next HN6.out).next hbq)
   have K6_6 := Lib.hid hkq
   have BB6 := Lib.hid (hbq.on (HN6.out.on BB5.out BB5.out.size) (HN6.out.on BB5.out BB5.out.size).size)
   clear hq hbq hkq hg
   obtain ⟨y0, y1, y2, y3, y4, y5, y6, y8⟩ := HY.out _ BB6.out
   have HSS := Lib.hid (fun W (hW : Below q6.heap.size q6 W) => (show W.cell? ⟨r, 0, none⟩ = some (.int .i64 X.R.x) ∧ W.cell? ⟨r, 1, none⟩ = some (.int .i64 X.R.y) ∧ W.cell? ⟨r, 2, none⟩ = some (.int .i64 X.R.w) ∧ W.cell? ⟨r, 3, none⟩ = some (.int .i64 X.R.h) ∧ W.cell? ⟨r, 4, none⟩ = some (.int .i64 X.R.last) ∧ W.cell? ⟨r, 5, none⟩ = some (.slice pl n cl) ∧ W.cell? ⟨r, 6, none⟩ = some (.slice pp m cp) ∧ W.cell? ⟨r, 8, none⟩ = some (.int .i64 X.F) ∧ W.cell? ⟨g5, 0, none⟩ = some (.int .i64 ax) ∧ W.cell? ⟨g5, 1, none⟩ = some (.int .i64 ay) ∧ W.cell? ⟨g6, 0, none⟩ = some (.int .i64 ax) ∧ W.cell? ⟨g6, 1, none⟩ = some (.int .i64 ay) from by
    obtain ⟨y0, y1, y2, y3, y4, y5, y6, y8⟩ := HY.out W (hW.on BB6.out BB6.out.size)
    exact ⟨y0, y1, y2, y3, y4, y5, y6, y8, (K5_6.out.next hW).at_ (i := 0) rfl, (K5_6.out.next hW).at_ (i := 1) rfl, (K6_6.out.next hW).at_ (i := 0) rfl, (K6_6.out.next hW).at_ (i := 1) rfl⟩))
   have hq6 := fun (W : World) (hW : Below q6.heap.size q6 W) => hW.on BB6.out BB6.out.size
   refine wp_region_noPanic ?_
   refine wp_region_held_drew (S := fun wx => wx.cell? ⟨r, 0, none⟩ = some (.int .i64 X.R.x) ∧ wx.cell? ⟨r, 1, none⟩ = some (.int .i64 X.R.y) ∧ wx.cell? ⟨r, 2, none⟩ = some (.int .i64 X.R.w) ∧ wx.cell? ⟨r, 3, none⟩ = some (.int .i64 X.R.h) ∧ wx.cell? ⟨r, 4, none⟩ = some (.int .i64 X.R.last) ∧ wx.cell? ⟨r, 5, none⟩ = some (.slice pl n cl) ∧ wx.cell? ⟨r, 6, none⟩ = some (.slice pp m cp) ∧ wx.cell? ⟨r, 8, none⟩ = some (.int .i64 X.F) ∧ wx.cell? ⟨g5, 0, none⟩ = some (.int .i64 ax) ∧ wx.cell? ⟨g5, 1, none⟩ = some (.int .i64 ay) ∧ wx.cell? ⟨g6, 0, none⟩ = some (.int .i64 ax) ∧ wx.cell? ⟨g6, 1, none⟩ = some (.int .i64 ay)) (by kernel_rfl) (by exact HSS.out _ (Below.refl q6.heap.size q6).drew) (fun hHeld => ?_)
   refine tk 0 ?va0 rfl ?ya0 ?ra0
   case ya0 => (intro q h; (try dsimp only at h); go_simp; (try with_reducible rfl))
   (try simp only [Act.put, p1, p3, p4, p5, p6])
   refine tk 1 ?va1 rfl ?ya1 ?ra1
   case ya1 => (intro q h; (try dsimp only at h); go_simp; (try with_reducible rfl))
   (try simp only [Act.put, p1, p2, p3, p4, p5, p6])
   refine tk 2 ?va2 rfl ?ya2 ?ra2
   case ya2 => (intro q h; (try dsimp only at h); go_simp; (try with_reducible rfl))
   (try simp only [Act.put, p1, p2, p3, p4, p5, p6])
   refine tk 3 ?va3 rfl ?ya3 ?ra3
   case ya3 => (intro q h; (try dsimp only at h); go_simp; (try with_reducible rfl))
   (try simp only [Act.put, p1, p2, p3, p4, p5, p6])
   refine tk 4 ?va4 rfl ?ya4 ?ra4
   case ya4 => (intro q h; (try dsimp only at h); go_simp; (try with_reducible rfl))
   (try simp only [Act.put, p1, p2, p3, p4, p5, p6])
   refine tk 5 ?va5 rfl ?ya5 ?ra5
   case ya5 => (intro q h; (try dsimp only at h); go_simp; (try with_reducible rfl))
   (try simp only [Act.put, p1, p2, p3, p4, p5, p6])
   refine tk 6 ?va6 rfl ?ya6 ?ra6
   case ya6 => (intro q h; (try dsimp only at h); go_simp; (try with_reducible rfl))
   (try simp only [Act.put, p1, p2, p3, p4, p5, p6])
   refine tk 7 ?va7 rfl ?ya7 ?ra7
   case ya7 => (intro q h; (try dsimp only at h); go_simp; (try with_reducible rfl))
   (try simp only [Act.put, p1, p2, p3, p4, p5, p6])
   refine tk 8 ?va8 rfl ?ya8 ?ra8
   case ya8 => (intro q h; (try dsimp only at h); go_simp; (try with_reducible rfl))
   (try simp only [Act.put, p1, p2, p3, p4, p5, p6])
   refine tk 9 ?va9 rfl ?ya9 ?ra9
   case ya9 => (intro q h; (try dsimp only at h); go_simp; (try with_reducible rfl))
   (try simp only [Act.put, p1, p2, p3, p4, p5, p6])
   refine tk 10 ?va10 rfl ?ya10 ?ra10
   case ya10 => (intro q h; (try dsimp only at h); go_simp; (try with_reducible rfl))
   (try simp only [Act.put, p1, p2, p3, p4, p5, p6])
   refine tk 12 ?va12 rfl ?ya12 ?ra12
   case ya12 => (intro q h; (try dsimp only at h); go_simp; (try with_reducible rfl))
   (try simp only [Act.put, p1, p2, p3, p4, p5, p6])
   refine tk 13 ?va13 rfl ?ya13 ?ra13
   case ya13 => (intro q h; (try dsimp only at h); go_simp; (try with_reducible rfl))
   (try simp only [Act.put, p1, p2, p3, p4, p5, p6])
   refine tk 14 ?va14 rfl ?ya14 ?ra14
   case ya14 => (intro q h; (try dsimp only at h); go_simp; (try with_reducible rfl))
   (try simp only [Act.put, p1, p2, p3, p4, p5, p6])
   refine tk 15 ?va15 rfl ?ya15 ?ra15
   case ya15 => (intro q h; (try dsimp only at h); go_simp; (try with_reducible rfl))
   (try simp only [Act.put, p1, p2, p3, p4, p5, p6])
   refine tk 16 ?va16 rfl ?ya16 ?ra16
   case ya16 => (intro q h; (try dsimp only at h); go_simp; (try with_reducible rfl))
   (try simp only [Act.put, p1, p2, p3, p4, p5, p6])
   refine wpAnyH_ready (rs := [11]) (by kernel_rfl) (by simp) ?_
   refine AllReadyH.cons rfl (fun K hK => ?_) AllReadyH.nil
   go_simp
   refine (HVC.out _ (hq6 _ (Below.refl q6.heap.size q6).drew)).mono ?_
   rintro ex z0 ⟨rfl, rfl⟩; have HZ0 := Lib.hid ((Below.refl q6.heap.size q6).drew); have S1 := HSS.out _ HZ0.out
   (try dsimp only)
   refine hK.out _ _ (by exact S1) (fun hHeld => ?_)
   clear hK K
   (try simp only [Act.put, p1, p2, p3, p4, p5, p6])
   refine wpAnyH_ready (rs := [17]) (by kernel_rfl) (by simp) ?_
   refine AllReadyH.cons rfl (fun K hK => ?_) AllReadyH.nil
   go_simp
   refine (HVR.out _ (hq6 _ HZ0.out)).mono ?_
   rintro ex z1 ⟨rfl, hb⟩; have HZ1 := Lib.hid (hb.on HZ0.out HZ0.out.size); have S1 := HSS.out _ HZ1.out; clear hb
   (try dsimp only)
   refine hK.out _ _ (by exact S1) (fun hHeld => ?_)
   clear hK K
   (try simp only [Act.put, p1, p2, p3, p4, p5, p6])
   refine tk 18 ?va18 rfl ?ya18 ?ra18
   case ya18 => (intro q h; (try dsimp only at h); go_simp; (try with_reducible rfl))
   (try simp only [Act.put, p1, p2, p3, p4, p5, p6])
   refine tk 19 ?va19 rfl ?ya19 ?ra19
   case ya19 => (intro q h; (try dsimp only at h); go_simp; (try with_reducible rfl))
   (try simp only [Act.put, p1, p2, p3, p4, p5, p6])
   refine tk 20 ?va20 rfl ?ya20 ?ra20
   case ya20 => (intro q h; (try dsimp only at h); go_simp; (try with_reducible rfl))
   (try simp only [Act.put, p1, p2, p3, p4, p5, p6])
   refine tk 21 ?va21 rfl ?ya21 ?ra21
   case ya21 => (intro q h; (try dsimp only at h); go_simp; (try with_reducible rfl))
   (try simp only [Act.put, p1, p2, p3, p4, p5, p6])
   refine tk 22 ?va22 rfl ?ya22 ?ra22
   case ya22 => (intro q h; (try dsimp only at h); go_simp; (try with_reducible rfl))
   (try simp only [Act.put, p1, p2, p3, p4, p5, p6])
   refine tk 24 ?va24 rfl ?ya24 ?ra24
   case ya24 => (intro q h; (try dsimp only at h); go_simp; (try with_reducible rfl))
   (try simp only [Act.put, p1, p2, p3, p4, p5, p6])
   refine tk 25 ?va25 rfl ?ya25 ?ra25
   case ya25 => (intro q h; (try dsimp only at h); go_simp; (try with_reducible rfl))
   (try simp only [Act.put, p1, p2, p3, p4, p5, p6])
   refine tk 26 ?va26 rfl ?ya26 ?ra26
   case ya26 => (intro q h; (try dsimp only at h); go_simp; (try with_reducible rfl))
   (try simp only [Act.put, p1, p2, p3, p4, p5, p6])
   refine tk 27 ?va27 rfl ?ya27 ?ra27
   case ya27 => (intro q h; (try dsimp only at h); go_simp; (try with_reducible rfl))
   (try simp only [Act.put, p1, p2, p3, p4, p5, p6])
   refine tk 28 ?va28 rfl ?ya28 ?ra28
   case ya28 => (intro q h; (try dsimp only at h); go_simp; (try with_reducible rfl))
   (try simp only [Act.put, p1, p2, p3, p4, p5, p6])
   refine wpAnyH_ready (rs := [23]) (by kernel_rfl) (by simp) ?_
   refine AllReadyH.cons rfl (fun K hK => ?_) AllReadyH.nil
   go_simp
   refine (HKC.out _ (hq6 _ HZ1.out)).mono ?_
   rintro ex z2 ⟨kv, rfl, hrk, hb⟩; have HZ2 := Lib.hid (hb.on HZ1.out HZ1.out.size); have S1 := HSS.out _ HZ2.out; have HRK := Lib.hid hrk; obtain ⟨kp, kc, hkv, -⟩ := hrk; subst hkv; clear hb
   (try dsimp only)
   refine hK.out _ _ (by exact S1) (fun hHeld => ?_)
   clear hK K
   (try simp only [Act.put, p1, p2, p3, p4, p5, p6])
   refine wpAnyH_ready (rs := [29]) (by kernel_rfl) (by simp) ?_
   refine AllReadyH.cons rfl (fun K hK => ?_) AllReadyH.nil
   go_simp
   refine (HKR.out _ (hq6 _ HZ2.out)).mono ?_
   rintro ex z3 ⟨kv', rfl, hrk', hb⟩; have HZ3 := Lib.hid (hb.on HZ2.out HZ2.out.size); have S1 := HSS.out _ HZ3.out; have HRK2 := Lib.hid hrk'; have HRK1 := Lib.hid (RdI.next HRK.out hb); obtain ⟨kp', kc', hkv', -⟩ := hrk'; subst hkv'; clear hb
   (try dsimp only)
   refine hK.out _ _ (by exact S1) (fun hHeld => ?_)
   clear hK K
   (try simp only [Act.put, p1, p2, p3, p4, p5, p6])
   refine wpAnyH_ready (rs := [30]) (by kernel_rfl) (by simp) ?_
   refine AllReadyH.cons rfl (fun K hK => ?_) AllReadyH.nil
   go_simp
   refine (HIN.out _ _ _ HRK1.out HRK2.out).mono ?_
   rintro ex z4 ⟨rfl, hb⟩; have HZ4 := Lib.hid (hb.on HZ3.out HZ3.out.size); have S1 := HSS.out _ HZ4.out; clear hb
   (try dsimp only)
   refine hK.out _ _ (by exact S1) (fun hHeld => ?_)
   clear hK K
   (try simp only [Act.put, p1, p2, p3, p4, p5, p6])
   refine tk 31 ?va31 rfl ?ya31 ?ra31
   case ya31 => (intro q h; (try dsimp only at h); go_simp; (try with_reducible rfl))
   (try simp only [Act.put, p1, p2, p3, p4, p5, p6])
   refine tk 32 ?va32 rfl ?ya32 ?ra32
   case ya32 => (intro q h; (try dsimp only at h); go_simp; (try with_reducible rfl))
   (try simp only [Act.put, p1, p2, p3, p4, p5, p6])
   refine tk 33 ?va33 rfl ?ya33 ?ra33
   case ya33 => (intro q h; (try dsimp only at h); go_simp; (try with_reducible rfl))
   (try simp only [Act.put, p1, p2, p3, p4, p5, p6])
   refine tk 35 ?va35 rfl ?ya35 ?ra35
   case ya35 => (intro q h; (try dsimp only at h); go_simp; (try with_reducible rfl))
   (try simp only [Act.put, p1, p2, p3, p4, p5, p6])
   refine tk 36 ?va36 rfl ?ya36 ?ra36
   case ya36 => (intro q h; (try dsimp only at h); go_simp; (try with_reducible rfl))
   (try simp only [Act.put, p1, p2, p3, p4, p5, p6])
   refine tk 37 ?va37 rfl ?ya37 ?ra37
   case ya37 => (intro q h; (try dsimp only at h); go_simp; (try with_reducible rfl))
   (try simp only [Act.put, p1, p2, p3, p4, p5, p6])
   refine tk 38 ?va38 rfl ?ya38 ?ra38
   case ya38 => (intro q h; (try dsimp only at h); go_simp; (try with_reducible rfl))
   (try simp only [Act.put, p1, p2, p3, p4, p5, p6])
   refine wpAnyH_ready (rs := [34]) (by kernel_rfl) (by simp) ?_
   refine AllReadyH.cons rfl (fun K hK => ?_) AllReadyH.nil
   go_simp
   refine (HFO.out _ (hq6 _ HZ4.out)).mono ?_
   rintro ex z5 ⟨rfl, rfl⟩; have S1 := HSS.out _ HZ4.out
   (try dsimp only)
   refine hK.out _ _ (by exact S1) (fun hHeld => ?_)
   clear hK K
   (try simp only [Act.put, p1, p2, p3, p4, p5, p6])
   refine tk 39 ?va39 rfl ?ya39 ?ra39
   case ya39 => (intro q h; (try dsimp only at h); go_simp; (try with_reducible rfl))
   (try simp only [Act.put, p1, p2, p3, p4, p5, p6])
   refine tk 40 ?va40 rfl ?ya40 ?ra40
   case ya40 => (intro q h; (try dsimp only at h); go_simp; (try with_reducible rfl))
   (try simp only [Act.put, p1, p2, p3, p4, p5, p6])
   refine tk 41 ?va41 rfl ?ya41 ?ra41
   case ya41 => (intro q h; (try dsimp only at h); go_simp; (try with_reducible rfl))
   (try simp only [Act.put, p1, p2, p3, p4, p5, p6])
   refine wpAnyH_done (by kernel_rfl) ?_ _
   refine NoPanic.normal ?_
   go_wp2_with fail
   go_ret
   exact ⟨rfl, hq6 _ HZ4.out⟩
 · rw [makF_no hin] at oc
   rw [own_none hin] at orr
   have HOC := Lib.hid oc
   have HOR := Lib.hid orr
   clear oc orr hown hin hV hi hn
   have BB0 := Lib.hid (Below.refl w.heap.size w)
   obtain ⟨y0, y1, y2, y3, y4, y5, y6, y8⟩ := HY.out w (Below.refl _ _)
   go_enter Tryz.func14, Tryz.ntmps14
   go_upto_region 2 with (go_at_call 21; ((with_reducible refine (HGC.out _ BB0.out).mono ?_); rintro ex w1 ⟨rfl, hb⟩); have HN1 := Lib.hid hb; clear hb)
   obtain ⟨q1, hq⟩ : ∃ q, q = w1.alloc (.cells #[.int .i64 vi, .int .i64 vp, .int .i64 vx, .int .i64 vy, .int .i64 vw, .int .i64 vh, .bool vo] 61) := ⟨_, rfl⟩
   have hbq : Below w1.heap.size w1 q1 := by rw [hq]; exact (Below.refl _ _).alloc (Nat.le_refl _) _
   have hkq : Blk q1 w1.heap.size 61 #[.int .i64 vi, .int .i64 vp, .int .i64 vx, .int .i64 vy, .int .i64 vw, .int .i64 vh, .bool vo] := by rw [hq]; exact Blk.new w1 _ _
   obtain ⟨g1, hg⟩ : ∃ g, g = w1.heap.size := ⟨_, rfl⟩
   rw [← hg] at hkq ⊢
   rw [← hq]
   have K1_1 := Lib.hid hkq
   have BB1 := Lib.hid (hbq.on (HN1.out.on BB0.out BB0.out.size) (HN1.out.on BB0.out BB0.out.size).size)
   clear hq hbq hkq hg
   obtain ⟨y0, y1, y2, y3, y4, y5, y6, y8⟩ := HY.out _ BB1.out
   go_upto_region 3 with (go_at_call 39; ((with_reducible refine (HGR.out _ BB1.out).mono ?_); rintro ex w2 ⟨rfl, hb⟩); have HN2 := Lib.hid hb; clear hb)
   obtain ⟨q2, hq⟩ : ∃ q, q = w2.alloc (.cells #[.int .i64 vi, .int .i64 vp, .int .i64 vx, .int .i64 vy, .int .i64 vw, .int .i64 vh, .bool vo] 61) := ⟨_, rfl⟩
   have hbq : Below w2.heap.size w2 q2 := by rw [hq]; exact (Below.refl _ _).alloc (Nat.le_refl _) _
   have hkq : Blk q2 w2.heap.size 61 #[.int .i64 vi, .int .i64 vp, .int .i64 vx, .int .i64 vy, .int .i64 vw, .int .i64 vh, .bool vo] := by rw [hq]; exact Blk.new w2 _ _
   obtain ⟨g2, hg⟩ : ∃ g, g = w2.heap.size := ⟨_, rfl⟩
   rw [← hg] at hkq ⊢
   rw [← hq]
   have K1_2 := Lib.hid ((K1_1.out.next HN2.out).next hbq)
   have K2_2 := Lib.hid hkq
   have BB2 := Lib.hid (hbq.on (HN2.out.on BB1.out BB1.out.size) (HN2.out.on BB1.out BB1.out.size).size)
   clear hq hbq hkq hg
   obtain ⟨y0, y1, y2, y3, y4, y5, y6, y8⟩ := HY.out _ BB2.out
   go_upto_region 4 with (go_at_call 28; ((with_reducible refine (HPC.out _ BB2.out).mono ?_); rintro ex w3 ⟨rfl, hb⟩); have HN3 := Lib.hid hb; clear hb)
   obtain ⟨q3, hq⟩ : ∃ q, q = w3.alloc (.cells #[.string pn, .string pt, .string pd] 35) := ⟨_, rfl⟩
   have hbq : Below w3.heap.size w3 q3 := by rw [hq]; exact (Below.refl _ _).alloc (Nat.le_refl _) _
   have hkq : Blk q3 w3.heap.size 35 #[.string pn, .string pt, .string pd] := by rw [hq]; exact Blk.new w3 _ _
   obtain ⟨g3, hg⟩ : ∃ g, g = w3.heap.size := ⟨_, rfl⟩
   rw [← hg] at hkq ⊢
   rw [← hq]
   have K1_3 := Lib.hid ((K1_2.out.next HN3.out).next hbq)
   have K2_3 := Lib.hid ((K2_2.out.next HN3.out).next hbq)
   have K3_3 := Lib.hid hkq
   have BB3 := Lib.hid (hbq.on (HN3.out.on BB2.out BB2.out.size) (HN3.out.on BB2.out BB2.out.size).size)
   clear hq hbq hkq hg
   obtain ⟨y0, y1, y2, y3, y4, y5, y6, y8⟩ := HY.out _ BB3.out
   go_upto_region 5 with (go_at_call 40; ((with_reducible refine (HPR.out _ BB3.out).mono ?_); rintro ex w4 ⟨rfl, hb⟩); have HN4 := Lib.hid hb; clear hb)
   obtain ⟨q4, hq⟩ : ∃ q, q = w4.alloc (.cells #[.string pn, .string pt, .string pd] 35) := ⟨_, rfl⟩
   have hbq : Below w4.heap.size w4 q4 := by rw [hq]; exact (Below.refl _ _).alloc (Nat.le_refl _) _
   have hkq : Blk q4 w4.heap.size 35 #[.string pn, .string pt, .string pd] := by rw [hq]; exact Blk.new w4 _ _
   obtain ⟨g4, hg⟩ : ∃ g, g = w4.heap.size := ⟨_, rfl⟩
   rw [← hg] at hkq ⊢
   rw [← hq]
   have K1_4 := Lib.hid ((K1_3.out.next HN4.out).next hbq)
   have K2_4 := Lib.hid ((K2_3.out.next HN4.out).next hbq)
   have K3_4 := Lib.hid ((K3_3.out.next HN4.out).next hbq)
   have K4_4 := Lib.hid hkq
   have BB4 := Lib.hid (hbq.on (HN4.out.on BB3.out BB3.out.size) (HN4.out.on BB3.out BB3.out.size).size)
   clear hq hbq hkq hg
   obtain ⟨y0, y1, y2, y3, y4, y5, y6, y8⟩ := HY.out _ BB4.out
   go_upto_region 7 with (first | (go_at_call 29; ((with_reducible refine (HOC.out _ BB4.out).mono ?_); rintro ex wo ⟨rfl, rfl⟩); skip) | (go_at_call 22; ((with_reducible refine (HOR.out _ BB4.out).mono ?_); rintro ex wo ⟨rfl, rfl⟩); skip))
   have b1_0 := K1_4.out.at_ (i := 0) (v := .int .i64 vi) rfl
   have b1_1 := K1_4.out.at_ (i := 1) (v := .int .i64 vp) rfl
   have b1_2 := K1_4.out.at_ (i := 2) (v := .int .i64 vx) rfl
   have b1_3 := K1_4.out.at_ (i := 3) (v := .int .i64 vy) rfl
   have b1_4 := K1_4.out.at_ (i := 4) (v := .int .i64 vw) rfl
   have b1_5 := K1_4.out.at_ (i := 5) (v := .int .i64 vh) rfl
   have b1_6 := K1_4.out.at_ (i := 6) (v := .bool vo) rfl
   have b2_0 := K2_4.out.at_ (i := 0) (v := .int .i64 vi) rfl
   have b2_1 := K2_4.out.at_ (i := 1) (v := .int .i64 vp) rfl
   have b2_2 := K2_4.out.at_ (i := 2) (v := .int .i64 vx) rfl
   have b2_3 := K2_4.out.at_ (i := 3) (v := .int .i64 vy) rfl
   have b2_4 := K2_4.out.at_ (i := 4) (v := .int .i64 vw) rfl
   have b2_5 := K2_4.out.at_ (i := 5) (v := .int .i64 vh) rfl
   have b2_6 := K2_4.out.at_ (i := 6) (v := .bool vo) rfl
   have b3_0 := K3_4.out.at_ (i := 0) (v := .string pn) rfl
   have b3_1 := K3_4.out.at_ (i := 1) (v := .string pt) rfl
   have b3_2 := K3_4.out.at_ (i := 2) (v := .string pd) rfl
   have b4_0 := K4_4.out.at_ (i := 0) (v := .string pn) rfl
   have b4_1 := K4_4.out.at_ (i := 1) (v := .string pt) rfl
   have b4_2 := K4_4.out.at_ (i := 2) (v := .string pd) rfl
   go_upto_region 10 with (go_at_call 30; ((with_reducible refine (HAC.out _ BB4.out).mono ?_); rintro ex w5 ⟨rfl, hb⟩); have HN5 := Lib.hid hb; clear hb)
   obtain ⟨q5, hq⟩ : ∃ q, q = w5.alloc (.cells #[.int .i64 ax, .int .i64 ay] 87) := ⟨_, rfl⟩
   have hbq : Below w5.heap.size w5 q5 := by rw [hq]; exact (Below.refl _ _).alloc (Nat.le_refl _) _
   have hkq : Blk q5 w5.heap.size 87 #[.int .i64 ax, .int .i64 ay] := by rw [hq]; exact Blk.new w5 _ _
   obtain ⟨g5, hg⟩ : ∃ g, g = w5.heap.size := ⟨_, rfl⟩
   rw [← hg] at hkq ⊢
   rw [← hq]
   have K1_5 := Lib.hid ((K1_4.out.next HN5.out).next hbq)
   have K2_5 := Lib.hid ((K2_4.out.next HN5.out).next hbq)
   have K3_5 := Lib.hid ((K3_4.out.next HN5.out).next hbq)
   have K4_5 := Lib.hid ((K4_4.out.next HN5.out).next hbq)
   have K5_5 := Lib.hid hkq
   have BB5 := Lib.hid (hbq.on (HN5.out.on BB4.out BB4.out.size) (HN5.out.on BB4.out BB4.out.size).size)
   clear hq hbq hkq hg
   obtain ⟨y0, y1, y2, y3, y4, y5, y6, y8⟩ := HY.out _ BB5.out
   go_upto_region 11 with (go_at_call 41; ((with_reducible refine (HAR.out _ BB5.out).mono ?_); rintro ex w6 ⟨rfl, hb⟩); have HN6 := Lib.hid hb; clear hb)
   obtain ⟨q6, hq⟩ : ∃ q, q = w6.alloc (.cells #[.int .i64 ax, .int .i64 ay] 87) := ⟨_, rfl⟩
   have hbq : Below w6.heap.size w6 q6 := by rw [hq]; exact (Below.refl _ _).alloc (Nat.le_refl _) _
   have hkq : Blk q6 w6.heap.size 87 #[.int .i64 ax, .int .i64 ay] := by rw [hq]; exact Blk.new w6 _ _
   obtain ⟨g6, hg⟩ : ∃ g, g = w6.heap.size := ⟨_, rfl⟩
   rw [← hg] at hkq ⊢
   rw [← hq]
   have K1_6 := Lib.hid ((K1_5.out.next HN6.out).next hbq)
   have K2_6 := Lib.hid ((K2_5.out.next HN6.out).next hbq)
   have K3_6 := Lib.hid ((K3_5.out.next HN6.out).next hbq)
   have K4_6 := Lib.hid ((K4_5.out.next HN6.out).next hbq)
   have K5_6 := Lib.hid ((K5_5.out.next HN6.out).next hbq)
   have K6_6 := Lib.hid hkq
   have BB6 := Lib.hid (hbq.on (HN6.out.on BB5.out BB5.out.size) (HN6.out.on BB5.out BB5.out.size).size)
   clear hq hbq hkq hg
   obtain ⟨y0, y1, y2, y3, y4, y5, y6, y8⟩ := HY.out _ BB6.out
   have HSS := Lib.hid (fun W (hW : Below q6.heap.size q6 W) => (show W.cell? ⟨r, 0, none⟩ = some (.int .i64 X.R.x) ∧ W.cell? ⟨r, 1, none⟩ = some (.int .i64 X.R.y) ∧ W.cell? ⟨r, 2, none⟩ = some (.int .i64 X.R.w) ∧ W.cell? ⟨r, 3, none⟩ = some (.int .i64 X.R.h) ∧ W.cell? ⟨r, 4, none⟩ = some (.int .i64 X.R.last) ∧ W.cell? ⟨r, 5, none⟩ = some (.slice pl n cl) ∧ W.cell? ⟨r, 6, none⟩ = some (.slice pp m cp) ∧ W.cell? ⟨r, 8, none⟩ = some (.int .i64 X.F) ∧ W.cell? ⟨g5, 0, none⟩ = some (.int .i64 ax) ∧ W.cell? ⟨g5, 1, none⟩ = some (.int .i64 ay) ∧ W.cell? ⟨g6, 0, none⟩ = some (.int .i64 ax) ∧ W.cell? ⟨g6, 1, none⟩ = some (.int .i64 ay) from by
    obtain ⟨y0, y1, y2, y3, y4, y5, y6, y8⟩ := HY.out W (hW.on BB6.out BB6.out.size)
    exact ⟨y0, y1, y2, y3, y4, y5, y6, y8, (K5_6.out.next hW).at_ (i := 0) rfl, (K5_6.out.next hW).at_ (i := 1) rfl, (K6_6.out.next hW).at_ (i := 0) rfl, (K6_6.out.next hW).at_ (i := 1) rfl⟩))
   have hq6 := fun (W : World) (hW : Below q6.heap.size q6 W) => hW.on BB6.out BB6.out.size
   refine wp_region_noPanic ?_
   refine wp_region_held_drew (S := fun wx => wx.cell? ⟨r, 0, none⟩ = some (.int .i64 X.R.x) ∧ wx.cell? ⟨r, 1, none⟩ = some (.int .i64 X.R.y) ∧ wx.cell? ⟨r, 2, none⟩ = some (.int .i64 X.R.w) ∧ wx.cell? ⟨r, 3, none⟩ = some (.int .i64 X.R.h) ∧ wx.cell? ⟨r, 4, none⟩ = some (.int .i64 X.R.last) ∧ wx.cell? ⟨r, 5, none⟩ = some (.slice pl n cl) ∧ wx.cell? ⟨r, 6, none⟩ = some (.slice pp m cp) ∧ wx.cell? ⟨r, 8, none⟩ = some (.int .i64 X.F) ∧ wx.cell? ⟨g5, 0, none⟩ = some (.int .i64 ax) ∧ wx.cell? ⟨g5, 1, none⟩ = some (.int .i64 ay) ∧ wx.cell? ⟨g6, 0, none⟩ = some (.int .i64 ax) ∧ wx.cell? ⟨g6, 1, none⟩ = some (.int .i64 ay)) (by kernel_rfl) (by exact HSS.out _ (Below.refl q6.heap.size q6).drew) (fun hHeld => ?_)
   refine tk 0 ?vb0 rfl ?yb0 ?rb0
   case yb0 => (intro q h; (try dsimp only at h); go_simp; (try with_reducible rfl))
   (try simp only [Act.put, p1, p3, p4, p5, p6])
   refine tk 1 ?vb1 rfl ?yb1 ?rb1
   case yb1 => (intro q h; (try dsimp only at h); go_simp; (try with_reducible rfl))
   (try simp only [Act.put, p1, p2, p3, p4, p5, p6])
   refine tk 2 ?vb2 rfl ?yb2 ?rb2
   case yb2 => (intro q h; (try dsimp only at h); go_simp; (try with_reducible rfl))
   (try simp only [Act.put, p1, p2, p3, p4, p5, p6])
   refine tk 3 ?vb3 rfl ?yb3 ?rb3
   case yb3 => (intro q h; (try dsimp only at h); go_simp; (try with_reducible rfl))
   (try simp only [Act.put, p1, p2, p3, p4, p5, p6])
   refine tk 4 ?vb4 rfl ?yb4 ?rb4
   case yb4 => (intro q h; (try dsimp only at h); go_simp; (try with_reducible rfl))
   (try simp only [Act.put, p1, p2, p3, p4, p5, p6])
   refine tk 5 ?vb5 rfl ?yb5 ?rb5
   case yb5 => (intro q h; (try dsimp only at h); go_simp; (try with_reducible rfl))
   (try simp only [Act.put, p1, p2, p3, p4, p5, p6])
   refine tk 6 ?vb6 rfl ?yb6 ?rb6
   case yb6 => (intro q h; (try dsimp only at h); go_simp; (try with_reducible rfl))
   (try simp only [Act.put, p1, p2, p3, p4, p5, p6])
   refine tk 7 ?vb7 rfl ?yb7 ?rb7
   case yb7 => (intro q h; (try dsimp only at h); go_simp; (try with_reducible rfl))
   (try simp only [Act.put, p1, p2, p3, p4, p5, p6])
   refine tk 8 ?vb8 rfl ?yb8 ?rb8
   case yb8 => (intro q h; (try dsimp only at h); go_simp; (try with_reducible rfl))
   (try simp only [Act.put, p1, p2, p3, p4, p5, p6])
   refine tk 9 ?vb9 rfl ?yb9 ?rb9
   case yb9 => (intro q h; (try dsimp only at h); go_simp; (try with_reducible rfl))
   (try simp only [Act.put, p1, p2, p3, p4, p5, p6])
   refine tk 10 ?vb10 rfl ?yb10 ?rb10
   case yb10 => (intro q h; (try dsimp only at h); go_simp; (try with_reducible rfl))
   (try simp only [Act.put, p1, p2, p3, p4, p5, p6])
   refine tk 12 ?vb12 rfl ?yb12 ?rb12
   case yb12 => (intro q h; (try dsimp only at h); go_simp; (try with_reducible rfl))
   (try simp only [Act.put, p1, p2, p3, p4, p5, p6])
   refine tk 13 ?vb13 rfl ?yb13 ?rb13
   case yb13 => (intro q h; (try dsimp only at h); go_simp; (try with_reducible rfl))
   (try simp only [Act.put, p1, p2, p3, p4, p5, p6])
   refine tk 14 ?vb14 rfl ?yb14 ?rb14
   case yb14 => (intro q h; (try dsimp only at h); go_simp; (try with_reducible rfl))
   (try simp only [Act.put, p1, p2, p3, p4, p5, p6])
   refine tk 15 ?vb15 rfl ?yb15 ?rb15
   case yb15 => (intro q h; (try dsimp only at h); go_simp; (try with_reducible rfl))
   (try simp only [Act.put, p1, p2, p3, p4, p5, p6])
   refine tk 16 ?vb16 rfl ?yb16 ?rb16
   case yb16 => (intro q h; (try dsimp only at h); go_simp; (try with_reducible rfl))
   (try simp only [Act.put, p1, p2, p3, p4, p5, p6])
   refine wpAnyH_ready (rs := [11]) (by kernel_rfl) (by simp) ?_
   refine AllReadyH.cons rfl (fun K hK => ?_) AllReadyH.nil
   go_simp
   refine (HVC.out _ (hq6 _ (Below.refl q6.heap.size q6).drew)).mono ?_
   rintro ex z0 ⟨rfl, rfl⟩; have HZ0 := Lib.hid ((Below.refl q6.heap.size q6).drew); have S1 := HSS.out _ HZ0.out
   (try dsimp only)
   refine hK.out _ _ (by exact S1) (fun hHeld => ?_)
   clear hK K
   (try simp only [Act.put, p1, p2, p3, p4, p5, p6])
   refine wpAnyH_ready (rs := [17]) (by kernel_rfl) (by simp) ?_
   refine AllReadyH.cons rfl (fun K hK => ?_) AllReadyH.nil
   go_simp
   refine (HVR.out _ (hq6 _ HZ0.out)).mono ?_
   rintro ex z1 ⟨rfl, hb⟩; have HZ1 := Lib.hid (hb.on HZ0.out HZ0.out.size); have S1 := HSS.out _ HZ1.out; clear hb
   (try dsimp only)
   refine hK.out _ _ (by exact S1) (fun hHeld => ?_)
   clear hK K
   (try simp only [Act.put, p1, p2, p3, p4, p5, p6])
   refine tk 18 ?vb18 rfl ?yb18 ?rb18
   case yb18 => (intro q h; (try dsimp only at h); go_simp; (try with_reducible rfl))
   (try simp only [Act.put, p1, p2, p3, p4, p5, p6])
   refine tk 19 ?vb19 rfl ?yb19 ?rb19
   case yb19 => (intro q h; (try dsimp only at h); go_simp; (try with_reducible rfl))
   (try simp only [Act.put, p1, p2, p3, p4, p5, p6])
   refine tk 20 ?vb20 rfl ?yb20 ?rb20
   case yb20 => (intro q h; (try dsimp only at h); go_simp; (try with_reducible rfl))
   (try simp only [Act.put, p1, p2, p3, p4, p5, p6])
   refine tk 21 ?vb21 rfl ?yb21 ?rb21
   case yb21 => (intro q h; (try dsimp only at h); go_simp; (try with_reducible rfl))
   (try simp only [Act.put, p1, p2, p3, p4, p5, p6])
   refine tk 22 ?vb22 rfl ?yb22 ?rb22
   case yb22 => (intro q h; (try dsimp only at h); go_simp; (try with_reducible rfl))
   (try simp only [Act.put, p1, p2, p3, p4, p5, p6])
   refine tk 24 ?vb24 rfl ?yb24 ?rb24
   case yb24 => (intro q h; (try dsimp only at h); go_simp; (try with_reducible rfl))
   (try simp only [Act.put, p1, p2, p3, p4, p5, p6])
   refine tk 25 ?vb25 rfl ?yb25 ?rb25
   case yb25 => (intro q h; (try dsimp only at h); go_simp; (try with_reducible rfl))
   (try simp only [Act.put, p1, p2, p3, p4, p5, p6])
   refine tk 26 ?vb26 rfl ?yb26 ?rb26
   case yb26 => (intro q h; (try dsimp only at h); go_simp; (try with_reducible rfl))
   (try simp only [Act.put, p1, p2, p3, p4, p5, p6])
   refine tk 27 ?vb27 rfl ?yb27 ?rb27
   case yb27 => (intro q h; (try dsimp only at h); go_simp; (try with_reducible rfl))
   (try simp only [Act.put, p1, p2, p3, p4, p5, p6])
   refine tk 28 ?vb28 rfl ?yb28 ?rb28
   case yb28 => (intro q h; (try dsimp only at h); go_simp; (try with_reducible rfl))
   (try simp only [Act.put, p1, p2, p3, p4, p5, p6])
   refine wpAnyH_ready (rs := [23]) (by kernel_rfl) (by simp) ?_
   refine AllReadyH.cons rfl (fun K hK => ?_) AllReadyH.nil
   go_simp
   refine (HKC.out _ (hq6 _ HZ1.out)).mono ?_
   rintro ex z2 ⟨kv, rfl, hrk, hb⟩; have HZ2 := Lib.hid (hb.on HZ1.out HZ1.out.size); have S1 := HSS.out _ HZ2.out; have HRK := Lib.hid hrk; obtain ⟨kp, kc, hkv, -⟩ := hrk; subst hkv; clear hb
   (try dsimp only)
   refine hK.out _ _ (by exact S1) (fun hHeld => ?_)
   clear hK K
   (try simp only [Act.put, p1, p2, p3, p4, p5, p6])
   refine wpAnyH_ready (rs := [29]) (by kernel_rfl) (by simp) ?_
   refine AllReadyH.cons rfl (fun K hK => ?_) AllReadyH.nil
   go_simp
   refine (HKR.out _ (hq6 _ HZ2.out)).mono ?_
   rintro ex z3 ⟨kv', rfl, hrk', hb⟩; have HZ3 := Lib.hid (hb.on HZ2.out HZ2.out.size); have S1 := HSS.out _ HZ3.out; have HRK2 := Lib.hid hrk'; have HRK1 := Lib.hid (RdI.next HRK.out hb); obtain ⟨kp', kc', hkv', -⟩ := hrk'; subst hkv'; clear hb
   (try dsimp only)
   refine hK.out _ _ (by exact S1) (fun hHeld => ?_)
   clear hK K
   (try simp only [Act.put, p1, p2, p3, p4, p5, p6])
   refine wpAnyH_ready (rs := [30]) (by kernel_rfl) (by simp) ?_
   refine AllReadyH.cons rfl (fun K hK => ?_) AllReadyH.nil
   go_simp
   refine (HIN.out _ _ _ HRK1.out HRK2.out).mono ?_
   rintro ex z4 ⟨rfl, hb⟩; have HZ4 := Lib.hid (hb.on HZ3.out HZ3.out.size); have S1 := HSS.out _ HZ4.out; clear hb
   (try dsimp only)
   refine hK.out _ _ (by exact S1) (fun hHeld => ?_)
   clear hK K
   (try simp only [Act.put, p1, p2, p3, p4, p5, p6])
   refine tk 31 ?vb31 rfl ?yb31 ?rb31
   case yb31 => (intro q h; (try dsimp only at h); go_simp; (try with_reducible rfl))
   (try simp only [Act.put, p1, p2, p3, p4, p5, p6])
   refine tk 32 ?vb32 rfl ?yb32 ?rb32
   case yb32 => (intro q h; (try dsimp only at h); go_simp; (try with_reducible rfl))
   (try simp only [Act.put, p1, p2, p3, p4, p5, p6])
   refine tk 33 ?vb33 rfl ?yb33 ?rb33
   case yb33 => (intro q h; (try dsimp only at h); go_simp; (try with_reducible rfl))
   (try simp only [Act.put, p1, p2, p3, p4, p5, p6])
   refine tk 35 ?vb35 rfl ?yb35 ?rb35
   case yb35 => (intro q h; (try dsimp only at h); go_simp; (try with_reducible rfl))
   (try simp only [Act.put, p1, p2, p3, p4, p5, p6])
   refine tk 36 ?vb36 rfl ?yb36 ?rb36
   case yb36 => (intro q h; (try dsimp only at h); go_simp; (try with_reducible rfl))
   (try simp only [Act.put, p1, p2, p3, p4, p5, p6])
   refine tk 37 ?vb37 rfl ?yb37 ?rb37
   case yb37 => (intro q h; (try dsimp only at h); go_simp; (try with_reducible rfl))
   (try simp only [Act.put, p1, p2, p3, p4, p5, p6])
   refine tk 38 ?vb38 rfl ?yb38 ?rb38
   case yb38 => (intro q h; (try dsimp only at h); go_simp; (try with_reducible rfl))
   (try simp only [Act.put, p1, p2, p3, p4, p5, p6])
   refine wpAnyH_ready (rs := [34]) (by kernel_rfl) (by simp) ?_
   refine AllReadyH.cons rfl (fun K hK => ?_) AllReadyH.nil
   go_simp
   refine (HFO.out _ (hq6 _ HZ4.out)).mono ?_
   rintro ex z5 ⟨rfl, rfl⟩; have S1 := HSS.out _ HZ4.out
   (try dsimp only)
   refine hK.out _ _ (by exact S1) (fun hHeld => ?_)
   clear hK K
   (try simp only [Act.put, p1, p2, p3, p4, p5, p6])
   refine tk 39 ?vb39 rfl ?yb39 ?rb39
   case yb39 => (intro q h; (try dsimp only at h); go_simp; (try with_reducible rfl))
   (try simp only [Act.put, p1, p2, p3, p4, p5, p6])
   refine tk 40 ?vb40 rfl ?yb40 ?rb40
   case yb40 => (intro q h; (try dsimp only at h); go_simp; (try with_reducible rfl))
   (try simp only [Act.put, p1, p2, p3, p4, p5, p6])
   refine tk 41 ?vb41 rfl ?yb41 ?rb41
   case yb41 => (intro q h; (try dsimp only at h); go_simp; (try with_reducible rfl))
   (try simp only [Act.put, p1, p2, p3, p4, p5, p6])
   refine wpAnyH_done (by kernel_rfl) ?_ _
   refine NoPanic.normal ?_
   go_wp2_with fail
   go_ret
   exact ⟨rfl, hq6 _ HZ4.out⟩
end
end Go.Proofs.YtnhchpiafchdgaaGreat
