/- AreaInside, walked. -/
import Derived.Test.YteaeccmlibmmmaaArU
namespace Go.Proofs.Yteaeccmlibmmmaa.Ar
open Go.RowKit Go.Shelf Go.Maps
attribute [local go_sem ↓] eql_rect
theorem st4_below {B : Nat} {a w : World} {g : Nat} (h : Below B a w) (hg : B ≤ g) (v0 v1 v2 v3 : Value) : Below B a ((((w.setCell ⟨g, 0, none⟩ v0).setCell ⟨g, 1, none⟩ v1).setCell ⟨g, 2, none⟩ v2).setCell ⟨g, 3, none⟩ v3) := (((h.setCell hg _).setCell hg _).setCell hg _).setCell hg _
theorem st4_blk {w : World} {g : Nat} {t : TypeId} {x0 x1 x2 x3 : Value} (h : Blk w g t #[x0, x1, x2, x3]) (v0 v1 v2 v3 : Value) : Blk ((((w.setCell ⟨g, 0, none⟩ v0).setCell ⟨g, 1, none⟩ v1).setCell ⟨g, 2, none⟩ v2).setCell ⟨g, 3, none⟩ v3) g t #[v0, v1, v2, v3] := by
  have := (((h.set_ 0 v0).set_ 1 v1).set_ 2 v2).set_ 3 v3
  simpa using this
theorem c5o {w : World} {g : Nat} {t : TypeId} {v0 v1 v2 v3 v4 : Value} (h : Blk w g t #[v0, v1, v2, v3, v4]) : w.cell? ⟨g, 0, none⟩ = some v0 ∧ w.cell? ⟨g, 1, none⟩ = some v1 ∧ w.cell? ⟨g, 2, none⟩ = some v2 ∧ w.cell? ⟨g, 3, none⟩ = some v3 ∧ w.cell? ⟨g, 4, none⟩ = some v4 := ⟨h.at_ rfl, h.at_ rfl, h.at_ rfl, h.at_ rfl, h.at_ rfl⟩
set_option maxHeartbeats 16000000 in
set_option maxRecDepth 100000 in
theorem inside_w (o : Out) (v : Value) (l : List Str) (s : Str) (w : World) (hR : RdK encS 5 w v l) (hln : (l.length + 1) * 48 ≤ 140737488355328) (hnil : ∀ n c, v = .slice none n c → c = 0) :
    Calls Try.prog 6 #[outV o, v, strV s] w fun e w' => e = .returned (.bool true) ∧ Below w.heap.size w w' := by
  obtain ⟨wB, hwB⟩ : ∃ wB, wB = (w.alloc (OutB o)).alloc (StrB s) := ⟨_, rfl⟩
  have hb0 : Below w.heap.size w wB := by rw [hwB]; exact ((Below.refl w.heap.size w).alloc (Nat.le_refl _) _).alloc (by simp) _
  have hq0 : Blk wB w.heap.size 31 (OutC o) := by rw [hwB]; exact (Blk.new w 31 _).alloc _
  have hq1 : Blk wB (w.heap.size + 1) 46 (StrC s) := by
    rw [hwB]; have := Blk.new (w.alloc (OutB o)) 46 (StrC s); rwa [World.size_alloc] at this
  have HB0 := Lib.hid hb0
  have HQ0 := Lib.hid hq0
  have HQ1 := Lib.hid hq1
  have HWB := Lib.hid hwB
  have HLN := Lib.hid hln
  have HNIL := Lib.hid hnil
  have HR0 := Lib.hid (fun (W : World) (h : Below w.heap.size w W) => hR.below h)
  have HW1 := Lib.hid (fun (W : World) (h : Below w.heap.size w W) => Work_c o v l W (hR.below h) (by omega))
  have HW2 := Lib.hid (fun (u : Value) (W : World) (h : RdK encS 5 W u (l ++ [s])) => Work_c o u (l ++ [s]) W h (by simp; omega))
  have HW3 := Lib.hid (fun (u : Value) (W : World) (h : RdK encS 5 W u ([s] ++ l)) => Work_c o u ([s] ++ l) W h (by simp; omega))
  rw [work_head] at HW3
  have HRI := Lib.hid (fun W => right_c o.x o.y o.w o.h W)
  obtain ⟨rr, hrr⟩ : ∃ b, b = rightB o.x o.y o.w o.h := ⟨_, rfl⟩
  rw [← hrr] at HRI
  have hsame := fun h => work_not (o := o) (l := l) (s := s) h
  have hin1 := fun h => work_self (o := o) l h
  have hin2 := fun h => work_in (o := o) l s h
  have hwr := fun h => work_wrong (o := o) (l := l) h
  rw [← hrr] at hin1 hin2 hwr
  obtain ⟨⟨a0, a1, a2, a3⟩, ha⟩ : ∃ a, a = workI o l := ⟨_, rfl⟩
  obtain ⟨⟨b0, b1, b2, b3⟩, hb⟩ : ∃ a, a = workI o (l ++ [s]) := ⟨_, rfl⟩
  rw [← ha] at HW1 hsame hin1 hin2 hwr
  rw [← hb] at HW2 HW3 hsame hin2
  obtain ⟨⟨o0, o1, o2, o3, o4⟩, ⟨s0, s1, s2, s3, s4⟩⟩ := And.intro (c5o hq0) (c5o hq1)
  clear hb0 hq0 hq1 hwB hrr ha hb hR hln hnil
  go_enter Try.func6, Try.ntmps6
  go_upto_region 1 with fail
  rw [← HWB.out]
  go_wp2_with fail
  refine (HRI.out _).mono ?_
  rintro e w1 ⟨rfl, hb⟩
  have HB1 := Lib.hid (HB0.out.trans (hb.mono HB0.out.size))
  have HQ0 := Lib.hid (HQ0.out.next hb)
  have HQ1 := Lib.hid (HQ1.out.next hb)
  clear hb o0 o1 o2 o3 o4 s0 s1 s2 s3 s4 HWB HB0
  obtain ⟨⟨o0, o1, o2, o3, o4⟩, ⟨s0, s1, s2, s3, s4⟩⟩ := And.intro (c5o HQ0.out) (c5o HQ1.out)
  cases rr
  · have hz := hwr rfl
    simp only [zeroR, Rc.mk.injEq] at hz
    obtain ⟨rfl, rfl, rfl, rfl⟩ := hz
    clear hwr hin1 hin2 hsame HW2 HW3
    go_wp2_with fail
    refine (HW1.out _ HB1.out).mono ?_
    rintro e w2 ⟨rfl, hb⟩
    have HB2 := Lib.hid (HB1.out.trans (hb.mono HB1.out.size))
    clear hb o0 o1 o2 o3 o4 s0 s1 s2 s3 s4
    go_wp2_with fail
    refine (awake_c w2).mono ?_
    rintro e w3 ⟨rfl, hb⟩
    have HB3 := Lib.hid (HB2.out.trans (hb.mono HB2.out.size))
    clear hb
    go_wp2_with fail
    go_ret
    exact ⟨rfl, HB3.out⟩
  · have HIN1 := Lib.hid (hin1 rfl)
    have HIN2 := Lib.hid (hin2 rfl)
    have HSAME := Lib.hid hsame
    clear hwr hin1 hin2 hsame
    go_wp2_with fail
    refine (HW1.out _ HB1.out).mono ?_
    rintro e w2 ⟨rfl, hb⟩
    have HB2 := Lib.hid (HB1.out.trans (hb.mono HB1.out.size))
    have HQ0 := Lib.hid (HQ0.out.next hb)
    have HQ1 := Lib.hid (HQ1.out.next hb)
    clear hb o0 o1 o2 o3 o4 s0 s1 s2 s3 s4 HB1 HW1
    go_upto_region 4 with fail
    obtain ⟨w3, hw3⟩ : ∃ w3, w3 = w2.alloc (.cells #[.int .i64 a0, .int .i64 a1, .int .i64 a2, .int .i64 a3] 29) := ⟨_, rfl⟩
    have HB3 := Lib.hid (show Below w.heap.size w w3 from hw3 ▸ HB2.out.alloc HB2.out.size _)
    have HQ0 := Lib.hid (show Blk w3 w.heap.size 31 (OutC o) from hw3 ▸ HQ0.out.alloc _)
    have HQ1 := Lib.hid (show Blk w3 (w.heap.size + 1) 46 (StrC s) from hw3 ▸ HQ1.out.alloc _)
    have HQ7 := Lib.hid (show Blk w3 w2.heap.size 29 #[.int .i64 a0, .int .i64 a1, .int .i64 a2, .int .i64 a3] from hw3 ▸ Blk.new _ _ _)
    rw [← hw3]
    clear hw3
    have HSS : Hid (∀ W, Below w3.heap.size w3 W → W.cell? ⟨w.heap.size, 0, none⟩ = some (.string o.n) ∧ W.cell? ⟨w.heap.size, 1, none⟩ = some (.int .i64 o.x) ∧ W.cell? ⟨w.heap.size, 2, none⟩ = some (.int .i64 o.y) ∧ W.cell? ⟨w.heap.size, 3, none⟩ = some (.int .i64 o.w) ∧ W.cell? ⟨w.heap.size, 4, none⟩ = some (.int .i64 o.h) ∧ W.cell? ⟨(w.heap.size + 1), 0, none⟩ = some (.string s.n) ∧ W.cell? ⟨(w.heap.size + 1), 1, none⟩ = some (.int .i64 s.l) ∧ W.cell? ⟨(w.heap.size + 1), 2, none⟩ = some (.int .i64 s.r) ∧ W.cell? ⟨(w.heap.size + 1), 3, none⟩ = some (.int .i64 s.t) ∧ W.cell? ⟨(w.heap.size + 1), 4, none⟩ = some (.int .i64 s.b)) := fun W h => by
      obtain ⟨⟨o0, o1, o2, o3, o4⟩, ⟨s0, s1, s2, s3, s4⟩⟩ := And.intro (c5o (HQ0.out.next h)) (c5o (HQ1.out.next h))
      exact ⟨o0, o1, o2, o3, o4, s0, s1, s2, s3, s4⟩
    have HRL : Hid (∀ W, Below w3.heap.size w3 W → RdK encS 5 W v l) := fun W h => HR0.out W (HB3.out.trans (h.mono HB3.out.size))
    have HWK : Hid (∀ (u : Value) (W : World), RdK encS 5 W u (l ++ [s]) → Calls Try.prog 13 #[outV o, u] W fun e w' => e = .returned (.agg #[.int .i64 b0, .int .i64 b1, .int .i64 b2, .int .i64 b3]) ∧ Below W.heap.size W w') := HW2.out
    go_cut [8] (fun s8 wx => ∃ g, s8 = .pointer (some ⟨g, 0, none⟩) ∧ Blk wx g 29 #[.int .i64 b0, .int .i64 b1, .int .i64 b2, .int .i64 b3] ∧ Below w3.heap.size w3 wx)
    case first =>
      refine wp_region_noPanic ?_
      refine wp_region_held_drew (S := fun wx => wx.cell? ⟨w.heap.size, 0, none⟩ = some (.string o.n) ∧ wx.cell? ⟨w.heap.size, 1, none⟩ = some (.int .i64 o.x) ∧ wx.cell? ⟨w.heap.size, 2, none⟩ = some (.int .i64 o.y) ∧ wx.cell? ⟨w.heap.size, 3, none⟩ = some (.int .i64 o.w) ∧ wx.cell? ⟨w.heap.size, 4, none⟩ = some (.int .i64 o.h) ∧ wx.cell? ⟨(w.heap.size + 1), 0, none⟩ = some (.string s.n) ∧ wx.cell? ⟨(w.heap.size + 1), 1, none⟩ = some (.int .i64 s.l) ∧ wx.cell? ⟨(w.heap.size + 1), 2, none⟩ = some (.int .i64 s.r) ∧ wx.cell? ⟨(w.heap.size + 1), 3, none⟩ = some (.int .i64 s.t) ∧ wx.cell? ⟨(w.heap.size + 1), 4, none⟩ = some (.int .i64 s.b)) (by kernel_rfl) (by exact HSS.out _ (Below.refl _ _).drew) (fun hHeld => ?_)
      refine wpAnyH_take (i := 0) (v := ?vp0) rfl (by kernel_rfl) (by kernel_rfl) (by kernel_rfl) (fun _ _ _ h => h) (Or.inl ⟨by kernel_rfl, ?yp0⟩) (by assumption) ?rp0
      case yp0 => (intro wq hSw; (try dsimp only at hSw); go_simp; (try with_reducible rfl))
      (try simp only [Act.put, List.getElem_toArray, List.getElem_cons_zero, List.setIfInBounds_toArray, List.set_cons_zero, List.set_cons_succ])
      refine wpAnyH_take (i := 2) (v := ?vp2) rfl (by kernel_rfl) (by kernel_rfl) (by kernel_rfl) (fun _ _ _ h => h) (Or.inl ⟨by kernel_rfl, ?yp2⟩) (by assumption) ?rp2
      case yp2 => (intro wq hSw; (try dsimp only at hSw); go_simp; (try with_reducible rfl))
      (try simp only [Act.put, List.getElem_toArray, List.getElem_cons_succ, List.getElem_cons_zero, List.setIfInBounds_toArray, List.set_cons_zero, List.set_cons_succ])
      refine wpAnyH_take (i := 4) (v := ?vp4) rfl (by kernel_rfl) (by kernel_rfl) (by kernel_rfl) (fun _ _ _ h => h) (Or.inl ⟨by kernel_rfl, ?yp4⟩) (by assumption) ?rp4
      case yp4 => (intro wq hSw; (try dsimp only at hSw); go_simp; (try with_reducible rfl))
      (try simp only [Act.put, List.getElem_toArray, List.getElem_cons_succ, List.getElem_cons_zero, List.setIfInBounds_toArray, List.set_cons_zero, List.set_cons_succ])
      obtain ⟨wd, hwd⟩ : ∃ wd, wd = w3.drew := ⟨_, rfl⟩
      have HBd := Lib.hid (show Below w3.heap.size w3 wd from hwd ▸ (Below.refl _ _).drew)
      rw [← hwd]
      clear hwd
      refine wpAnyH_ready (rs := [1, 5, 8]) (by kernel_rfl) (by simp) ?_
      refine AllReadyH.cons rfl (fun K hK => ?_) (AllReadyH.cons rfl (fun K hK => ?_) (AllReadyH.cons rfl (fun K hK => ?_) AllReadyH.nil))
      · go_simp
        refine hK.out _ _ (by exact HSS.out _ (HBd.out.alloc HBd.out.size (.cells #[] 46))) (fun hHeld => ?_)
        clear hK K
        (try simp only [Act.put, List.getElem_toArray, List.getElem_cons_succ, List.getElem_cons_zero, List.setIfInBounds_toArray, List.set_cons_zero, List.set_cons_succ])
        obtain ⟨wp1, hwn⟩ : ∃ wn, wn = wd.alloc (.cells #[] 46) := ⟨_, rfl⟩
        have HBp1 := Lib.hid (show Below w3.heap.size w3 wp1 from hwn ▸ HBd.out.alloc HBd.out.size _)
        have HGp1 := Lib.hid (show Blk wp1 wd.heap.size 46 #[] from hwn ▸ Blk.new _ _ _)
        have HLp1 : Hid (w3.heap.size ≤ wd.heap.size) := HBd.out.size
        rw [← hwn]
        clear hwn
        refine wpAnyH_ready (rs := [3, 5, 8]) (by kernel_rfl) (by simp) ?_
        refine AllReadyH.cons rfl (fun K hK => ?_) (AllReadyH.cons rfl (fun K hK => ?_) (AllReadyH.cons rfl (fun K hK => ?_) AllReadyH.nil))
        · refine step_read rfl (.tmp 26) (.tmp 27) rfl w3.heap.size _ [] (by rfl) (OwS.none HGp1.out HLp1.out) _ l (by rfl) (HRL.out wp1 HBp1.out) HNIL.out (by have := HLN.out; simp; omega) HBp1.out.size ?_
          intro vp2 wp2 ho hg
          have ho : OwS wp2 w3.heap.size vp2 (l) := ho
          have hbn := below_only HBp1.out hg HBp1.out.size (fun k hk => (World.ownsRow.lt (OwS.none HGp1.out HLp1.out) k hk).1)
          have HOp2 := Lib.hid ho
          have HBp2 := Lib.hid hbn
          refine hK.out _ _ (by exact HSS.out _ hbn) (fun hHeld => ?_)
          clear hK K ho hg hbn
          (try simp only [Act.put, List.getElem_toArray, List.getElem_cons_succ, List.getElem_cons_zero, List.setIfInBounds_toArray, List.set_cons_zero, List.set_cons_succ])
          refine wpAnyH_ready (rs := [5, 8]) (by kernel_rfl) (by simp) ?_
          refine AllReadyH.cons rfl (fun K hK => ?_) (AllReadyH.cons rfl (fun K hK => ?_) AllReadyH.nil)
          · go_simp
            refine hK.out _ _ (by exact HSS.out _ (HBp2.out.alloc HBp2.out.size (.cells #[.string s.n, .int .i64 s.l, .int .i64 s.r, .int .i64 s.t, .int .i64 s.b] 46))) (fun hHeld => ?_)
            clear hK K
            (try simp only [Act.put, List.getElem_toArray, List.getElem_cons_succ, List.getElem_cons_zero, List.setIfInBounds_toArray, List.set_cons_zero, List.set_cons_succ])
            obtain ⟨wp3, hwn⟩ : ∃ wn, wn = wp2.alloc (.cells #[.string s.n, .int .i64 s.l, .int .i64 s.r, .int .i64 s.t, .int .i64 s.b] 46) := ⟨_, rfl⟩
            have HBp3 := Lib.hid (show Below w3.heap.size w3 wp3 from hwn ▸ HBp2.out.alloc HBp2.out.size _)
            have HGp3 := Lib.hid (show Blk wp3 wp2.heap.size 46 #[.string s.n, .int .i64 s.l, .int .i64 s.r, .int .i64 s.t, .int .i64 s.b] from hwn ▸ Blk.new _ _ _)
            have HLp3 : Hid (w3.heap.size ≤ wp2.heap.size) := HBp2.out.size
            have HOp2a := Lib.hid (HOp2.out.keep (hwn ▸ (Below.refl wp2.heap.size wp2).alloc (Nat.le_refl _) _))
            rw [← hwn]
            clear hwn
            refine wpAnyH_ready (rs := [6, 8]) (by kernel_rfl) (by simp) ?_
            refine AllReadyH.cons rfl (fun K hK => ?_) (AllReadyH.cons rfl (fun K hK => ?_) AllReadyH.nil)
            · refine step_read rfl (.tmp 28) (.tmp 30) rfl w3.heap.size _ l (by rfl) HOp2a.out _ [s] (by rfl) (OwS.one HGp3.out HLp3.out).reads (fun _ _ e => by cases e) (by have := HLN.out; simp; omega) HBp3.out.size ?_
              intro vp4 wp4 ho hg
              have ho : OwS wp4 w3.heap.size vp4 (l ++ [s]) := ho
              have hbn := below_only HBp3.out hg HBp3.out.size (fun k hk => (World.ownsRow.lt HOp2a.out k hk).1)
              have HOp4 := Lib.hid ho
              have HBp4 := Lib.hid hbn
              refine hK.out _ _ (by exact HSS.out _ hbn) (fun hHeld => ?_)
              clear hK K ho hg hbn
              (try simp only [Act.put, List.getElem_toArray, List.getElem_cons_succ, List.getElem_cons_zero, List.setIfInBounds_toArray, List.set_cons_zero, List.set_cons_succ])
              refine wpAnyH_ready (rs := [7, 8]) (by kernel_rfl) (by simp) ?_
              refine AllReadyH.cons rfl (fun K hK => ?_) (AllReadyH.cons rfl (fun K hK => ?_) AllReadyH.nil)
              · go_simp
                refine (HWK.out vp4 wp4 HOp4.out.reads).mono ?_
                rintro e wp5 ⟨rfl, hb⟩
                have hbn := HBp4.out.trans (hb.mono HBp4.out.size)
                have HBp5 := Lib.hid hbn
                (try dsimp only)
                refine hK.out _ _ (by exact HSS.out _ hbn) (fun hHeld => ?_)
                clear hK K hb hbn
                (try simp only [Act.put, List.getElem_toArray, List.getElem_cons_succ, List.getElem_cons_zero, List.setIfInBounds_toArray, List.set_cons_zero, List.set_cons_succ])
                refine wpAnyH_ready (rs := [8]) (by kernel_rfl) (by simp) ?_
                refine AllReadyH.cons rfl (fun K hK => ?_) AllReadyH.nil
                go_simp
                refine hK.out _ _ (by exact HSS.out _ (HBp5.out.alloc HBp5.out.size (.cells #[.int .i64 0, .int .i64 0, .int .i64 0, .int .i64 0] 29))) (fun hHeld => ?_)
                clear hK K
                (try simp only [Act.put, List.getElem_toArray, List.getElem_cons_succ, List.getElem_cons_zero, List.setIfInBounds_toArray, List.set_cons_zero, List.set_cons_succ])
                obtain ⟨wp6, hwn⟩ : ∃ wn, wn = wp5.alloc (.cells #[.int .i64 0, .int .i64 0, .int .i64 0, .int .i64 0] 29) := ⟨_, rfl⟩
                have HBp6 := Lib.hid (show Below w3.heap.size w3 wp6 from hwn ▸ HBp5.out.alloc HBp5.out.size _)
                have HGp6 := Lib.hid (show Blk wp6 wp5.heap.size 29 #[.int .i64 0, .int .i64 0, .int .i64 0, .int .i64 0] from hwn ▸ Blk.new _ _ _)
                have HLp6 : Hid (w3.heap.size ≤ wp5.heap.size) := HBp5.out.size
                rw [← hwn]
                clear hwn
                obtain ⟨⟨g0, g1, g2, g3⟩, k0, k1, k2, k3⟩ := HGp6.out.c4
                refine wpAnyH_ready (rs := [9]) (by kernel_rfl) (by simp) ?_
                refine AllReadyH.cons rfl (fun K hK => ?_) AllReadyH.nil
                go_simp
                have hbn := st4_below HBp6.out HLp6.out (.int .i64 b0) (.int .i64 b1) (.int .i64 b2) (.int .i64 b3)
                have hqn := st4_blk HGp6.out (.int .i64 b0) (.int .i64 b1) (.int .i64 b2) (.int .i64 b3)
                refine hK.out _ _ (by exact HSS.out _ hbn) (fun hHeld => ?_)
                clear hK K
                (try simp only [Act.put, List.getElem_toArray, List.getElem_cons_succ, List.getElem_cons_zero, List.setIfInBounds_toArray, List.set_cons_zero, List.set_cons_succ])
                refine wpAnyH_done (by kernel_rfl) ?_ _
                refine NoPanic.normal ?_
                clear g0 g1 g2 g3 k0 k1 k2 k3 hHeld
                go_wp2_with fail
                go_meet
                exact ⟨_, rfl, hqn, hbn⟩
              · go_simp
                refine hK.out _ _ (by exact HSS.out _ (HBp4.out.alloc HBp4.out.size (.cells #[.int .i64 0, .int .i64 0, .int .i64 0, .int .i64 0] 29))) (fun hHeld => ?_)
                clear hK K
                (try simp only [Act.put, List.getElem_toArray, List.getElem_cons_succ, List.getElem_cons_zero, List.setIfInBounds_toArray, List.set_cons_zero, List.set_cons_succ])
                obtain ⟨wp7, hwn⟩ : ∃ wn, wn = wp4.alloc (.cells #[.int .i64 0, .int .i64 0, .int .i64 0, .int .i64 0] 29) := ⟨_, rfl⟩
                have HBp7 := Lib.hid (show Below w3.heap.size w3 wp7 from hwn ▸ HBp4.out.alloc HBp4.out.size _)
                have HGp7 := Lib.hid (show Blk wp7 wp4.heap.size 29 #[.int .i64 0, .int .i64 0, .int .i64 0, .int .i64 0] from hwn ▸ Blk.new _ _ _)
                have HLp7 : Hid (w3.heap.size ≤ wp4.heap.size) := HBp4.out.size
                have HOp4a := Lib.hid (HOp4.out.keep (hwn ▸ (Below.refl wp4.heap.size wp4).alloc (Nat.le_refl _) _))
                rw [← hwn]
                clear hwn
                refine wpAnyH_ready (rs := [7]) (by kernel_rfl) (by simp) ?_
                refine AllReadyH.cons rfl (fun K hK => ?_) AllReadyH.nil
                go_simp
                refine (HWK.out vp4 wp7 HOp4a.out.reads).mono ?_
                rintro e wp8 ⟨rfl, hb⟩
                have hbn := HBp7.out.trans (hb.mono HBp7.out.size)
                have HBp8 := Lib.hid hbn
                have HGp7c := Lib.hid (HGp7.out.next hb)
                (try dsimp only)
                refine hK.out _ _ (by exact HSS.out _ hbn) (fun hHeld => ?_)
                clear hK K hb hbn
                (try simp only [Act.put, List.getElem_toArray, List.getElem_cons_succ, List.getElem_cons_zero, List.setIfInBounds_toArray, List.set_cons_zero, List.set_cons_succ])
                obtain ⟨⟨g0, g1, g2, g3⟩, k0, k1, k2, k3⟩ := HGp7c.out.c4
                refine wpAnyH_ready (rs := [9]) (by kernel_rfl) (by simp) ?_
                refine AllReadyH.cons rfl (fun K hK => ?_) AllReadyH.nil
                go_simp
                have hbn := st4_below HBp8.out HLp7.out (.int .i64 b0) (.int .i64 b1) (.int .i64 b2) (.int .i64 b3)
                have hqn := st4_blk HGp7c.out (.int .i64 b0) (.int .i64 b1) (.int .i64 b2) (.int .i64 b3)
                refine hK.out _ _ (by exact HSS.out _ hbn) (fun hHeld => ?_)
                clear hK K
                (try simp only [Act.put, List.getElem_toArray, List.getElem_cons_succ, List.getElem_cons_zero, List.setIfInBounds_toArray, List.set_cons_zero, List.set_cons_succ])
                refine wpAnyH_done (by kernel_rfl) ?_ _
                refine NoPanic.normal ?_
                clear g0 g1 g2 g3 k0 k1 k2 k3 hHeld
                go_wp2_with fail
                go_meet
                exact ⟨_, rfl, hqn, hbn⟩
            · go_simp
              refine hK.out _ _ (by exact HSS.out _ (HBp3.out.alloc HBp3.out.size (.cells #[.int .i64 0, .int .i64 0, .int .i64 0, .int .i64 0] 29))) (fun hHeld => ?_)
              clear hK K
              (try simp only [Act.put, List.getElem_toArray, List.getElem_cons_succ, List.getElem_cons_zero, List.setIfInBounds_toArray, List.set_cons_zero, List.set_cons_succ])
              obtain ⟨wp9, hwn⟩ : ∃ wn, wn = wp3.alloc (.cells #[.int .i64 0, .int .i64 0, .int .i64 0, .int .i64 0] 29) := ⟨_, rfl⟩
              have HBp9 := Lib.hid (show Below w3.heap.size w3 wp9 from hwn ▸ HBp3.out.alloc HBp3.out.size _)
              have HGp9 := Lib.hid (show Blk wp9 wp3.heap.size 29 #[.int .i64 0, .int .i64 0, .int .i64 0, .int .i64 0] from hwn ▸ Blk.new _ _ _)
              have HLp9 : Hid (w3.heap.size ≤ wp3.heap.size) := HBp3.out.size
              have HOp2aa := Lib.hid (HOp2a.out.keep (hwn ▸ (Below.refl wp3.heap.size wp3).alloc (Nat.le_refl _) _))
              have HGp3a := Lib.hid (show Blk wp9 wp2.heap.size 46 #[.string s.n, .int .i64 s.l, .int .i64 s.r, .int .i64 s.t, .int .i64 s.b] from hwn ▸ HGp3.out.alloc _)
              rw [← hwn]
              clear hwn
              refine wpAnyH_ready (rs := [6]) (by kernel_rfl) (by simp) ?_
              refine AllReadyH.cons rfl (fun K hK => ?_) AllReadyH.nil
              refine step_read rfl (.tmp 28) (.tmp 30) rfl w3.heap.size _ l (by rfl) HOp2aa.out _ [s] (by rfl) (OwS.one HGp3a.out HLp3.out).reads (fun _ _ e => by cases e) (by have := HLN.out; simp; omega) HBp9.out.size ?_
              intro vp10 wp10 ho hg
              have ho : OwS wp10 w3.heap.size vp10 (l ++ [s]) := ho
              have hbn := below_only HBp9.out hg HBp9.out.size (fun k hk => (World.ownsRow.lt HOp2aa.out k hk).1)
              have HGp9b := Lib.hid (HGp9.out.grown hg (OwS.far HOp2aa.out HGp9.out (by decide)))
              have HOp10 := Lib.hid ho
              have HBp10 := Lib.hid hbn
              refine hK.out _ _ (by exact HSS.out _ hbn) (fun hHeld => ?_)
              clear hK K ho hg hbn
              (try simp only [Act.put, List.getElem_toArray, List.getElem_cons_succ, List.getElem_cons_zero, List.setIfInBounds_toArray, List.set_cons_zero, List.set_cons_succ])
              refine wpAnyH_ready (rs := [7]) (by kernel_rfl) (by simp) ?_
              refine AllReadyH.cons rfl (fun K hK => ?_) AllReadyH.nil
              go_simp
              refine (HWK.out vp10 wp10 HOp10.out.reads).mono ?_
              rintro e wp11 ⟨rfl, hb⟩
              have hbn := HBp10.out.trans (hb.mono HBp10.out.size)
              have HBp11 := Lib.hid hbn
              have HGp9bc := Lib.hid (HGp9b.out.next hb)
              (try dsimp only)
              refine hK.out _ _ (by exact HSS.out _ hbn) (fun hHeld => ?_)
              clear hK K hb hbn
              (try simp only [Act.put, List.getElem_toArray, List.getElem_cons_succ, List.getElem_cons_zero, List.setIfInBounds_toArray, List.set_cons_zero, List.set_cons_succ])
              obtain ⟨⟨g0, g1, g2, g3⟩, k0, k1, k2, k3⟩ := HGp9bc.out.c4
              refine wpAnyH_ready (rs := [9]) (by kernel_rfl) (by simp) ?_
              refine AllReadyH.cons rfl (fun K hK => ?_) AllReadyH.nil
              go_simp
              have hbn := st4_below HBp11.out HLp9.out (.int .i64 b0) (.int .i64 b1) (.int .i64 b2) (.int .i64 b3)
              have hqn := st4_blk HGp9bc.out (.int .i64 b0) (.int .i64 b1) (.int .i64 b2) (.int .i64 b3)
              refine hK.out _ _ (by exact HSS.out _ hbn) (fun hHeld => ?_)
              clear hK K
              (try simp only [Act.put, List.getElem_toArray, List.getElem_cons_succ, List.getElem_cons_zero, List.setIfInBounds_toArray, List.set_cons_zero, List.set_cons_succ])
              refine wpAnyH_done (by kernel_rfl) ?_ _
              refine NoPanic.normal ?_
              clear g0 g1 g2 g3 k0 k1 k2 k3 hHeld
              go_wp2_with fail
              go_meet
              exact ⟨_, rfl, hqn, hbn⟩
          · go_simp
            refine hK.out _ _ (by exact HSS.out _ (HBp2.out.alloc HBp2.out.size (.cells #[.int .i64 0, .int .i64 0, .int .i64 0, .int .i64 0] 29))) (fun hHeld => ?_)
            clear hK K
            (try simp only [Act.put, List.getElem_toArray, List.getElem_cons_succ, List.getElem_cons_zero, List.setIfInBounds_toArray, List.set_cons_zero, List.set_cons_succ])
            obtain ⟨wp12, hwn⟩ : ∃ wn, wn = wp2.alloc (.cells #[.int .i64 0, .int .i64 0, .int .i64 0, .int .i64 0] 29) := ⟨_, rfl⟩
            have HBp12 := Lib.hid (show Below w3.heap.size w3 wp12 from hwn ▸ HBp2.out.alloc HBp2.out.size _)
            have HGp12 := Lib.hid (show Blk wp12 wp2.heap.size 29 #[.int .i64 0, .int .i64 0, .int .i64 0, .int .i64 0] from hwn ▸ Blk.new _ _ _)
            have HLp12 : Hid (w3.heap.size ≤ wp2.heap.size) := HBp2.out.size
            have HOp2a := Lib.hid (HOp2.out.keep (hwn ▸ (Below.refl wp2.heap.size wp2).alloc (Nat.le_refl _) _))
            rw [← hwn]
            clear hwn
            refine wpAnyH_ready (rs := [5]) (by kernel_rfl) (by simp) ?_
            refine AllReadyH.cons rfl (fun K hK => ?_) AllReadyH.nil
            go_simp
            refine hK.out _ _ (by exact HSS.out _ (HBp12.out.alloc HBp12.out.size (.cells #[.string s.n, .int .i64 s.l, .int .i64 s.r, .int .i64 s.t, .int .i64 s.b] 46))) (fun hHeld => ?_)
            clear hK K
            (try simp only [Act.put, List.getElem_toArray, List.getElem_cons_succ, List.getElem_cons_zero, List.setIfInBounds_toArray, List.set_cons_zero, List.set_cons_succ])
            obtain ⟨wp13, hwn⟩ : ∃ wn, wn = wp12.alloc (.cells #[.string s.n, .int .i64 s.l, .int .i64 s.r, .int .i64 s.t, .int .i64 s.b] 46) := ⟨_, rfl⟩
            have HBp13 := Lib.hid (show Below w3.heap.size w3 wp13 from hwn ▸ HBp12.out.alloc HBp12.out.size _)
            have HGp13 := Lib.hid (show Blk wp13 wp12.heap.size 46 #[.string s.n, .int .i64 s.l, .int .i64 s.r, .int .i64 s.t, .int .i64 s.b] from hwn ▸ Blk.new _ _ _)
            have HLp13 : Hid (w3.heap.size ≤ wp12.heap.size) := HBp12.out.size
            have HOp2aa := Lib.hid (HOp2a.out.keep (hwn ▸ (Below.refl wp12.heap.size wp12).alloc (Nat.le_refl _) _))
            have HGp12a := Lib.hid (show Blk wp13 wp2.heap.size 29 #[.int .i64 0, .int .i64 0, .int .i64 0, .int .i64 0] from hwn ▸ HGp12.out.alloc _)
            rw [← hwn]
            clear hwn
            refine wpAnyH_ready (rs := [6]) (by kernel_rfl) (by simp) ?_
            refine AllReadyH.cons rfl (fun K hK => ?_) AllReadyH.nil
            refine step_read rfl (.tmp 28) (.tmp 30) rfl w3.heap.size _ l (by rfl) HOp2aa.out _ [s] (by rfl) (OwS.one HGp13.out HLp13.out).reads (fun _ _ e => by cases e) (by have := HLN.out; simp; omega) HBp13.out.size ?_
            intro vp14 wp14 ho hg
            have ho : OwS wp14 w3.heap.size vp14 (l ++ [s]) := ho
            have hbn := below_only HBp13.out hg HBp13.out.size (fun k hk => (World.ownsRow.lt HOp2aa.out k hk).1)
            have HGp12ab := Lib.hid (HGp12a.out.grown hg (OwS.far HOp2aa.out HGp12a.out (by decide)))
            have HOp14 := Lib.hid ho
            have HBp14 := Lib.hid hbn
            refine hK.out _ _ (by exact HSS.out _ hbn) (fun hHeld => ?_)
            clear hK K ho hg hbn
            (try simp only [Act.put, List.getElem_toArray, List.getElem_cons_succ, List.getElem_cons_zero, List.setIfInBounds_toArray, List.set_cons_zero, List.set_cons_succ])
            refine wpAnyH_ready (rs := [7]) (by kernel_rfl) (by simp) ?_
            refine AllReadyH.cons rfl (fun K hK => ?_) AllReadyH.nil
            go_simp
            refine (HWK.out vp14 wp14 HOp14.out.reads).mono ?_
            rintro e wp15 ⟨rfl, hb⟩
            have hbn := HBp14.out.trans (hb.mono HBp14.out.size)
            have HBp15 := Lib.hid hbn
            have HGp12abc := Lib.hid (HGp12ab.out.next hb)
            (try dsimp only)
            refine hK.out _ _ (by exact HSS.out _ hbn) (fun hHeld => ?_)
            clear hK K hb hbn
            (try simp only [Act.put, List.getElem_toArray, List.getElem_cons_succ, List.getElem_cons_zero, List.setIfInBounds_toArray, List.set_cons_zero, List.set_cons_succ])
            obtain ⟨⟨g0, g1, g2, g3⟩, k0, k1, k2, k3⟩ := HGp12abc.out.c4
            refine wpAnyH_ready (rs := [9]) (by kernel_rfl) (by simp) ?_
            refine AllReadyH.cons rfl (fun K hK => ?_) AllReadyH.nil
            go_simp
            have hbn := st4_below HBp15.out HLp12.out (.int .i64 b0) (.int .i64 b1) (.int .i64 b2) (.int .i64 b3)
            have hqn := st4_blk HGp12abc.out (.int .i64 b0) (.int .i64 b1) (.int .i64 b2) (.int .i64 b3)
            refine hK.out _ _ (by exact HSS.out _ hbn) (fun hHeld => ?_)
            clear hK K
            (try simp only [Act.put, List.getElem_toArray, List.getElem_cons_succ, List.getElem_cons_zero, List.setIfInBounds_toArray, List.set_cons_zero, List.set_cons_succ])
            refine wpAnyH_done (by kernel_rfl) ?_ _
            refine NoPanic.normal ?_
            clear g0 g1 g2 g3 k0 k1 k2 k3 hHeld
            go_wp2_with fail
            go_meet
            exact ⟨_, rfl, hqn, hbn⟩
        · go_simp
          refine hK.out _ _ (by exact HSS.out _ (HBp1.out.alloc HBp1.out.size (.cells #[.string s.n, .int .i64 s.l, .int .i64 s.r, .int .i64 s.t, .int .i64 s.b] 46))) (fun hHeld => ?_)
          clear hK K
          (try simp only [Act.put, List.getElem_toArray, List.getElem_cons_succ, List.getElem_cons_zero, List.setIfInBounds_toArray, List.set_cons_zero, List.set_cons_succ])
          obtain ⟨wp16, hwn⟩ : ∃ wn, wn = wp1.alloc (.cells #[.string s.n, .int .i64 s.l, .int .i64 s.r, .int .i64 s.t, .int .i64 s.b] 46) := ⟨_, rfl⟩
          have HBp16 := Lib.hid (show Below w3.heap.size w3 wp16 from hwn ▸ HBp1.out.alloc HBp1.out.size _)
          have HGp16 := Lib.hid (show Blk wp16 wp1.heap.size 46 #[.string s.n, .int .i64 s.l, .int .i64 s.r, .int .i64 s.t, .int .i64 s.b] from hwn ▸ Blk.new _ _ _)
          have HLp16 : Hid (w3.heap.size ≤ wp1.heap.size) := HBp1.out.size
          have HGp1a := Lib.hid (show Blk wp16 wd.heap.size 46 #[] from hwn ▸ HGp1.out.alloc _)
          have HNEp16 : Hid (wd.heap.size ≠ wp1.heap.size) := Nat.ne_of_lt HGp1.out.lt
          rw [← hwn]
          clear hwn
          refine wpAnyH_ready (rs := [3, 8]) (by kernel_rfl) (by simp) ?_
          refine AllReadyH.cons rfl (fun K hK => ?_) (AllReadyH.cons rfl (fun K hK => ?_) AllReadyH.nil)
          · refine step_read rfl (.tmp 26) (.tmp 27) rfl w3.heap.size _ [] (by rfl) (OwS.none HGp1a.out HLp1.out) _ l (by rfl) (HRL.out wp16 HBp16.out) HNIL.out (by have := HLN.out; simp; omega) HBp16.out.size ?_
            intro vp17 wp17 ho hg
            have ho : OwS wp17 w3.heap.size vp17 (l) := ho
            have hbn := below_only HBp16.out hg HBp16.out.size (fun k hk => (World.ownsRow.lt (OwS.none HGp1a.out HLp1.out) k hk).1)
            have HGp16b := Lib.hid (HGp16.out.grown hg (fun e => (show wp1.heap.size ≠ wd.heap.size from by first | exact HNEp16.out | exact fun e => HNEp16.out e.symm) (Option.some.inj e)))
            have HOp17 := Lib.hid ho
            have HBp17 := Lib.hid hbn
            refine hK.out _ _ (by exact HSS.out _ hbn) (fun hHeld => ?_)
            clear hK K ho hg hbn
            (try simp only [Act.put, List.getElem_toArray, List.getElem_cons_succ, List.getElem_cons_zero, List.setIfInBounds_toArray, List.set_cons_zero, List.set_cons_succ])
            refine wpAnyH_ready (rs := [6, 8]) (by kernel_rfl) (by simp) ?_
            refine AllReadyH.cons rfl (fun K hK => ?_) (AllReadyH.cons rfl (fun K hK => ?_) AllReadyH.nil)
            · refine step_read rfl (.tmp 28) (.tmp 30) rfl w3.heap.size _ l (by rfl) HOp17.out _ [s] (by rfl) (OwS.one HGp16b.out HLp16.out).reads (fun _ _ e => by cases e) (by have := HLN.out; simp; omega) HBp17.out.size ?_
              intro vp18 wp18 ho hg
              have ho : OwS wp18 w3.heap.size vp18 (l ++ [s]) := ho
              have hbn := below_only HBp17.out hg HBp17.out.size (fun k hk => (World.ownsRow.lt HOp17.out k hk).1)
              have HOp18 := Lib.hid ho
              have HBp18 := Lib.hid hbn
              refine hK.out _ _ (by exact HSS.out _ hbn) (fun hHeld => ?_)
              clear hK K ho hg hbn
              (try simp only [Act.put, List.getElem_toArray, List.getElem_cons_succ, List.getElem_cons_zero, List.setIfInBounds_toArray, List.set_cons_zero, List.set_cons_succ])
              refine wpAnyH_ready (rs := [7, 8]) (by kernel_rfl) (by simp) ?_
              refine AllReadyH.cons rfl (fun K hK => ?_) (AllReadyH.cons rfl (fun K hK => ?_) AllReadyH.nil)
              · go_simp
                refine (HWK.out vp18 wp18 HOp18.out.reads).mono ?_
                rintro e wp19 ⟨rfl, hb⟩
                have hbn := HBp18.out.trans (hb.mono HBp18.out.size)
                have HBp19 := Lib.hid hbn
                (try dsimp only)
                refine hK.out _ _ (by exact HSS.out _ hbn) (fun hHeld => ?_)
                clear hK K hb hbn
                (try simp only [Act.put, List.getElem_toArray, List.getElem_cons_succ, List.getElem_cons_zero, List.setIfInBounds_toArray, List.set_cons_zero, List.set_cons_succ])
                refine wpAnyH_ready (rs := [8]) (by kernel_rfl) (by simp) ?_
                refine AllReadyH.cons rfl (fun K hK => ?_) AllReadyH.nil
                go_simp
                refine hK.out _ _ (by exact HSS.out _ (HBp19.out.alloc HBp19.out.size (.cells #[.int .i64 0, .int .i64 0, .int .i64 0, .int .i64 0] 29))) (fun hHeld => ?_)
                clear hK K
                (try simp only [Act.put, List.getElem_toArray, List.getElem_cons_succ, List.getElem_cons_zero, List.setIfInBounds_toArray, List.set_cons_zero, List.set_cons_succ])
                obtain ⟨wp20, hwn⟩ : ∃ wn, wn = wp19.alloc (.cells #[.int .i64 0, .int .i64 0, .int .i64 0, .int .i64 0] 29) := ⟨_, rfl⟩
                have HBp20 := Lib.hid (show Below w3.heap.size w3 wp20 from hwn ▸ HBp19.out.alloc HBp19.out.size _)
                have HGp20 := Lib.hid (show Blk wp20 wp19.heap.size 29 #[.int .i64 0, .int .i64 0, .int .i64 0, .int .i64 0] from hwn ▸ Blk.new _ _ _)
                have HLp20 : Hid (w3.heap.size ≤ wp19.heap.size) := HBp19.out.size
                rw [← hwn]
                clear hwn
                obtain ⟨⟨g0, g1, g2, g3⟩, k0, k1, k2, k3⟩ := HGp20.out.c4
                refine wpAnyH_ready (rs := [9]) (by kernel_rfl) (by simp) ?_
                refine AllReadyH.cons rfl (fun K hK => ?_) AllReadyH.nil
                go_simp
                have hbn := st4_below HBp20.out HLp20.out (.int .i64 b0) (.int .i64 b1) (.int .i64 b2) (.int .i64 b3)
                have hqn := st4_blk HGp20.out (.int .i64 b0) (.int .i64 b1) (.int .i64 b2) (.int .i64 b3)
                refine hK.out _ _ (by exact HSS.out _ hbn) (fun hHeld => ?_)
                clear hK K
                (try simp only [Act.put, List.getElem_toArray, List.getElem_cons_succ, List.getElem_cons_zero, List.setIfInBounds_toArray, List.set_cons_zero, List.set_cons_succ])
                refine wpAnyH_done (by kernel_rfl) ?_ _
                refine NoPanic.normal ?_
                clear g0 g1 g2 g3 k0 k1 k2 k3 hHeld
                go_wp2_with fail
                go_meet
                exact ⟨_, rfl, hqn, hbn⟩
              · go_simp
                refine hK.out _ _ (by exact HSS.out _ (HBp18.out.alloc HBp18.out.size (.cells #[.int .i64 0, .int .i64 0, .int .i64 0, .int .i64 0] 29))) (fun hHeld => ?_)
                clear hK K
                (try simp only [Act.put, List.getElem_toArray, List.getElem_cons_succ, List.getElem_cons_zero, List.setIfInBounds_toArray, List.set_cons_zero, List.set_cons_succ])
                obtain ⟨wp21, hwn⟩ : ∃ wn, wn = wp18.alloc (.cells #[.int .i64 0, .int .i64 0, .int .i64 0, .int .i64 0] 29) := ⟨_, rfl⟩
                have HBp21 := Lib.hid (show Below w3.heap.size w3 wp21 from hwn ▸ HBp18.out.alloc HBp18.out.size _)
                have HGp21 := Lib.hid (show Blk wp21 wp18.heap.size 29 #[.int .i64 0, .int .i64 0, .int .i64 0, .int .i64 0] from hwn ▸ Blk.new _ _ _)
                have HLp21 : Hid (w3.heap.size ≤ wp18.heap.size) := HBp18.out.size
                have HOp18a := Lib.hid (HOp18.out.keep (hwn ▸ (Below.refl wp18.heap.size wp18).alloc (Nat.le_refl _) _))
                rw [← hwn]
                clear hwn
                refine wpAnyH_ready (rs := [7]) (by kernel_rfl) (by simp) ?_
                refine AllReadyH.cons rfl (fun K hK => ?_) AllReadyH.nil
                go_simp
                refine (HWK.out vp18 wp21 HOp18a.out.reads).mono ?_
                rintro e wp22 ⟨rfl, hb⟩
                have hbn := HBp21.out.trans (hb.mono HBp21.out.size)
                have HBp22 := Lib.hid hbn
                have HGp21c := Lib.hid (HGp21.out.next hb)
                (try dsimp only)
                refine hK.out _ _ (by exact HSS.out _ hbn) (fun hHeld => ?_)
                clear hK K hb hbn
                (try simp only [Act.put, List.getElem_toArray, List.getElem_cons_succ, List.getElem_cons_zero, List.setIfInBounds_toArray, List.set_cons_zero, List.set_cons_succ])
                obtain ⟨⟨g0, g1, g2, g3⟩, k0, k1, k2, k3⟩ := HGp21c.out.c4
                refine wpAnyH_ready (rs := [9]) (by kernel_rfl) (by simp) ?_
                refine AllReadyH.cons rfl (fun K hK => ?_) AllReadyH.nil
                go_simp
                have hbn := st4_below HBp22.out HLp21.out (.int .i64 b0) (.int .i64 b1) (.int .i64 b2) (.int .i64 b3)
                have hqn := st4_blk HGp21c.out (.int .i64 b0) (.int .i64 b1) (.int .i64 b2) (.int .i64 b3)
                refine hK.out _ _ (by exact HSS.out _ hbn) (fun hHeld => ?_)
                clear hK K
                (try simp only [Act.put, List.getElem_toArray, List.getElem_cons_succ, List.getElem_cons_zero, List.setIfInBounds_toArray, List.set_cons_zero, List.set_cons_succ])
                refine wpAnyH_done (by kernel_rfl) ?_ _
                refine NoPanic.normal ?_
                clear g0 g1 g2 g3 k0 k1 k2 k3 hHeld
                go_wp2_with fail
                go_meet
                exact ⟨_, rfl, hqn, hbn⟩
            · go_simp
              refine hK.out _ _ (by exact HSS.out _ (HBp17.out.alloc HBp17.out.size (.cells #[.int .i64 0, .int .i64 0, .int .i64 0, .int .i64 0] 29))) (fun hHeld => ?_)
              clear hK K
              (try simp only [Act.put, List.getElem_toArray, List.getElem_cons_succ, List.getElem_cons_zero, List.setIfInBounds_toArray, List.set_cons_zero, List.set_cons_succ])
              obtain ⟨wp23, hwn⟩ : ∃ wn, wn = wp17.alloc (.cells #[.int .i64 0, .int .i64 0, .int .i64 0, .int .i64 0] 29) := ⟨_, rfl⟩
              have HBp23 := Lib.hid (show Below w3.heap.size w3 wp23 from hwn ▸ HBp17.out.alloc HBp17.out.size _)
              have HGp23 := Lib.hid (show Blk wp23 wp17.heap.size 29 #[.int .i64 0, .int .i64 0, .int .i64 0, .int .i64 0] from hwn ▸ Blk.new _ _ _)
              have HLp23 : Hid (w3.heap.size ≤ wp17.heap.size) := HBp17.out.size
              have HGp16ba := Lib.hid (show Blk wp23 wp1.heap.size 46 #[.string s.n, .int .i64 s.l, .int .i64 s.r, .int .i64 s.t, .int .i64 s.b] from hwn ▸ HGp16b.out.alloc _)
              have HOp17a := Lib.hid (HOp17.out.keep (hwn ▸ (Below.refl wp17.heap.size wp17).alloc (Nat.le_refl _) _))
              rw [← hwn]
              clear hwn
              refine wpAnyH_ready (rs := [6]) (by kernel_rfl) (by simp) ?_
              refine AllReadyH.cons rfl (fun K hK => ?_) AllReadyH.nil
              refine step_read rfl (.tmp 28) (.tmp 30) rfl w3.heap.size _ l (by rfl) HOp17a.out _ [s] (by rfl) (OwS.one HGp16ba.out HLp16.out).reads (fun _ _ e => by cases e) (by have := HLN.out; simp; omega) HBp23.out.size ?_
              intro vp24 wp24 ho hg
              have ho : OwS wp24 w3.heap.size vp24 (l ++ [s]) := ho
              have hbn := below_only HBp23.out hg HBp23.out.size (fun k hk => (World.ownsRow.lt HOp17a.out k hk).1)
              have HGp23b := Lib.hid (HGp23.out.grown hg (OwS.far HOp17a.out HGp23.out (by decide)))
              have HOp24 := Lib.hid ho
              have HBp24 := Lib.hid hbn
              refine hK.out _ _ (by exact HSS.out _ hbn) (fun hHeld => ?_)
              clear hK K ho hg hbn
              (try simp only [Act.put, List.getElem_toArray, List.getElem_cons_succ, List.getElem_cons_zero, List.setIfInBounds_toArray, List.set_cons_zero, List.set_cons_succ])
              refine wpAnyH_ready (rs := [7]) (by kernel_rfl) (by simp) ?_
              refine AllReadyH.cons rfl (fun K hK => ?_) AllReadyH.nil
              go_simp
              refine (HWK.out vp24 wp24 HOp24.out.reads).mono ?_
              rintro e wp25 ⟨rfl, hb⟩
              have hbn := HBp24.out.trans (hb.mono HBp24.out.size)
              have HBp25 := Lib.hid hbn
              have HGp23bc := Lib.hid (HGp23b.out.next hb)
              (try dsimp only)
              refine hK.out _ _ (by exact HSS.out _ hbn) (fun hHeld => ?_)
              clear hK K hb hbn
              (try simp only [Act.put, List.getElem_toArray, List.getElem_cons_succ, List.getElem_cons_zero, List.setIfInBounds_toArray, List.set_cons_zero, List.set_cons_succ])
              obtain ⟨⟨g0, g1, g2, g3⟩, k0, k1, k2, k3⟩ := HGp23bc.out.c4
              refine wpAnyH_ready (rs := [9]) (by kernel_rfl) (by simp) ?_
              refine AllReadyH.cons rfl (fun K hK => ?_) AllReadyH.nil
              go_simp
              have hbn := st4_below HBp25.out HLp23.out (.int .i64 b0) (.int .i64 b1) (.int .i64 b2) (.int .i64 b3)
              have hqn := st4_blk HGp23bc.out (.int .i64 b0) (.int .i64 b1) (.int .i64 b2) (.int .i64 b3)
              refine hK.out _ _ (by exact HSS.out _ hbn) (fun hHeld => ?_)
              clear hK K
              (try simp only [Act.put, List.getElem_toArray, List.getElem_cons_succ, List.getElem_cons_zero, List.setIfInBounds_toArray, List.set_cons_zero, List.set_cons_succ])
              refine wpAnyH_done (by kernel_rfl) ?_ _
              refine NoPanic.normal ?_
              clear g0 g1 g2 g3 k0 k1 k2 k3 hHeld
              go_wp2_with fail
              go_meet
              exact ⟨_, rfl, hqn, hbn⟩
          · go_simp
            refine hK.out _ _ (by exact HSS.out _ (HBp16.out.alloc HBp16.out.size (.cells #[.int .i64 0, .int .i64 0, .int .i64 0, .int .i64 0] 29))) (fun hHeld => ?_)
            clear hK K
            (try simp only [Act.put, List.getElem_toArray, List.getElem_cons_succ, List.getElem_cons_zero, List.setIfInBounds_toArray, List.set_cons_zero, List.set_cons_succ])
            obtain ⟨wp26, hwn⟩ : ∃ wn, wn = wp16.alloc (.cells #[.int .i64 0, .int .i64 0, .int .i64 0, .int .i64 0] 29) := ⟨_, rfl⟩
            have HBp26 := Lib.hid (show Below w3.heap.size w3 wp26 from hwn ▸ HBp16.out.alloc HBp16.out.size _)
            have HGp26 := Lib.hid (show Blk wp26 wp16.heap.size 29 #[.int .i64 0, .int .i64 0, .int .i64 0, .int .i64 0] from hwn ▸ Blk.new _ _ _)
            have HLp26 : Hid (w3.heap.size ≤ wp16.heap.size) := HBp16.out.size
            have HGp1aa := Lib.hid (show Blk wp26 wd.heap.size 46 #[] from hwn ▸ HGp1a.out.alloc _)
            have HGp16a := Lib.hid (show Blk wp26 wp1.heap.size 46 #[.string s.n, .int .i64 s.l, .int .i64 s.r, .int .i64 s.t, .int .i64 s.b] from hwn ▸ HGp16.out.alloc _)
            rw [← hwn]
            clear hwn
            refine wpAnyH_ready (rs := [3]) (by kernel_rfl) (by simp) ?_
            refine AllReadyH.cons rfl (fun K hK => ?_) AllReadyH.nil
            refine step_read rfl (.tmp 26) (.tmp 27) rfl w3.heap.size _ [] (by rfl) (OwS.none HGp1aa.out HLp1.out) _ l (by rfl) (HRL.out wp26 HBp26.out) HNIL.out (by have := HLN.out; simp; omega) HBp26.out.size ?_
            intro vp27 wp27 ho hg
            have ho : OwS wp27 w3.heap.size vp27 (l) := ho
            have hbn := below_only HBp26.out hg HBp26.out.size (fun k hk => (World.ownsRow.lt (OwS.none HGp1aa.out HLp1.out) k hk).1)
            have HGp16ab := Lib.hid (HGp16a.out.grown hg (fun e => (show wp1.heap.size ≠ wd.heap.size from by first | exact HNEp16.out | exact fun e => HNEp16.out e.symm) (Option.some.inj e)))
            have HGp26b := Lib.hid (HGp26.out.grown hg (OwS.far (OwS.none HGp1aa.out HLp1.out) HGp26.out (by decide)))
            have HOp27 := Lib.hid ho
            have HBp27 := Lib.hid hbn
            refine hK.out _ _ (by exact HSS.out _ hbn) (fun hHeld => ?_)
            clear hK K ho hg hbn
            (try simp only [Act.put, List.getElem_toArray, List.getElem_cons_succ, List.getElem_cons_zero, List.setIfInBounds_toArray, List.set_cons_zero, List.set_cons_succ])
            refine wpAnyH_ready (rs := [6]) (by kernel_rfl) (by simp) ?_
            refine AllReadyH.cons rfl (fun K hK => ?_) AllReadyH.nil
            refine step_read rfl (.tmp 28) (.tmp 30) rfl w3.heap.size _ l (by rfl) HOp27.out _ [s] (by rfl) (OwS.one HGp16ab.out HLp16.out).reads (fun _ _ e => by cases e) (by have := HLN.out; simp; omega) HBp27.out.size ?_
            intro vp28 wp28 ho hg
            have ho : OwS wp28 w3.heap.size vp28 (l ++ [s]) := ho
            have hbn := below_only HBp27.out hg HBp27.out.size (fun k hk => (World.ownsRow.lt HOp27.out k hk).1)
            have HGp26bb := Lib.hid (HGp26b.out.grown hg (OwS.far HOp27.out HGp26b.out (by decide)))
            have HOp28 := Lib.hid ho
            have HBp28 := Lib.hid hbn
            refine hK.out _ _ (by exact HSS.out _ hbn) (fun hHeld => ?_)
            clear hK K ho hg hbn
            (try simp only [Act.put, List.getElem_toArray, List.getElem_cons_succ, List.getElem_cons_zero, List.setIfInBounds_toArray, List.set_cons_zero, List.set_cons_succ])
            refine wpAnyH_ready (rs := [7]) (by kernel_rfl) (by simp) ?_
            refine AllReadyH.cons rfl (fun K hK => ?_) AllReadyH.nil
            go_simp
            refine (HWK.out vp28 wp28 HOp28.out.reads).mono ?_
            rintro e wp29 ⟨rfl, hb⟩
            have hbn := HBp28.out.trans (hb.mono HBp28.out.size)
            have HBp29 := Lib.hid hbn
            have HGp26bbc := Lib.hid (HGp26bb.out.next hb)
            (try dsimp only)
            refine hK.out _ _ (by exact HSS.out _ hbn) (fun hHeld => ?_)
            clear hK K hb hbn
            (try simp only [Act.put, List.getElem_toArray, List.getElem_cons_succ, List.getElem_cons_zero, List.setIfInBounds_toArray, List.set_cons_zero, List.set_cons_succ])
            obtain ⟨⟨g0, g1, g2, g3⟩, k0, k1, k2, k3⟩ := HGp26bbc.out.c4
            refine wpAnyH_ready (rs := [9]) (by kernel_rfl) (by simp) ?_
            refine AllReadyH.cons rfl (fun K hK => ?_) AllReadyH.nil
            go_simp
            have hbn := st4_below HBp29.out HLp26.out (.int .i64 b0) (.int .i64 b1) (.int .i64 b2) (.int .i64 b3)
            have hqn := st4_blk HGp26bbc.out (.int .i64 b0) (.int .i64 b1) (.int .i64 b2) (.int .i64 b3)
            refine hK.out _ _ (by exact HSS.out _ hbn) (fun hHeld => ?_)
            clear hK K
            (try simp only [Act.put, List.getElem_toArray, List.getElem_cons_succ, List.getElem_cons_zero, List.setIfInBounds_toArray, List.set_cons_zero, List.set_cons_succ])
            refine wpAnyH_done (by kernel_rfl) ?_ _
            refine NoPanic.normal ?_
            clear g0 g1 g2 g3 k0 k1 k2 k3 hHeld
            go_wp2_with fail
            go_meet
            exact ⟨_, rfl, hqn, hbn⟩
        · go_simp
          refine hK.out _ _ (by exact HSS.out _ (HBp1.out.alloc HBp1.out.size (.cells #[.int .i64 0, .int .i64 0, .int .i64 0, .int .i64 0] 29))) (fun hHeld => ?_)
          clear hK K
          (try simp only [Act.put, List.getElem_toArray, List.getElem_cons_succ, List.getElem_cons_zero, List.setIfInBounds_toArray, List.set_cons_zero, List.set_cons_succ])
          obtain ⟨wp30, hwn⟩ : ∃ wn, wn = wp1.alloc (.cells #[.int .i64 0, .int .i64 0, .int .i64 0, .int .i64 0] 29) := ⟨_, rfl⟩
          have HBp30 := Lib.hid (show Below w3.heap.size w3 wp30 from hwn ▸ HBp1.out.alloc HBp1.out.size _)
          have HGp30 := Lib.hid (show Blk wp30 wp1.heap.size 29 #[.int .i64 0, .int .i64 0, .int .i64 0, .int .i64 0] from hwn ▸ Blk.new _ _ _)
          have HLp30 : Hid (w3.heap.size ≤ wp1.heap.size) := HBp1.out.size
          have HGp1a := Lib.hid (show Blk wp30 wd.heap.size 46 #[] from hwn ▸ HGp1.out.alloc _)
          rw [← hwn]
          clear hwn
          refine wpAnyH_ready (rs := [3, 5]) (by kernel_rfl) (by simp) ?_
          refine AllReadyH.cons rfl (fun K hK => ?_) (AllReadyH.cons rfl (fun K hK => ?_) AllReadyH.nil)
          · refine step_read rfl (.tmp 26) (.tmp 27) rfl w3.heap.size _ [] (by rfl) (OwS.none HGp1a.out HLp1.out) _ l (by rfl) (HRL.out wp30 HBp30.out) HNIL.out (by have := HLN.out; simp; omega) HBp30.out.size ?_
            intro vp31 wp31 ho hg
            have ho : OwS wp31 w3.heap.size vp31 (l) := ho
            have hbn := below_only HBp30.out hg HBp30.out.size (fun k hk => (World.ownsRow.lt (OwS.none HGp1a.out HLp1.out) k hk).1)
            have HGp30b := Lib.hid (HGp30.out.grown hg (OwS.far (OwS.none HGp1a.out HLp1.out) HGp30.out (by decide)))
            have HOp31 := Lib.hid ho
            have HBp31 := Lib.hid hbn
            refine hK.out _ _ (by exact HSS.out _ hbn) (fun hHeld => ?_)
            clear hK K ho hg hbn
            (try simp only [Act.put, List.getElem_toArray, List.getElem_cons_succ, List.getElem_cons_zero, List.setIfInBounds_toArray, List.set_cons_zero, List.set_cons_succ])
            refine wpAnyH_ready (rs := [5]) (by kernel_rfl) (by simp) ?_
            refine AllReadyH.cons rfl (fun K hK => ?_) AllReadyH.nil
            go_simp
            refine hK.out _ _ (by exact HSS.out _ (HBp31.out.alloc HBp31.out.size (.cells #[.string s.n, .int .i64 s.l, .int .i64 s.r, .int .i64 s.t, .int .i64 s.b] 46))) (fun hHeld => ?_)
            clear hK K
            (try simp only [Act.put, List.getElem_toArray, List.getElem_cons_succ, List.getElem_cons_zero, List.setIfInBounds_toArray, List.set_cons_zero, List.set_cons_succ])
            obtain ⟨wp32, hwn⟩ : ∃ wn, wn = wp31.alloc (.cells #[.string s.n, .int .i64 s.l, .int .i64 s.r, .int .i64 s.t, .int .i64 s.b] 46) := ⟨_, rfl⟩
            have HBp32 := Lib.hid (show Below w3.heap.size w3 wp32 from hwn ▸ HBp31.out.alloc HBp31.out.size _)
            have HGp32 := Lib.hid (show Blk wp32 wp31.heap.size 46 #[.string s.n, .int .i64 s.l, .int .i64 s.r, .int .i64 s.t, .int .i64 s.b] from hwn ▸ Blk.new _ _ _)
            have HLp32 : Hid (w3.heap.size ≤ wp31.heap.size) := HBp31.out.size
            have HGp30ba := Lib.hid (show Blk wp32 wp1.heap.size 29 #[.int .i64 0, .int .i64 0, .int .i64 0, .int .i64 0] from hwn ▸ HGp30b.out.alloc _)
            have HOp31a := Lib.hid (HOp31.out.keep (hwn ▸ (Below.refl wp31.heap.size wp31).alloc (Nat.le_refl _) _))
            rw [← hwn]
            clear hwn
            refine wpAnyH_ready (rs := [6]) (by kernel_rfl) (by simp) ?_
            refine AllReadyH.cons rfl (fun K hK => ?_) AllReadyH.nil
            refine step_read rfl (.tmp 28) (.tmp 30) rfl w3.heap.size _ l (by rfl) HOp31a.out _ [s] (by rfl) (OwS.one HGp32.out HLp32.out).reads (fun _ _ e => by cases e) (by have := HLN.out; simp; omega) HBp32.out.size ?_
            intro vp33 wp33 ho hg
            have ho : OwS wp33 w3.heap.size vp33 (l ++ [s]) := ho
            have hbn := below_only HBp32.out hg HBp32.out.size (fun k hk => (World.ownsRow.lt HOp31a.out k hk).1)
            have HGp30bab := Lib.hid (HGp30ba.out.grown hg (OwS.far HOp31a.out HGp30ba.out (by decide)))
            have HOp33 := Lib.hid ho
            have HBp33 := Lib.hid hbn
            refine hK.out _ _ (by exact HSS.out _ hbn) (fun hHeld => ?_)
            clear hK K ho hg hbn
            (try simp only [Act.put, List.getElem_toArray, List.getElem_cons_succ, List.getElem_cons_zero, List.setIfInBounds_toArray, List.set_cons_zero, List.set_cons_succ])
            refine wpAnyH_ready (rs := [7]) (by kernel_rfl) (by simp) ?_
            refine AllReadyH.cons rfl (fun K hK => ?_) AllReadyH.nil
            go_simp
            refine (HWK.out vp33 wp33 HOp33.out.reads).mono ?_
            rintro e wp34 ⟨rfl, hb⟩
            have hbn := HBp33.out.trans (hb.mono HBp33.out.size)
            have HBp34 := Lib.hid hbn
            have HGp30babc := Lib.hid (HGp30bab.out.next hb)
            (try dsimp only)
            refine hK.out _ _ (by exact HSS.out _ hbn) (fun hHeld => ?_)
            clear hK K hb hbn
            (try simp only [Act.put, List.getElem_toArray, List.getElem_cons_succ, List.getElem_cons_zero, List.setIfInBounds_toArray, List.set_cons_zero, List.set_cons_succ])
            obtain ⟨⟨g0, g1, g2, g3⟩, k0, k1, k2, k3⟩ := HGp30babc.out.c4
            refine wpAnyH_ready (rs := [9]) (by kernel_rfl) (by simp) ?_
            refine AllReadyH.cons rfl (fun K hK => ?_) AllReadyH.nil
            go_simp
            have hbn := st4_below HBp34.out HLp30.out (.int .i64 b0) (.int .i64 b1) (.int .i64 b2) (.int .i64 b3)
            have hqn := st4_blk HGp30babc.out (.int .i64 b0) (.int .i64 b1) (.int .i64 b2) (.int .i64 b3)
            refine hK.out _ _ (by exact HSS.out _ hbn) (fun hHeld => ?_)
            clear hK K
            (try simp only [Act.put, List.getElem_toArray, List.getElem_cons_succ, List.getElem_cons_zero, List.setIfInBounds_toArray, List.set_cons_zero, List.set_cons_succ])
            refine wpAnyH_done (by kernel_rfl) ?_ _
            refine NoPanic.normal ?_
            clear g0 g1 g2 g3 k0 k1 k2 k3 hHeld
            go_wp2_with fail
            go_meet
            exact ⟨_, rfl, hqn, hbn⟩
          · go_simp
            refine hK.out _ _ (by exact HSS.out _ (HBp30.out.alloc HBp30.out.size (.cells #[.string s.n, .int .i64 s.l, .int .i64 s.r, .int .i64 s.t, .int .i64 s.b] 46))) (fun hHeld => ?_)
            clear hK K
            (try simp only [Act.put, List.getElem_toArray, List.getElem_cons_succ, List.getElem_cons_zero, List.setIfInBounds_toArray, List.set_cons_zero, List.set_cons_succ])
            obtain ⟨wp35, hwn⟩ : ∃ wn, wn = wp30.alloc (.cells #[.string s.n, .int .i64 s.l, .int .i64 s.r, .int .i64 s.t, .int .i64 s.b] 46) := ⟨_, rfl⟩
            have HBp35 := Lib.hid (show Below w3.heap.size w3 wp35 from hwn ▸ HBp30.out.alloc HBp30.out.size _)
            have HGp35 := Lib.hid (show Blk wp35 wp30.heap.size 46 #[.string s.n, .int .i64 s.l, .int .i64 s.r, .int .i64 s.t, .int .i64 s.b] from hwn ▸ Blk.new _ _ _)
            have HLp35 : Hid (w3.heap.size ≤ wp30.heap.size) := HBp30.out.size
            have HGp1aa := Lib.hid (show Blk wp35 wd.heap.size 46 #[] from hwn ▸ HGp1a.out.alloc _)
            have HNEp35 : Hid (wd.heap.size ≠ wp30.heap.size) := Nat.ne_of_lt HGp1a.out.lt
            have HGp30a := Lib.hid (show Blk wp35 wp1.heap.size 29 #[.int .i64 0, .int .i64 0, .int .i64 0, .int .i64 0] from hwn ▸ HGp30.out.alloc _)
            rw [← hwn]
            clear hwn
            refine wpAnyH_ready (rs := [3]) (by kernel_rfl) (by simp) ?_
            refine AllReadyH.cons rfl (fun K hK => ?_) AllReadyH.nil
            refine step_read rfl (.tmp 26) (.tmp 27) rfl w3.heap.size _ [] (by rfl) (OwS.none HGp1aa.out HLp1.out) _ l (by rfl) (HRL.out wp35 HBp35.out) HNIL.out (by have := HLN.out; simp; omega) HBp35.out.size ?_
            intro vp36 wp36 ho hg
            have ho : OwS wp36 w3.heap.size vp36 (l) := ho
            have hbn := below_only HBp35.out hg HBp35.out.size (fun k hk => (World.ownsRow.lt (OwS.none HGp1aa.out HLp1.out) k hk).1)
            have HGp30ab := Lib.hid (HGp30a.out.grown hg (OwS.far (OwS.none HGp1aa.out HLp1.out) HGp30a.out (by decide)))
            have HGp35b := Lib.hid (HGp35.out.grown hg (fun e => (show wp30.heap.size ≠ wd.heap.size from by first | exact HNEp35.out | exact fun e => HNEp35.out e.symm) (Option.some.inj e)))
            have HOp36 := Lib.hid ho
            have HBp36 := Lib.hid hbn
            refine hK.out _ _ (by exact HSS.out _ hbn) (fun hHeld => ?_)
            clear hK K ho hg hbn
            (try simp only [Act.put, List.getElem_toArray, List.getElem_cons_succ, List.getElem_cons_zero, List.setIfInBounds_toArray, List.set_cons_zero, List.set_cons_succ])
            refine wpAnyH_ready (rs := [6]) (by kernel_rfl) (by simp) ?_
            refine AllReadyH.cons rfl (fun K hK => ?_) AllReadyH.nil
            refine step_read rfl (.tmp 28) (.tmp 30) rfl w3.heap.size _ l (by rfl) HOp36.out _ [s] (by rfl) (OwS.one HGp35b.out HLp35.out).reads (fun _ _ e => by cases e) (by have := HLN.out; simp; omega) HBp36.out.size ?_
            intro vp37 wp37 ho hg
            have ho : OwS wp37 w3.heap.size vp37 (l ++ [s]) := ho
            have hbn := below_only HBp36.out hg HBp36.out.size (fun k hk => (World.ownsRow.lt HOp36.out k hk).1)
            have HGp30abb := Lib.hid (HGp30ab.out.grown hg (OwS.far HOp36.out HGp30ab.out (by decide)))
            have HOp37 := Lib.hid ho
            have HBp37 := Lib.hid hbn
            refine hK.out _ _ (by exact HSS.out _ hbn) (fun hHeld => ?_)
            clear hK K ho hg hbn
            (try simp only [Act.put, List.getElem_toArray, List.getElem_cons_succ, List.getElem_cons_zero, List.setIfInBounds_toArray, List.set_cons_zero, List.set_cons_succ])
            refine wpAnyH_ready (rs := [7]) (by kernel_rfl) (by simp) ?_
            refine AllReadyH.cons rfl (fun K hK => ?_) AllReadyH.nil
            go_simp
            refine (HWK.out vp37 wp37 HOp37.out.reads).mono ?_
            rintro e wp38 ⟨rfl, hb⟩
            have hbn := HBp37.out.trans (hb.mono HBp37.out.size)
            have HBp38 := Lib.hid hbn
            have HGp30abbc := Lib.hid (HGp30abb.out.next hb)
            (try dsimp only)
            refine hK.out _ _ (by exact HSS.out _ hbn) (fun hHeld => ?_)
            clear hK K hb hbn
            (try simp only [Act.put, List.getElem_toArray, List.getElem_cons_succ, List.getElem_cons_zero, List.setIfInBounds_toArray, List.set_cons_zero, List.set_cons_succ])
            obtain ⟨⟨g0, g1, g2, g3⟩, k0, k1, k2, k3⟩ := HGp30abbc.out.c4
            refine wpAnyH_ready (rs := [9]) (by kernel_rfl) (by simp) ?_
            refine AllReadyH.cons rfl (fun K hK => ?_) AllReadyH.nil
            go_simp
            have hbn := st4_below HBp38.out HLp30.out (.int .i64 b0) (.int .i64 b1) (.int .i64 b2) (.int .i64 b3)
            have hqn := st4_blk HGp30abbc.out (.int .i64 b0) (.int .i64 b1) (.int .i64 b2) (.int .i64 b3)
            refine hK.out _ _ (by exact HSS.out _ hbn) (fun hHeld => ?_)
            clear hK K
            (try simp only [Act.put, List.getElem_toArray, List.getElem_cons_succ, List.getElem_cons_zero, List.setIfInBounds_toArray, List.set_cons_zero, List.set_cons_succ])
            refine wpAnyH_done (by kernel_rfl) ?_ _
            refine NoPanic.normal ?_
            clear g0 g1 g2 g3 k0 k1 k2 k3 hHeld
            go_wp2_with fail
            go_meet
            exact ⟨_, rfl, hqn, hbn⟩
      · go_simp
        refine hK.out _ _ (by exact HSS.out _ (HBd.out.alloc HBd.out.size (.cells #[.string s.n, .int .i64 s.l, .int .i64 s.r, .int .i64 s.t, .int .i64 s.b] 46))) (fun hHeld => ?_)
        clear hK K
        (try simp only [Act.put, List.getElem_toArray, List.getElem_cons_succ, List.getElem_cons_zero, List.setIfInBounds_toArray, List.set_cons_zero, List.set_cons_succ])
        obtain ⟨wp39, hwn⟩ : ∃ wn, wn = wd.alloc (.cells #[.string s.n, .int .i64 s.l, .int .i64 s.r, .int .i64 s.t, .int .i64 s.b] 46) := ⟨_, rfl⟩
        have HBp39 := Lib.hid (show Below w3.heap.size w3 wp39 from hwn ▸ HBd.out.alloc HBd.out.size _)
        have HGp39 := Lib.hid (show Blk wp39 wd.heap.size 46 #[.string s.n, .int .i64 s.l, .int .i64 s.r, .int .i64 s.t, .int .i64 s.b] from hwn ▸ Blk.new _ _ _)
        have HLp39 : Hid (w3.heap.size ≤ wd.heap.size) := HBd.out.size
        rw [← hwn]
        clear hwn
        refine wpAnyH_ready (rs := [1, 8]) (by kernel_rfl) (by simp) ?_
        refine AllReadyH.cons rfl (fun K hK => ?_) (AllReadyH.cons rfl (fun K hK => ?_) AllReadyH.nil)
        · go_simp
          refine hK.out _ _ (by exact HSS.out _ (HBp39.out.alloc HBp39.out.size (.cells #[] 46))) (fun hHeld => ?_)
          clear hK K
          (try simp only [Act.put, List.getElem_toArray, List.getElem_cons_succ, List.getElem_cons_zero, List.setIfInBounds_toArray, List.set_cons_zero, List.set_cons_succ])
          obtain ⟨wp40, hwn⟩ : ∃ wn, wn = wp39.alloc (.cells #[] 46) := ⟨_, rfl⟩
          have HBp40 := Lib.hid (show Below w3.heap.size w3 wp40 from hwn ▸ HBp39.out.alloc HBp39.out.size _)
          have HGp40 := Lib.hid (show Blk wp40 wp39.heap.size 46 #[] from hwn ▸ Blk.new _ _ _)
          have HLp40 : Hid (w3.heap.size ≤ wp39.heap.size) := HBp39.out.size
          have HGp39a := Lib.hid (show Blk wp40 wd.heap.size 46 #[.string s.n, .int .i64 s.l, .int .i64 s.r, .int .i64 s.t, .int .i64 s.b] from hwn ▸ HGp39.out.alloc _)
          have HNEp40 : Hid (wd.heap.size ≠ wp39.heap.size) := Nat.ne_of_lt HGp39.out.lt
          rw [← hwn]
          clear hwn
          refine wpAnyH_ready (rs := [3, 8]) (by kernel_rfl) (by simp) ?_
          refine AllReadyH.cons rfl (fun K hK => ?_) (AllReadyH.cons rfl (fun K hK => ?_) AllReadyH.nil)
          · refine step_read rfl (.tmp 26) (.tmp 27) rfl w3.heap.size _ [] (by rfl) (OwS.none HGp40.out HLp40.out) _ l (by rfl) (HRL.out wp40 HBp40.out) HNIL.out (by have := HLN.out; simp; omega) HBp40.out.size ?_
            intro vp41 wp41 ho hg
            have ho : OwS wp41 w3.heap.size vp41 (l) := ho
            have hbn := below_only HBp40.out hg HBp40.out.size (fun k hk => (World.ownsRow.lt (OwS.none HGp40.out HLp40.out) k hk).1)
            have HGp39ab := Lib.hid (HGp39a.out.grown hg (fun e => (show wd.heap.size ≠ wp39.heap.size from by first | exact HNEp40.out | exact fun e => HNEp40.out e.symm) (Option.some.inj e)))
            have HOp41 := Lib.hid ho
            have HBp41 := Lib.hid hbn
            refine hK.out _ _ (by exact HSS.out _ hbn) (fun hHeld => ?_)
            clear hK K ho hg hbn
            (try simp only [Act.put, List.getElem_toArray, List.getElem_cons_succ, List.getElem_cons_zero, List.setIfInBounds_toArray, List.set_cons_zero, List.set_cons_succ])
            refine wpAnyH_ready (rs := [6, 8]) (by kernel_rfl) (by simp) ?_
            refine AllReadyH.cons rfl (fun K hK => ?_) (AllReadyH.cons rfl (fun K hK => ?_) AllReadyH.nil)
            · refine step_read rfl (.tmp 28) (.tmp 30) rfl w3.heap.size _ l (by rfl) HOp41.out _ [s] (by rfl) (OwS.one HGp39ab.out HLp39.out).reads (fun _ _ e => by cases e) (by have := HLN.out; simp; omega) HBp41.out.size ?_
              intro vp42 wp42 ho hg
              have ho : OwS wp42 w3.heap.size vp42 (l ++ [s]) := ho
              have hbn := below_only HBp41.out hg HBp41.out.size (fun k hk => (World.ownsRow.lt HOp41.out k hk).1)
              have HOp42 := Lib.hid ho
              have HBp42 := Lib.hid hbn
              refine hK.out _ _ (by exact HSS.out _ hbn) (fun hHeld => ?_)
              clear hK K ho hg hbn
              (try simp only [Act.put, List.getElem_toArray, List.getElem_cons_succ, List.getElem_cons_zero, List.setIfInBounds_toArray, List.set_cons_zero, List.set_cons_succ])
              refine wpAnyH_ready (rs := [7, 8]) (by kernel_rfl) (by simp) ?_
              refine AllReadyH.cons rfl (fun K hK => ?_) (AllReadyH.cons rfl (fun K hK => ?_) AllReadyH.nil)
              · go_simp
                refine (HWK.out vp42 wp42 HOp42.out.reads).mono ?_
                rintro e wp43 ⟨rfl, hb⟩
                have hbn := HBp42.out.trans (hb.mono HBp42.out.size)
                have HBp43 := Lib.hid hbn
                (try dsimp only)
                refine hK.out _ _ (by exact HSS.out _ hbn) (fun hHeld => ?_)
                clear hK K hb hbn
                (try simp only [Act.put, List.getElem_toArray, List.getElem_cons_succ, List.getElem_cons_zero, List.setIfInBounds_toArray, List.set_cons_zero, List.set_cons_succ])
                refine wpAnyH_ready (rs := [8]) (by kernel_rfl) (by simp) ?_
                refine AllReadyH.cons rfl (fun K hK => ?_) AllReadyH.nil
                go_simp
                refine hK.out _ _ (by exact HSS.out _ (HBp43.out.alloc HBp43.out.size (.cells #[.int .i64 0, .int .i64 0, .int .i64 0, .int .i64 0] 29))) (fun hHeld => ?_)
                clear hK K
                (try simp only [Act.put, List.getElem_toArray, List.getElem_cons_succ, List.getElem_cons_zero, List.setIfInBounds_toArray, List.set_cons_zero, List.set_cons_succ])
                obtain ⟨wp44, hwn⟩ : ∃ wn, wn = wp43.alloc (.cells #[.int .i64 0, .int .i64 0, .int .i64 0, .int .i64 0] 29) := ⟨_, rfl⟩
                have HBp44 := Lib.hid (show Below w3.heap.size w3 wp44 from hwn ▸ HBp43.out.alloc HBp43.out.size _)
                have HGp44 := Lib.hid (show Blk wp44 wp43.heap.size 29 #[.int .i64 0, .int .i64 0, .int .i64 0, .int .i64 0] from hwn ▸ Blk.new _ _ _)
                have HLp44 : Hid (w3.heap.size ≤ wp43.heap.size) := HBp43.out.size
                rw [← hwn]
                clear hwn
                obtain ⟨⟨g0, g1, g2, g3⟩, k0, k1, k2, k3⟩ := HGp44.out.c4
                refine wpAnyH_ready (rs := [9]) (by kernel_rfl) (by simp) ?_
                refine AllReadyH.cons rfl (fun K hK => ?_) AllReadyH.nil
                go_simp
                have hbn := st4_below HBp44.out HLp44.out (.int .i64 b0) (.int .i64 b1) (.int .i64 b2) (.int .i64 b3)
                have hqn := st4_blk HGp44.out (.int .i64 b0) (.int .i64 b1) (.int .i64 b2) (.int .i64 b3)
                refine hK.out _ _ (by exact HSS.out _ hbn) (fun hHeld => ?_)
                clear hK K
                (try simp only [Act.put, List.getElem_toArray, List.getElem_cons_succ, List.getElem_cons_zero, List.setIfInBounds_toArray, List.set_cons_zero, List.set_cons_succ])
                refine wpAnyH_done (by kernel_rfl) ?_ _
                refine NoPanic.normal ?_
                clear g0 g1 g2 g3 k0 k1 k2 k3 hHeld
                go_wp2_with fail
                go_meet
                exact ⟨_, rfl, hqn, hbn⟩
              · go_simp
                refine hK.out _ _ (by exact HSS.out _ (HBp42.out.alloc HBp42.out.size (.cells #[.int .i64 0, .int .i64 0, .int .i64 0, .int .i64 0] 29))) (fun hHeld => ?_)
                clear hK K
                (try simp only [Act.put, List.getElem_toArray, List.getElem_cons_succ, List.getElem_cons_zero, List.setIfInBounds_toArray, List.set_cons_zero, List.set_cons_succ])
                obtain ⟨wp45, hwn⟩ : ∃ wn, wn = wp42.alloc (.cells #[.int .i64 0, .int .i64 0, .int .i64 0, .int .i64 0] 29) := ⟨_, rfl⟩
                have HBp45 := Lib.hid (show Below w3.heap.size w3 wp45 from hwn ▸ HBp42.out.alloc HBp42.out.size _)
                have HGp45 := Lib.hid (show Blk wp45 wp42.heap.size 29 #[.int .i64 0, .int .i64 0, .int .i64 0, .int .i64 0] from hwn ▸ Blk.new _ _ _)
                have HLp45 : Hid (w3.heap.size ≤ wp42.heap.size) := HBp42.out.size
                have HOp42a := Lib.hid (HOp42.out.keep (hwn ▸ (Below.refl wp42.heap.size wp42).alloc (Nat.le_refl _) _))
                rw [← hwn]
                clear hwn
                refine wpAnyH_ready (rs := [7]) (by kernel_rfl) (by simp) ?_
                refine AllReadyH.cons rfl (fun K hK => ?_) AllReadyH.nil
                go_simp
                refine (HWK.out vp42 wp45 HOp42a.out.reads).mono ?_
                rintro e wp46 ⟨rfl, hb⟩
                have hbn := HBp45.out.trans (hb.mono HBp45.out.size)
                have HBp46 := Lib.hid hbn
                have HGp45c := Lib.hid (HGp45.out.next hb)
                (try dsimp only)
                refine hK.out _ _ (by exact HSS.out _ hbn) (fun hHeld => ?_)
                clear hK K hb hbn
                (try simp only [Act.put, List.getElem_toArray, List.getElem_cons_succ, List.getElem_cons_zero, List.setIfInBounds_toArray, List.set_cons_zero, List.set_cons_succ])
                obtain ⟨⟨g0, g1, g2, g3⟩, k0, k1, k2, k3⟩ := HGp45c.out.c4
                refine wpAnyH_ready (rs := [9]) (by kernel_rfl) (by simp) ?_
                refine AllReadyH.cons rfl (fun K hK => ?_) AllReadyH.nil
                go_simp
                have hbn := st4_below HBp46.out HLp45.out (.int .i64 b0) (.int .i64 b1) (.int .i64 b2) (.int .i64 b3)
                have hqn := st4_blk HGp45c.out (.int .i64 b0) (.int .i64 b1) (.int .i64 b2) (.int .i64 b3)
                refine hK.out _ _ (by exact HSS.out _ hbn) (fun hHeld => ?_)
                clear hK K
                (try simp only [Act.put, List.getElem_toArray, List.getElem_cons_succ, List.getElem_cons_zero, List.setIfInBounds_toArray, List.set_cons_zero, List.set_cons_succ])
                refine wpAnyH_done (by kernel_rfl) ?_ _
                refine NoPanic.normal ?_
                clear g0 g1 g2 g3 k0 k1 k2 k3 hHeld
                go_wp2_with fail
                go_meet
                exact ⟨_, rfl, hqn, hbn⟩
            · go_simp
              refine hK.out _ _ (by exact HSS.out _ (HBp41.out.alloc HBp41.out.size (.cells #[.int .i64 0, .int .i64 0, .int .i64 0, .int .i64 0] 29))) (fun hHeld => ?_)
              clear hK K
              (try simp only [Act.put, List.getElem_toArray, List.getElem_cons_succ, List.getElem_cons_zero, List.setIfInBounds_toArray, List.set_cons_zero, List.set_cons_succ])
              obtain ⟨wp47, hwn⟩ : ∃ wn, wn = wp41.alloc (.cells #[.int .i64 0, .int .i64 0, .int .i64 0, .int .i64 0] 29) := ⟨_, rfl⟩
              have HBp47 := Lib.hid (show Below w3.heap.size w3 wp47 from hwn ▸ HBp41.out.alloc HBp41.out.size _)
              have HGp47 := Lib.hid (show Blk wp47 wp41.heap.size 29 #[.int .i64 0, .int .i64 0, .int .i64 0, .int .i64 0] from hwn ▸ Blk.new _ _ _)
              have HLp47 : Hid (w3.heap.size ≤ wp41.heap.size) := HBp41.out.size
              have HGp39aba := Lib.hid (show Blk wp47 wd.heap.size 46 #[.string s.n, .int .i64 s.l, .int .i64 s.r, .int .i64 s.t, .int .i64 s.b] from hwn ▸ HGp39ab.out.alloc _)
              have HOp41a := Lib.hid (HOp41.out.keep (hwn ▸ (Below.refl wp41.heap.size wp41).alloc (Nat.le_refl _) _))
              rw [← hwn]
              clear hwn
              refine wpAnyH_ready (rs := [6]) (by kernel_rfl) (by simp) ?_
              refine AllReadyH.cons rfl (fun K hK => ?_) AllReadyH.nil
              refine step_read rfl (.tmp 28) (.tmp 30) rfl w3.heap.size _ l (by rfl) HOp41a.out _ [s] (by rfl) (OwS.one HGp39aba.out HLp39.out).reads (fun _ _ e => by cases e) (by have := HLN.out; simp; omega) HBp47.out.size ?_
              intro vp48 wp48 ho hg
              have ho : OwS wp48 w3.heap.size vp48 (l ++ [s]) := ho
              have hbn := below_only HBp47.out hg HBp47.out.size (fun k hk => (World.ownsRow.lt HOp41a.out k hk).1)
              have HGp47b := Lib.hid (HGp47.out.grown hg (OwS.far HOp41a.out HGp47.out (by decide)))
              have HOp48 := Lib.hid ho
              have HBp48 := Lib.hid hbn
              refine hK.out _ _ (by exact HSS.out _ hbn) (fun hHeld => ?_)
              clear hK K ho hg hbn
              (try simp only [Act.put, List.getElem_toArray, List.getElem_cons_succ, List.getElem_cons_zero, List.setIfInBounds_toArray, List.set_cons_zero, List.set_cons_succ])
              refine wpAnyH_ready (rs := [7]) (by kernel_rfl) (by simp) ?_
              refine AllReadyH.cons rfl (fun K hK => ?_) AllReadyH.nil
              go_simp
              refine (HWK.out vp48 wp48 HOp48.out.reads).mono ?_
              rintro e wp49 ⟨rfl, hb⟩
              have hbn := HBp48.out.trans (hb.mono HBp48.out.size)
              have HBp49 := Lib.hid hbn
              have HGp47bc := Lib.hid (HGp47b.out.next hb)
              (try dsimp only)
              refine hK.out _ _ (by exact HSS.out _ hbn) (fun hHeld => ?_)
              clear hK K hb hbn
              (try simp only [Act.put, List.getElem_toArray, List.getElem_cons_succ, List.getElem_cons_zero, List.setIfInBounds_toArray, List.set_cons_zero, List.set_cons_succ])
              obtain ⟨⟨g0, g1, g2, g3⟩, k0, k1, k2, k3⟩ := HGp47bc.out.c4
              refine wpAnyH_ready (rs := [9]) (by kernel_rfl) (by simp) ?_
              refine AllReadyH.cons rfl (fun K hK => ?_) AllReadyH.nil
              go_simp
              have hbn := st4_below HBp49.out HLp47.out (.int .i64 b0) (.int .i64 b1) (.int .i64 b2) (.int .i64 b3)
              have hqn := st4_blk HGp47bc.out (.int .i64 b0) (.int .i64 b1) (.int .i64 b2) (.int .i64 b3)
              refine hK.out _ _ (by exact HSS.out _ hbn) (fun hHeld => ?_)
              clear hK K
              (try simp only [Act.put, List.getElem_toArray, List.getElem_cons_succ, List.getElem_cons_zero, List.setIfInBounds_toArray, List.set_cons_zero, List.set_cons_succ])
              refine wpAnyH_done (by kernel_rfl) ?_ _
              refine NoPanic.normal ?_
              clear g0 g1 g2 g3 k0 k1 k2 k3 hHeld
              go_wp2_with fail
              go_meet
              exact ⟨_, rfl, hqn, hbn⟩
          · go_simp
            refine hK.out _ _ (by exact HSS.out _ (HBp40.out.alloc HBp40.out.size (.cells #[.int .i64 0, .int .i64 0, .int .i64 0, .int .i64 0] 29))) (fun hHeld => ?_)
            clear hK K
            (try simp only [Act.put, List.getElem_toArray, List.getElem_cons_succ, List.getElem_cons_zero, List.setIfInBounds_toArray, List.set_cons_zero, List.set_cons_succ])
            obtain ⟨wp50, hwn⟩ : ∃ wn, wn = wp40.alloc (.cells #[.int .i64 0, .int .i64 0, .int .i64 0, .int .i64 0] 29) := ⟨_, rfl⟩
            have HBp50 := Lib.hid (show Below w3.heap.size w3 wp50 from hwn ▸ HBp40.out.alloc HBp40.out.size _)
            have HGp50 := Lib.hid (show Blk wp50 wp40.heap.size 29 #[.int .i64 0, .int .i64 0, .int .i64 0, .int .i64 0] from hwn ▸ Blk.new _ _ _)
            have HLp50 : Hid (w3.heap.size ≤ wp40.heap.size) := HBp40.out.size
            have HGp39aa := Lib.hid (show Blk wp50 wd.heap.size 46 #[.string s.n, .int .i64 s.l, .int .i64 s.r, .int .i64 s.t, .int .i64 s.b] from hwn ▸ HGp39a.out.alloc _)
            have HGp40a := Lib.hid (show Blk wp50 wp39.heap.size 46 #[] from hwn ▸ HGp40.out.alloc _)
            rw [← hwn]
            clear hwn
            refine wpAnyH_ready (rs := [3]) (by kernel_rfl) (by simp) ?_
            refine AllReadyH.cons rfl (fun K hK => ?_) AllReadyH.nil
            refine step_read rfl (.tmp 26) (.tmp 27) rfl w3.heap.size _ [] (by rfl) (OwS.none HGp40a.out HLp40.out) _ l (by rfl) (HRL.out wp50 HBp50.out) HNIL.out (by have := HLN.out; simp; omega) HBp50.out.size ?_
            intro vp51 wp51 ho hg
            have ho : OwS wp51 w3.heap.size vp51 (l) := ho
            have hbn := below_only HBp50.out hg HBp50.out.size (fun k hk => (World.ownsRow.lt (OwS.none HGp40a.out HLp40.out) k hk).1)
            have HGp39aab := Lib.hid (HGp39aa.out.grown hg (fun e => (show wd.heap.size ≠ wp39.heap.size from by first | exact HNEp40.out | exact fun e => HNEp40.out e.symm) (Option.some.inj e)))
            have HGp50b := Lib.hid (HGp50.out.grown hg (OwS.far (OwS.none HGp40a.out HLp40.out) HGp50.out (by decide)))
            have HOp51 := Lib.hid ho
            have HBp51 := Lib.hid hbn
            refine hK.out _ _ (by exact HSS.out _ hbn) (fun hHeld => ?_)
            clear hK K ho hg hbn
            (try simp only [Act.put, List.getElem_toArray, List.getElem_cons_succ, List.getElem_cons_zero, List.setIfInBounds_toArray, List.set_cons_zero, List.set_cons_succ])
            refine wpAnyH_ready (rs := [6]) (by kernel_rfl) (by simp) ?_
            refine AllReadyH.cons rfl (fun K hK => ?_) AllReadyH.nil
            refine step_read rfl (.tmp 28) (.tmp 30) rfl w3.heap.size _ l (by rfl) HOp51.out _ [s] (by rfl) (OwS.one HGp39aab.out HLp39.out).reads (fun _ _ e => by cases e) (by have := HLN.out; simp; omega) HBp51.out.size ?_
            intro vp52 wp52 ho hg
            have ho : OwS wp52 w3.heap.size vp52 (l ++ [s]) := ho
            have hbn := below_only HBp51.out hg HBp51.out.size (fun k hk => (World.ownsRow.lt HOp51.out k hk).1)
            have HGp50bb := Lib.hid (HGp50b.out.grown hg (OwS.far HOp51.out HGp50b.out (by decide)))
            have HOp52 := Lib.hid ho
            have HBp52 := Lib.hid hbn
            refine hK.out _ _ (by exact HSS.out _ hbn) (fun hHeld => ?_)
            clear hK K ho hg hbn
            (try simp only [Act.put, List.getElem_toArray, List.getElem_cons_succ, List.getElem_cons_zero, List.setIfInBounds_toArray, List.set_cons_zero, List.set_cons_succ])
            refine wpAnyH_ready (rs := [7]) (by kernel_rfl) (by simp) ?_
            refine AllReadyH.cons rfl (fun K hK => ?_) AllReadyH.nil
            go_simp
            refine (HWK.out vp52 wp52 HOp52.out.reads).mono ?_
            rintro e wp53 ⟨rfl, hb⟩
            have hbn := HBp52.out.trans (hb.mono HBp52.out.size)
            have HBp53 := Lib.hid hbn
            have HGp50bbc := Lib.hid (HGp50bb.out.next hb)
            (try dsimp only)
            refine hK.out _ _ (by exact HSS.out _ hbn) (fun hHeld => ?_)
            clear hK K hb hbn
            (try simp only [Act.put, List.getElem_toArray, List.getElem_cons_succ, List.getElem_cons_zero, List.setIfInBounds_toArray, List.set_cons_zero, List.set_cons_succ])
            obtain ⟨⟨g0, g1, g2, g3⟩, k0, k1, k2, k3⟩ := HGp50bbc.out.c4
            refine wpAnyH_ready (rs := [9]) (by kernel_rfl) (by simp) ?_
            refine AllReadyH.cons rfl (fun K hK => ?_) AllReadyH.nil
            go_simp
            have hbn := st4_below HBp53.out HLp50.out (.int .i64 b0) (.int .i64 b1) (.int .i64 b2) (.int .i64 b3)
            have hqn := st4_blk HGp50bbc.out (.int .i64 b0) (.int .i64 b1) (.int .i64 b2) (.int .i64 b3)
            refine hK.out _ _ (by exact HSS.out _ hbn) (fun hHeld => ?_)
            clear hK K
            (try simp only [Act.put, List.getElem_toArray, List.getElem_cons_succ, List.getElem_cons_zero, List.setIfInBounds_toArray, List.set_cons_zero, List.set_cons_succ])
            refine wpAnyH_done (by kernel_rfl) ?_ _
            refine NoPanic.normal ?_
            clear g0 g1 g2 g3 k0 k1 k2 k3 hHeld
            go_wp2_with fail
            go_meet
            exact ⟨_, rfl, hqn, hbn⟩
        · go_simp
          refine hK.out _ _ (by exact HSS.out _ (HBp39.out.alloc HBp39.out.size (.cells #[.int .i64 0, .int .i64 0, .int .i64 0, .int .i64 0] 29))) (fun hHeld => ?_)
          clear hK K
          (try simp only [Act.put, List.getElem_toArray, List.getElem_cons_succ, List.getElem_cons_zero, List.setIfInBounds_toArray, List.set_cons_zero, List.set_cons_succ])
          obtain ⟨wp54, hwn⟩ : ∃ wn, wn = wp39.alloc (.cells #[.int .i64 0, .int .i64 0, .int .i64 0, .int .i64 0] 29) := ⟨_, rfl⟩
          have HBp54 := Lib.hid (show Below w3.heap.size w3 wp54 from hwn ▸ HBp39.out.alloc HBp39.out.size _)
          have HGp54 := Lib.hid (show Blk wp54 wp39.heap.size 29 #[.int .i64 0, .int .i64 0, .int .i64 0, .int .i64 0] from hwn ▸ Blk.new _ _ _)
          have HLp54 : Hid (w3.heap.size ≤ wp39.heap.size) := HBp39.out.size
          have HGp39a := Lib.hid (show Blk wp54 wd.heap.size 46 #[.string s.n, .int .i64 s.l, .int .i64 s.r, .int .i64 s.t, .int .i64 s.b] from hwn ▸ HGp39.out.alloc _)
          rw [← hwn]
          clear hwn
          refine wpAnyH_ready (rs := [1]) (by kernel_rfl) (by simp) ?_
          refine AllReadyH.cons rfl (fun K hK => ?_) AllReadyH.nil
          go_simp
          refine hK.out _ _ (by exact HSS.out _ (HBp54.out.alloc HBp54.out.size (.cells #[] 46))) (fun hHeld => ?_)
          clear hK K
          (try simp only [Act.put, List.getElem_toArray, List.getElem_cons_succ, List.getElem_cons_zero, List.setIfInBounds_toArray, List.set_cons_zero, List.set_cons_succ])
          obtain ⟨wp55, hwn⟩ : ∃ wn, wn = wp54.alloc (.cells #[] 46) := ⟨_, rfl⟩
          have HBp55 := Lib.hid (show Below w3.heap.size w3 wp55 from hwn ▸ HBp54.out.alloc HBp54.out.size _)
          have HGp55 := Lib.hid (show Blk wp55 wp54.heap.size 46 #[] from hwn ▸ Blk.new _ _ _)
          have HLp55 : Hid (w3.heap.size ≤ wp54.heap.size) := HBp54.out.size
          have HGp39aa := Lib.hid (show Blk wp55 wd.heap.size 46 #[.string s.n, .int .i64 s.l, .int .i64 s.r, .int .i64 s.t, .int .i64 s.b] from hwn ▸ HGp39a.out.alloc _)
          have HNEp55 : Hid (wd.heap.size ≠ wp54.heap.size) := Nat.ne_of_lt HGp39a.out.lt
          have HGp54a := Lib.hid (show Blk wp55 wp39.heap.size 29 #[.int .i64 0, .int .i64 0, .int .i64 0, .int .i64 0] from hwn ▸ HGp54.out.alloc _)
          rw [← hwn]
          clear hwn
          refine wpAnyH_ready (rs := [3]) (by kernel_rfl) (by simp) ?_
          refine AllReadyH.cons rfl (fun K hK => ?_) AllReadyH.nil
          refine step_read rfl (.tmp 26) (.tmp 27) rfl w3.heap.size _ [] (by rfl) (OwS.none HGp55.out HLp55.out) _ l (by rfl) (HRL.out wp55 HBp55.out) HNIL.out (by have := HLN.out; simp; omega) HBp55.out.size ?_
          intro vp56 wp56 ho hg
          have ho : OwS wp56 w3.heap.size vp56 (l) := ho
          have hbn := below_only HBp55.out hg HBp55.out.size (fun k hk => (World.ownsRow.lt (OwS.none HGp55.out HLp55.out) k hk).1)
          have HGp39aab := Lib.hid (HGp39aa.out.grown hg (fun e => (show wd.heap.size ≠ wp54.heap.size from by first | exact HNEp55.out | exact fun e => HNEp55.out e.symm) (Option.some.inj e)))
          have HGp54ab := Lib.hid (HGp54a.out.grown hg (OwS.far (OwS.none HGp55.out HLp55.out) HGp54a.out (by decide)))
          have HOp56 := Lib.hid ho
          have HBp56 := Lib.hid hbn
          refine hK.out _ _ (by exact HSS.out _ hbn) (fun hHeld => ?_)
          clear hK K ho hg hbn
          (try simp only [Act.put, List.getElem_toArray, List.getElem_cons_succ, List.getElem_cons_zero, List.setIfInBounds_toArray, List.set_cons_zero, List.set_cons_succ])
          refine wpAnyH_ready (rs := [6]) (by kernel_rfl) (by simp) ?_
          refine AllReadyH.cons rfl (fun K hK => ?_) AllReadyH.nil
          refine step_read rfl (.tmp 28) (.tmp 30) rfl w3.heap.size _ l (by rfl) HOp56.out _ [s] (by rfl) (OwS.one HGp39aab.out HLp39.out).reads (fun _ _ e => by cases e) (by have := HLN.out; simp; omega) HBp56.out.size ?_
          intro vp57 wp57 ho hg
          have ho : OwS wp57 w3.heap.size vp57 (l ++ [s]) := ho
          have hbn := below_only HBp56.out hg HBp56.out.size (fun k hk => (World.ownsRow.lt HOp56.out k hk).1)
          have HGp54abb := Lib.hid (HGp54ab.out.grown hg (OwS.far HOp56.out HGp54ab.out (by decide)))
          have HOp57 := Lib.hid ho
          have HBp57 := Lib.hid hbn
          refine hK.out _ _ (by exact HSS.out _ hbn) (fun hHeld => ?_)
          clear hK K ho hg hbn
          (try simp only [Act.put, List.getElem_toArray, List.getElem_cons_succ, List.getElem_cons_zero, List.setIfInBounds_toArray, List.set_cons_zero, List.set_cons_succ])
          refine wpAnyH_ready (rs := [7]) (by kernel_rfl) (by simp) ?_
          refine AllReadyH.cons rfl (fun K hK => ?_) AllReadyH.nil
          go_simp
          refine (HWK.out vp57 wp57 HOp57.out.reads).mono ?_
          rintro e wp58 ⟨rfl, hb⟩
          have hbn := HBp57.out.trans (hb.mono HBp57.out.size)
          have HBp58 := Lib.hid hbn
          have HGp54abbc := Lib.hid (HGp54abb.out.next hb)
          (try dsimp only)
          refine hK.out _ _ (by exact HSS.out _ hbn) (fun hHeld => ?_)
          clear hK K hb hbn
          (try simp only [Act.put, List.getElem_toArray, List.getElem_cons_succ, List.getElem_cons_zero, List.setIfInBounds_toArray, List.set_cons_zero, List.set_cons_succ])
          obtain ⟨⟨g0, g1, g2, g3⟩, k0, k1, k2, k3⟩ := HGp54abbc.out.c4
          refine wpAnyH_ready (rs := [9]) (by kernel_rfl) (by simp) ?_
          refine AllReadyH.cons rfl (fun K hK => ?_) AllReadyH.nil
          go_simp
          have hbn := st4_below HBp58.out HLp54.out (.int .i64 b0) (.int .i64 b1) (.int .i64 b2) (.int .i64 b3)
          have hqn := st4_blk HGp54abbc.out (.int .i64 b0) (.int .i64 b1) (.int .i64 b2) (.int .i64 b3)
          refine hK.out _ _ (by exact HSS.out _ hbn) (fun hHeld => ?_)
          clear hK K
          (try simp only [Act.put, List.getElem_toArray, List.getElem_cons_succ, List.getElem_cons_zero, List.setIfInBounds_toArray, List.set_cons_zero, List.set_cons_succ])
          refine wpAnyH_done (by kernel_rfl) ?_ _
          refine NoPanic.normal ?_
          clear g0 g1 g2 g3 k0 k1 k2 k3 hHeld
          go_wp2_with fail
          go_meet
          exact ⟨_, rfl, hqn, hbn⟩
      · go_simp
        refine hK.out _ _ (by exact HSS.out _ (HBd.out.alloc HBd.out.size (.cells #[.int .i64 0, .int .i64 0, .int .i64 0, .int .i64 0] 29))) (fun hHeld => ?_)
        clear hK K
        (try simp only [Act.put, List.getElem_toArray, List.getElem_cons_succ, List.getElem_cons_zero, List.setIfInBounds_toArray, List.set_cons_zero, List.set_cons_succ])
        obtain ⟨wp59, hwn⟩ : ∃ wn, wn = wd.alloc (.cells #[.int .i64 0, .int .i64 0, .int .i64 0, .int .i64 0] 29) := ⟨_, rfl⟩
        have HBp59 := Lib.hid (show Below w3.heap.size w3 wp59 from hwn ▸ HBd.out.alloc HBd.out.size _)
        have HGp59 := Lib.hid (show Blk wp59 wd.heap.size 29 #[.int .i64 0, .int .i64 0, .int .i64 0, .int .i64 0] from hwn ▸ Blk.new _ _ _)
        have HLp59 : Hid (w3.heap.size ≤ wd.heap.size) := HBd.out.size
        rw [← hwn]
        clear hwn
        refine wpAnyH_ready (rs := [1, 5]) (by kernel_rfl) (by simp) ?_
        refine AllReadyH.cons rfl (fun K hK => ?_) (AllReadyH.cons rfl (fun K hK => ?_) AllReadyH.nil)
        · go_simp
          refine hK.out _ _ (by exact HSS.out _ (HBp59.out.alloc HBp59.out.size (.cells #[] 46))) (fun hHeld => ?_)
          clear hK K
          (try simp only [Act.put, List.getElem_toArray, List.getElem_cons_succ, List.getElem_cons_zero, List.setIfInBounds_toArray, List.set_cons_zero, List.set_cons_succ])
          obtain ⟨wp60, hwn⟩ : ∃ wn, wn = wp59.alloc (.cells #[] 46) := ⟨_, rfl⟩
          have HBp60 := Lib.hid (show Below w3.heap.size w3 wp60 from hwn ▸ HBp59.out.alloc HBp59.out.size _)
          have HGp60 := Lib.hid (show Blk wp60 wp59.heap.size 46 #[] from hwn ▸ Blk.new _ _ _)
          have HLp60 : Hid (w3.heap.size ≤ wp59.heap.size) := HBp59.out.size
          have HGp59a := Lib.hid (show Blk wp60 wd.heap.size 29 #[.int .i64 0, .int .i64 0, .int .i64 0, .int .i64 0] from hwn ▸ HGp59.out.alloc _)
          rw [← hwn]
          clear hwn
          refine wpAnyH_ready (rs := [3, 5]) (by kernel_rfl) (by simp) ?_
          refine AllReadyH.cons rfl (fun K hK => ?_) (AllReadyH.cons rfl (fun K hK => ?_) AllReadyH.nil)
          · refine step_read rfl (.tmp 26) (.tmp 27) rfl w3.heap.size _ [] (by rfl) (OwS.none HGp60.out HLp60.out) _ l (by rfl) (HRL.out wp60 HBp60.out) HNIL.out (by have := HLN.out; simp; omega) HBp60.out.size ?_
            intro vp61 wp61 ho hg
            have ho : OwS wp61 w3.heap.size vp61 (l) := ho
            have hbn := below_only HBp60.out hg HBp60.out.size (fun k hk => (World.ownsRow.lt (OwS.none HGp60.out HLp60.out) k hk).1)
            have HGp59ab := Lib.hid (HGp59a.out.grown hg (OwS.far (OwS.none HGp60.out HLp60.out) HGp59a.out (by decide)))
            have HOp61 := Lib.hid ho
            have HBp61 := Lib.hid hbn
            refine hK.out _ _ (by exact HSS.out _ hbn) (fun hHeld => ?_)
            clear hK K ho hg hbn
            (try simp only [Act.put, List.getElem_toArray, List.getElem_cons_succ, List.getElem_cons_zero, List.setIfInBounds_toArray, List.set_cons_zero, List.set_cons_succ])
            refine wpAnyH_ready (rs := [5]) (by kernel_rfl) (by simp) ?_
            refine AllReadyH.cons rfl (fun K hK => ?_) AllReadyH.nil
            go_simp
            refine hK.out _ _ (by exact HSS.out _ (HBp61.out.alloc HBp61.out.size (.cells #[.string s.n, .int .i64 s.l, .int .i64 s.r, .int .i64 s.t, .int .i64 s.b] 46))) (fun hHeld => ?_)
            clear hK K
            (try simp only [Act.put, List.getElem_toArray, List.getElem_cons_succ, List.getElem_cons_zero, List.setIfInBounds_toArray, List.set_cons_zero, List.set_cons_succ])
            obtain ⟨wp62, hwn⟩ : ∃ wn, wn = wp61.alloc (.cells #[.string s.n, .int .i64 s.l, .int .i64 s.r, .int .i64 s.t, .int .i64 s.b] 46) := ⟨_, rfl⟩
            have HBp62 := Lib.hid (show Below w3.heap.size w3 wp62 from hwn ▸ HBp61.out.alloc HBp61.out.size _)
            have HGp62 := Lib.hid (show Blk wp62 wp61.heap.size 46 #[.string s.n, .int .i64 s.l, .int .i64 s.r, .int .i64 s.t, .int .i64 s.b] from hwn ▸ Blk.new _ _ _)
            have HLp62 : Hid (w3.heap.size ≤ wp61.heap.size) := HBp61.out.size
            have HGp59aba := Lib.hid (show Blk wp62 wd.heap.size 29 #[.int .i64 0, .int .i64 0, .int .i64 0, .int .i64 0] from hwn ▸ HGp59ab.out.alloc _)
            have HOp61a := Lib.hid (HOp61.out.keep (hwn ▸ (Below.refl wp61.heap.size wp61).alloc (Nat.le_refl _) _))
            rw [← hwn]
            clear hwn
            refine wpAnyH_ready (rs := [6]) (by kernel_rfl) (by simp) ?_
            refine AllReadyH.cons rfl (fun K hK => ?_) AllReadyH.nil
            refine step_read rfl (.tmp 28) (.tmp 30) rfl w3.heap.size _ l (by rfl) HOp61a.out _ [s] (by rfl) (OwS.one HGp62.out HLp62.out).reads (fun _ _ e => by cases e) (by have := HLN.out; simp; omega) HBp62.out.size ?_
            intro vp63 wp63 ho hg
            have ho : OwS wp63 w3.heap.size vp63 (l ++ [s]) := ho
            have hbn := below_only HBp62.out hg HBp62.out.size (fun k hk => (World.ownsRow.lt HOp61a.out k hk).1)
            have HGp59abab := Lib.hid (HGp59aba.out.grown hg (OwS.far HOp61a.out HGp59aba.out (by decide)))
            have HOp63 := Lib.hid ho
            have HBp63 := Lib.hid hbn
            refine hK.out _ _ (by exact HSS.out _ hbn) (fun hHeld => ?_)
            clear hK K ho hg hbn
            (try simp only [Act.put, List.getElem_toArray, List.getElem_cons_succ, List.getElem_cons_zero, List.setIfInBounds_toArray, List.set_cons_zero, List.set_cons_succ])
            refine wpAnyH_ready (rs := [7]) (by kernel_rfl) (by simp) ?_
            refine AllReadyH.cons rfl (fun K hK => ?_) AllReadyH.nil
            go_simp
            refine (HWK.out vp63 wp63 HOp63.out.reads).mono ?_
            rintro e wp64 ⟨rfl, hb⟩
            have hbn := HBp63.out.trans (hb.mono HBp63.out.size)
            have HBp64 := Lib.hid hbn
            have HGp59ababc := Lib.hid (HGp59abab.out.next hb)
            (try dsimp only)
            refine hK.out _ _ (by exact HSS.out _ hbn) (fun hHeld => ?_)
            clear hK K hb hbn
            (try simp only [Act.put, List.getElem_toArray, List.getElem_cons_succ, List.getElem_cons_zero, List.setIfInBounds_toArray, List.set_cons_zero, List.set_cons_succ])
            obtain ⟨⟨g0, g1, g2, g3⟩, k0, k1, k2, k3⟩ := HGp59ababc.out.c4
            refine wpAnyH_ready (rs := [9]) (by kernel_rfl) (by simp) ?_
            refine AllReadyH.cons rfl (fun K hK => ?_) AllReadyH.nil
            go_simp
            have hbn := st4_below HBp64.out HLp59.out (.int .i64 b0) (.int .i64 b1) (.int .i64 b2) (.int .i64 b3)
            have hqn := st4_blk HGp59ababc.out (.int .i64 b0) (.int .i64 b1) (.int .i64 b2) (.int .i64 b3)
            refine hK.out _ _ (by exact HSS.out _ hbn) (fun hHeld => ?_)
            clear hK K
            (try simp only [Act.put, List.getElem_toArray, List.getElem_cons_succ, List.getElem_cons_zero, List.setIfInBounds_toArray, List.set_cons_zero, List.set_cons_succ])
            refine wpAnyH_done (by kernel_rfl) ?_ _
            refine NoPanic.normal ?_
            clear g0 g1 g2 g3 k0 k1 k2 k3 hHeld
            go_wp2_with fail
            go_meet
            exact ⟨_, rfl, hqn, hbn⟩
          · go_simp
            refine hK.out _ _ (by exact HSS.out _ (HBp60.out.alloc HBp60.out.size (.cells #[.string s.n, .int .i64 s.l, .int .i64 s.r, .int .i64 s.t, .int .i64 s.b] 46))) (fun hHeld => ?_)
            clear hK K
            (try simp only [Act.put, List.getElem_toArray, List.getElem_cons_succ, List.getElem_cons_zero, List.setIfInBounds_toArray, List.set_cons_zero, List.set_cons_succ])
            obtain ⟨wp65, hwn⟩ : ∃ wn, wn = wp60.alloc (.cells #[.string s.n, .int .i64 s.l, .int .i64 s.r, .int .i64 s.t, .int .i64 s.b] 46) := ⟨_, rfl⟩
            have HBp65 := Lib.hid (show Below w3.heap.size w3 wp65 from hwn ▸ HBp60.out.alloc HBp60.out.size _)
            have HGp65 := Lib.hid (show Blk wp65 wp60.heap.size 46 #[.string s.n, .int .i64 s.l, .int .i64 s.r, .int .i64 s.t, .int .i64 s.b] from hwn ▸ Blk.new _ _ _)
            have HLp65 : Hid (w3.heap.size ≤ wp60.heap.size) := HBp60.out.size
            have HGp59aa := Lib.hid (show Blk wp65 wd.heap.size 29 #[.int .i64 0, .int .i64 0, .int .i64 0, .int .i64 0] from hwn ▸ HGp59a.out.alloc _)
            have HGp60a := Lib.hid (show Blk wp65 wp59.heap.size 46 #[] from hwn ▸ HGp60.out.alloc _)
            have HNEp65 : Hid (wp59.heap.size ≠ wp60.heap.size) := Nat.ne_of_lt HGp60.out.lt
            rw [← hwn]
            clear hwn
            refine wpAnyH_ready (rs := [3]) (by kernel_rfl) (by simp) ?_
            refine AllReadyH.cons rfl (fun K hK => ?_) AllReadyH.nil
            refine step_read rfl (.tmp 26) (.tmp 27) rfl w3.heap.size _ [] (by rfl) (OwS.none HGp60a.out HLp60.out) _ l (by rfl) (HRL.out wp65 HBp65.out) HNIL.out (by have := HLN.out; simp; omega) HBp65.out.size ?_
            intro vp66 wp66 ho hg
            have ho : OwS wp66 w3.heap.size vp66 (l) := ho
            have hbn := below_only HBp65.out hg HBp65.out.size (fun k hk => (World.ownsRow.lt (OwS.none HGp60a.out HLp60.out) k hk).1)
            have HGp59aab := Lib.hid (HGp59aa.out.grown hg (OwS.far (OwS.none HGp60a.out HLp60.out) HGp59aa.out (by decide)))
            have HGp65b := Lib.hid (HGp65.out.grown hg (fun e => (show wp60.heap.size ≠ wp59.heap.size from by first | exact HNEp65.out | exact fun e => HNEp65.out e.symm) (Option.some.inj e)))
            have HOp66 := Lib.hid ho
            have HBp66 := Lib.hid hbn
            refine hK.out _ _ (by exact HSS.out _ hbn) (fun hHeld => ?_)
            clear hK K ho hg hbn
            (try simp only [Act.put, List.getElem_toArray, List.getElem_cons_succ, List.getElem_cons_zero, List.setIfInBounds_toArray, List.set_cons_zero, List.set_cons_succ])
            refine wpAnyH_ready (rs := [6]) (by kernel_rfl) (by simp) ?_
            refine AllReadyH.cons rfl (fun K hK => ?_) AllReadyH.nil
            refine step_read rfl (.tmp 28) (.tmp 30) rfl w3.heap.size _ l (by rfl) HOp66.out _ [s] (by rfl) (OwS.one HGp65b.out HLp65.out).reads (fun _ _ e => by cases e) (by have := HLN.out; simp; omega) HBp66.out.size ?_
            intro vp67 wp67 ho hg
            have ho : OwS wp67 w3.heap.size vp67 (l ++ [s]) := ho
            have hbn := below_only HBp66.out hg HBp66.out.size (fun k hk => (World.ownsRow.lt HOp66.out k hk).1)
            have HGp59aabb := Lib.hid (HGp59aab.out.grown hg (OwS.far HOp66.out HGp59aab.out (by decide)))
            have HOp67 := Lib.hid ho
            have HBp67 := Lib.hid hbn
            refine hK.out _ _ (by exact HSS.out _ hbn) (fun hHeld => ?_)
            clear hK K ho hg hbn
            (try simp only [Act.put, List.getElem_toArray, List.getElem_cons_succ, List.getElem_cons_zero, List.setIfInBounds_toArray, List.set_cons_zero, List.set_cons_succ])
            refine wpAnyH_ready (rs := [7]) (by kernel_rfl) (by simp) ?_
            refine AllReadyH.cons rfl (fun K hK => ?_) AllReadyH.nil
            go_simp
            refine (HWK.out vp67 wp67 HOp67.out.reads).mono ?_
            rintro e wp68 ⟨rfl, hb⟩
            have hbn := HBp67.out.trans (hb.mono HBp67.out.size)
            have HBp68 := Lib.hid hbn
            have HGp59aabbc := Lib.hid (HGp59aabb.out.next hb)
            (try dsimp only)
            refine hK.out _ _ (by exact HSS.out _ hbn) (fun hHeld => ?_)
            clear hK K hb hbn
            (try simp only [Act.put, List.getElem_toArray, List.getElem_cons_succ, List.getElem_cons_zero, List.setIfInBounds_toArray, List.set_cons_zero, List.set_cons_succ])
            obtain ⟨⟨g0, g1, g2, g3⟩, k0, k1, k2, k3⟩ := HGp59aabbc.out.c4
            refine wpAnyH_ready (rs := [9]) (by kernel_rfl) (by simp) ?_
            refine AllReadyH.cons rfl (fun K hK => ?_) AllReadyH.nil
            go_simp
            have hbn := st4_below HBp68.out HLp59.out (.int .i64 b0) (.int .i64 b1) (.int .i64 b2) (.int .i64 b3)
            have hqn := st4_blk HGp59aabbc.out (.int .i64 b0) (.int .i64 b1) (.int .i64 b2) (.int .i64 b3)
            refine hK.out _ _ (by exact HSS.out _ hbn) (fun hHeld => ?_)
            clear hK K
            (try simp only [Act.put, List.getElem_toArray, List.getElem_cons_succ, List.getElem_cons_zero, List.setIfInBounds_toArray, List.set_cons_zero, List.set_cons_succ])
            refine wpAnyH_done (by kernel_rfl) ?_ _
            refine NoPanic.normal ?_
            clear g0 g1 g2 g3 k0 k1 k2 k3 hHeld
            go_wp2_with fail
            go_meet
            exact ⟨_, rfl, hqn, hbn⟩
        · go_simp
          refine hK.out _ _ (by exact HSS.out _ (HBp59.out.alloc HBp59.out.size (.cells #[.string s.n, .int .i64 s.l, .int .i64 s.r, .int .i64 s.t, .int .i64 s.b] 46))) (fun hHeld => ?_)
          clear hK K
          (try simp only [Act.put, List.getElem_toArray, List.getElem_cons_succ, List.getElem_cons_zero, List.setIfInBounds_toArray, List.set_cons_zero, List.set_cons_succ])
          obtain ⟨wp69, hwn⟩ : ∃ wn, wn = wp59.alloc (.cells #[.string s.n, .int .i64 s.l, .int .i64 s.r, .int .i64 s.t, .int .i64 s.b] 46) := ⟨_, rfl⟩
          have HBp69 := Lib.hid (show Below w3.heap.size w3 wp69 from hwn ▸ HBp59.out.alloc HBp59.out.size _)
          have HGp69 := Lib.hid (show Blk wp69 wp59.heap.size 46 #[.string s.n, .int .i64 s.l, .int .i64 s.r, .int .i64 s.t, .int .i64 s.b] from hwn ▸ Blk.new _ _ _)
          have HLp69 : Hid (w3.heap.size ≤ wp59.heap.size) := HBp59.out.size
          have HGp59a := Lib.hid (show Blk wp69 wd.heap.size 29 #[.int .i64 0, .int .i64 0, .int .i64 0, .int .i64 0] from hwn ▸ HGp59.out.alloc _)
          rw [← hwn]
          clear hwn
          refine wpAnyH_ready (rs := [1]) (by kernel_rfl) (by simp) ?_
          refine AllReadyH.cons rfl (fun K hK => ?_) AllReadyH.nil
          go_simp
          refine hK.out _ _ (by exact HSS.out _ (HBp69.out.alloc HBp69.out.size (.cells #[] 46))) (fun hHeld => ?_)
          clear hK K
          (try simp only [Act.put, List.getElem_toArray, List.getElem_cons_succ, List.getElem_cons_zero, List.setIfInBounds_toArray, List.set_cons_zero, List.set_cons_succ])
          obtain ⟨wp70, hwn⟩ : ∃ wn, wn = wp69.alloc (.cells #[] 46) := ⟨_, rfl⟩
          have HBp70 := Lib.hid (show Below w3.heap.size w3 wp70 from hwn ▸ HBp69.out.alloc HBp69.out.size _)
          have HGp70 := Lib.hid (show Blk wp70 wp69.heap.size 46 #[] from hwn ▸ Blk.new _ _ _)
          have HLp70 : Hid (w3.heap.size ≤ wp69.heap.size) := HBp69.out.size
          have HGp59aa := Lib.hid (show Blk wp70 wd.heap.size 29 #[.int .i64 0, .int .i64 0, .int .i64 0, .int .i64 0] from hwn ▸ HGp59a.out.alloc _)
          have HGp69a := Lib.hid (show Blk wp70 wp59.heap.size 46 #[.string s.n, .int .i64 s.l, .int .i64 s.r, .int .i64 s.t, .int .i64 s.b] from hwn ▸ HGp69.out.alloc _)
          have HNEp70 : Hid (wp59.heap.size ≠ wp69.heap.size) := Nat.ne_of_lt HGp69.out.lt
          rw [← hwn]
          clear hwn
          refine wpAnyH_ready (rs := [3]) (by kernel_rfl) (by simp) ?_
          refine AllReadyH.cons rfl (fun K hK => ?_) AllReadyH.nil
          refine step_read rfl (.tmp 26) (.tmp 27) rfl w3.heap.size _ [] (by rfl) (OwS.none HGp70.out HLp70.out) _ l (by rfl) (HRL.out wp70 HBp70.out) HNIL.out (by have := HLN.out; simp; omega) HBp70.out.size ?_
          intro vp71 wp71 ho hg
          have ho : OwS wp71 w3.heap.size vp71 (l) := ho
          have hbn := below_only HBp70.out hg HBp70.out.size (fun k hk => (World.ownsRow.lt (OwS.none HGp70.out HLp70.out) k hk).1)
          have HGp59aab := Lib.hid (HGp59aa.out.grown hg (OwS.far (OwS.none HGp70.out HLp70.out) HGp59aa.out (by decide)))
          have HGp69ab := Lib.hid (HGp69a.out.grown hg (fun e => (show wp59.heap.size ≠ wp69.heap.size from by first | exact HNEp70.out | exact fun e => HNEp70.out e.symm) (Option.some.inj e)))
          have HOp71 := Lib.hid ho
          have HBp71 := Lib.hid hbn
          refine hK.out _ _ (by exact HSS.out _ hbn) (fun hHeld => ?_)
          clear hK K ho hg hbn
          (try simp only [Act.put, List.getElem_toArray, List.getElem_cons_succ, List.getElem_cons_zero, List.setIfInBounds_toArray, List.set_cons_zero, List.set_cons_succ])
          refine wpAnyH_ready (rs := [6]) (by kernel_rfl) (by simp) ?_
          refine AllReadyH.cons rfl (fun K hK => ?_) AllReadyH.nil
          refine step_read rfl (.tmp 28) (.tmp 30) rfl w3.heap.size _ l (by rfl) HOp71.out _ [s] (by rfl) (OwS.one HGp69ab.out HLp69.out).reads (fun _ _ e => by cases e) (by have := HLN.out; simp; omega) HBp71.out.size ?_
          intro vp72 wp72 ho hg
          have ho : OwS wp72 w3.heap.size vp72 (l ++ [s]) := ho
          have hbn := below_only HBp71.out hg HBp71.out.size (fun k hk => (World.ownsRow.lt HOp71.out k hk).1)
          have HGp59aabb := Lib.hid (HGp59aab.out.grown hg (OwS.far HOp71.out HGp59aab.out (by decide)))
          have HOp72 := Lib.hid ho
          have HBp72 := Lib.hid hbn
          refine hK.out _ _ (by exact HSS.out _ hbn) (fun hHeld => ?_)
          clear hK K ho hg hbn
          (try simp only [Act.put, List.getElem_toArray, List.getElem_cons_succ, List.getElem_cons_zero, List.setIfInBounds_toArray, List.set_cons_zero, List.set_cons_succ])
          refine wpAnyH_ready (rs := [7]) (by kernel_rfl) (by simp) ?_
          refine AllReadyH.cons rfl (fun K hK => ?_) AllReadyH.nil
          go_simp
          refine (HWK.out vp72 wp72 HOp72.out.reads).mono ?_
          rintro e wp73 ⟨rfl, hb⟩
          have hbn := HBp72.out.trans (hb.mono HBp72.out.size)
          have HBp73 := Lib.hid hbn
          have HGp59aabbc := Lib.hid (HGp59aabb.out.next hb)
          (try dsimp only)
          refine hK.out _ _ (by exact HSS.out _ hbn) (fun hHeld => ?_)
          clear hK K hb hbn
          (try simp only [Act.put, List.getElem_toArray, List.getElem_cons_succ, List.getElem_cons_zero, List.setIfInBounds_toArray, List.set_cons_zero, List.set_cons_succ])
          obtain ⟨⟨g0, g1, g2, g3⟩, k0, k1, k2, k3⟩ := HGp59aabbc.out.c4
          refine wpAnyH_ready (rs := [9]) (by kernel_rfl) (by simp) ?_
          refine AllReadyH.cons rfl (fun K hK => ?_) AllReadyH.nil
          go_simp
          have hbn := st4_below HBp73.out HLp59.out (.int .i64 b0) (.int .i64 b1) (.int .i64 b2) (.int .i64 b3)
          have hqn := st4_blk HGp59aabbc.out (.int .i64 b0) (.int .i64 b1) (.int .i64 b2) (.int .i64 b3)
          refine hK.out _ _ (by exact HSS.out _ hbn) (fun hHeld => ?_)
          clear hK K
          (try simp only [Act.put, List.getElem_toArray, List.getElem_cons_succ, List.getElem_cons_zero, List.setIfInBounds_toArray, List.set_cons_zero, List.set_cons_succ])
          refine wpAnyH_done (by kernel_rfl) ?_ _
          refine NoPanic.normal ?_
          clear g0 g1 g2 g3 k0 k1 k2 k3 hHeld
          go_wp2_with fail
          go_meet
          exact ⟨_, rfl, hqn, hbn⟩
    case rest =>
      obtain ⟨g8, rfl, hq8, hb⟩ := hcut
      clear HWK HSS HRL
      have HB4 := Lib.hid (HB3.out.trans (hb.mono HB3.out.size))
      have HQ0 := Lib.hid (HQ0.out.next hb)
      have HQ1 := Lib.hid (HQ1.out.next hb)
      have HQ7 := Lib.hid (HQ7.out.next hb)
      have HQ8 := Lib.hid hq8
      clear hb hq8
      obtain ⟨w4, hw4⟩ : ∃ w4, w4 = wc := ⟨_, rfl⟩
      subst hw4
      go_upto_region 5 with fail
      have HSS : Hid (∀ W, Below w4.heap.size w4 W → W.cell? ⟨w.heap.size, 0, none⟩ = some (.string o.n) ∧ W.cell? ⟨w.heap.size, 1, none⟩ = some (.int .i64 o.x) ∧ W.cell? ⟨w.heap.size, 2, none⟩ = some (.int .i64 o.y) ∧ W.cell? ⟨w.heap.size, 3, none⟩ = some (.int .i64 o.w) ∧ W.cell? ⟨w.heap.size, 4, none⟩ = some (.int .i64 o.h) ∧ W.cell? ⟨(w.heap.size + 1), 0, none⟩ = some (.string s.n) ∧ W.cell? ⟨(w.heap.size + 1), 1, none⟩ = some (.int .i64 s.l) ∧ W.cell? ⟨(w.heap.size + 1), 2, none⟩ = some (.int .i64 s.r) ∧ W.cell? ⟨(w.heap.size + 1), 3, none⟩ = some (.int .i64 s.t) ∧ W.cell? ⟨(w.heap.size + 1), 4, none⟩ = some (.int .i64 s.b)) := fun W h => by
        obtain ⟨⟨o0, o1, o2, o3, o4⟩, ⟨s0, s1, s2, s3, s4⟩⟩ := And.intro (c5o (HQ0.out.next h)) (c5o (HQ1.out.next h))
        exact ⟨o0, o1, o2, o3, o4, s0, s1, s2, s3, s4⟩
      have HRL : Hid (∀ W, Below w4.heap.size w4 W → RdK encS 5 W v l) := fun W h => HR0.out W (HB4.out.trans (h.mono HB4.out.size))
      have HWK : Hid (∀ (u : Value) (W : World), RdK encS 5 W u ([s] ++ l) → Calls Try.prog 13 #[outV o, u] W fun e w' => e = .returned (.agg #[.int .i64 b0, .int .i64 b1, .int .i64 b2, .int .i64 b3]) ∧ Below W.heap.size W w') := HW3.out
      go_cut [9] (fun s9 wx => ∃ g, s9 = .pointer (some ⟨g, 0, none⟩) ∧ Blk wx g 29 #[.int .i64 b0, .int .i64 b1, .int .i64 b2, .int .i64 b3] ∧ Below w4.heap.size w4 wx)
      case first =>
        refine wp_region_noPanic ?_
        refine wp_region_held_drew (S := fun wx => wx.cell? ⟨w.heap.size, 0, none⟩ = some (.string o.n) ∧ wx.cell? ⟨w.heap.size, 1, none⟩ = some (.int .i64 o.x) ∧ wx.cell? ⟨w.heap.size, 2, none⟩ = some (.int .i64 o.y) ∧ wx.cell? ⟨w.heap.size, 3, none⟩ = some (.int .i64 o.w) ∧ wx.cell? ⟨w.heap.size, 4, none⟩ = some (.int .i64 o.h) ∧ wx.cell? ⟨(w.heap.size + 1), 0, none⟩ = some (.string s.n) ∧ wx.cell? ⟨(w.heap.size + 1), 1, none⟩ = some (.int .i64 s.l) ∧ wx.cell? ⟨(w.heap.size + 1), 2, none⟩ = some (.int .i64 s.r) ∧ wx.cell? ⟨(w.heap.size + 1), 3, none⟩ = some (.int .i64 s.t) ∧ wx.cell? ⟨(w.heap.size + 1), 4, none⟩ = some (.int .i64 s.b)) (by kernel_rfl) (by exact HSS.out _ (Below.refl _ _).drew) (fun hHeld => ?_)
        refine wpAnyH_take (i := 0) (v := ?vq0) rfl (by kernel_rfl) (by kernel_rfl) (by kernel_rfl) (fun _ _ _ h => h) (Or.inl ⟨by kernel_rfl, ?yq0⟩) (by assumption) ?rq0
        case yq0 => (intro wq hSw; (try dsimp only at hSw); go_simp; (try with_reducible rfl))
        (try simp only [Act.put, List.getElem_toArray, List.getElem_cons_zero, List.setIfInBounds_toArray, List.set_cons_zero, List.set_cons_succ])
        refine wpAnyH_take (i := 1) (v := ?vq1) rfl (by kernel_rfl) (by kernel_rfl) (by kernel_rfl) (fun _ _ _ h => h) (Or.inl ⟨by kernel_rfl, ?yq1⟩) (by assumption) ?rq1
        case yq1 => (intro wq hSw; (try dsimp only at hSw); go_simp; (try with_reducible rfl))
        (try simp only [Act.put, List.getElem_toArray, List.getElem_cons_succ, List.getElem_cons_zero, List.setIfInBounds_toArray, List.set_cons_zero, List.set_cons_succ])
        refine wpAnyH_take (i := 3) (v := ?vq3) rfl (by kernel_rfl) (by kernel_rfl) (by kernel_rfl) (fun _ _ _ h => h) (Or.inl ⟨by kernel_rfl, ?yq3⟩) (by assumption) ?rq3
        case yq3 => (intro wq hSw; (try dsimp only at hSw); go_simp; (try with_reducible rfl))
        (try simp only [Act.put, List.getElem_toArray, List.getElem_cons_succ, List.getElem_cons_zero, List.setIfInBounds_toArray, List.set_cons_zero, List.set_cons_succ])
        obtain ⟨wd, hwd⟩ : ∃ wd, wd = w4.drew := ⟨_, rfl⟩
        have HBd := Lib.hid (show Below w4.heap.size w4 wd from hwd ▸ (Below.refl _ _).drew)
        rw [← hwd]
        clear hwd
        refine wpAnyH_ready (rs := [2, 6]) (by kernel_rfl) (by simp) ?_
        refine AllReadyH.cons rfl (fun K hK => ?_) (AllReadyH.cons rfl (fun K hK => ?_) AllReadyH.nil)
        · go_simp
          refine hK.out _ _ (by exact HSS.out _ (HBd.out.alloc HBd.out.size (.cells #[.string s.n, .int .i64 s.l, .int .i64 s.r, .int .i64 s.t, .int .i64 s.b] 46))) (fun hHeld => ?_)
          clear hK K
          (try simp only [Act.put, List.getElem_toArray, List.getElem_cons_succ, List.getElem_cons_zero, List.setIfInBounds_toArray, List.set_cons_zero, List.set_cons_succ])
          obtain ⟨wq1, hwn⟩ : ∃ wn, wn = wd.alloc (.cells #[.string s.n, .int .i64 s.l, .int .i64 s.r, .int .i64 s.t, .int .i64 s.b] 46) := ⟨_, rfl⟩
          have HBq1 := Lib.hid (show Below w4.heap.size w4 wq1 from hwn ▸ HBd.out.alloc HBd.out.size _)
          have HGq1 := Lib.hid (show Blk wq1 wd.heap.size 46 #[.string s.n, .int .i64 s.l, .int .i64 s.r, .int .i64 s.t, .int .i64 s.b] from hwn ▸ Blk.new _ _ _)
          have HLq1 : Hid (w4.heap.size ≤ wd.heap.size) := HBd.out.size
          rw [← hwn]
          clear hwn
          refine wpAnyH_ready (rs := [4, 6]) (by kernel_rfl) (by simp) ?_
          refine AllReadyH.cons rfl (fun K hK => ?_) (AllReadyH.cons rfl (fun K hK => ?_) AllReadyH.nil)
          · refine step_read rfl (.tmp 35) (.tmp 36) rfl w4.heap.size _ [s] (by rfl) (OwS.one HGq1.out HLq1.out) _ l (by rfl) (HRL.out wq1 HBq1.out) HNIL.out (by have := HLN.out; simp; omega) HBq1.out.size ?_
            intro vq2 wq2 ho hg
            have ho : OwS wq2 w4.heap.size vq2 ([s] ++ l) := ho
            have hbn := below_only HBq1.out hg HBq1.out.size (fun k hk => (World.ownsRow.lt (OwS.one HGq1.out HLq1.out) k hk).1)
            have HOq2 := Lib.hid ho
            have HBq2 := Lib.hid hbn
            refine hK.out _ _ (by exact HSS.out _ hbn) (fun hHeld => ?_)
            clear hK K ho hg hbn
            (try simp only [Act.put, List.getElem_toArray, List.getElem_cons_succ, List.getElem_cons_zero, List.setIfInBounds_toArray, List.set_cons_zero, List.set_cons_succ])
            refine wpAnyH_ready (rs := [5, 6]) (by kernel_rfl) (by simp) ?_
            refine AllReadyH.cons rfl (fun K hK => ?_) (AllReadyH.cons rfl (fun K hK => ?_) AllReadyH.nil)
            · go_simp
              refine (HWK.out vq2 wq2 HOq2.out.reads).mono ?_
              rintro e wq3 ⟨rfl, hb⟩
              have hbn := HBq2.out.trans (hb.mono HBq2.out.size)
              have HBq3 := Lib.hid hbn
              (try dsimp only)
              refine hK.out _ _ (by exact HSS.out _ hbn) (fun hHeld => ?_)
              clear hK K hb hbn
              (try simp only [Act.put, List.getElem_toArray, List.getElem_cons_succ, List.getElem_cons_zero, List.setIfInBounds_toArray, List.set_cons_zero, List.set_cons_succ])
              refine wpAnyH_ready (rs := [6]) (by kernel_rfl) (by simp) ?_
              refine AllReadyH.cons rfl (fun K hK => ?_) AllReadyH.nil
              go_simp
              refine hK.out _ _ (by exact HSS.out _ (HBq3.out.alloc HBq3.out.size (.cells #[.int .i64 0, .int .i64 0, .int .i64 0, .int .i64 0] 29))) (fun hHeld => ?_)
              clear hK K
              (try simp only [Act.put, List.getElem_toArray, List.getElem_cons_succ, List.getElem_cons_zero, List.setIfInBounds_toArray, List.set_cons_zero, List.set_cons_succ])
              obtain ⟨wq4, hwn⟩ : ∃ wn, wn = wq3.alloc (.cells #[.int .i64 0, .int .i64 0, .int .i64 0, .int .i64 0] 29) := ⟨_, rfl⟩
              have HBq4 := Lib.hid (show Below w4.heap.size w4 wq4 from hwn ▸ HBq3.out.alloc HBq3.out.size _)
              have HGq4 := Lib.hid (show Blk wq4 wq3.heap.size 29 #[.int .i64 0, .int .i64 0, .int .i64 0, .int .i64 0] from hwn ▸ Blk.new _ _ _)
              have HLq4 : Hid (w4.heap.size ≤ wq3.heap.size) := HBq3.out.size
              rw [← hwn]
              clear hwn
              obtain ⟨⟨g0, g1, g2, g3⟩, k0, k1, k2, k3⟩ := HGq4.out.c4
              refine wpAnyH_ready (rs := [7]) (by kernel_rfl) (by simp) ?_
              refine AllReadyH.cons rfl (fun K hK => ?_) AllReadyH.nil
              go_simp
              have hbn := st4_below HBq4.out HLq4.out (.int .i64 b0) (.int .i64 b1) (.int .i64 b2) (.int .i64 b3)
              have hqn := st4_blk HGq4.out (.int .i64 b0) (.int .i64 b1) (.int .i64 b2) (.int .i64 b3)
              refine hK.out _ _ (by exact HSS.out _ hbn) (fun hHeld => ?_)
              clear hK K
              (try simp only [Act.put, List.getElem_toArray, List.getElem_cons_succ, List.getElem_cons_zero, List.setIfInBounds_toArray, List.set_cons_zero, List.set_cons_succ])
              refine wpAnyH_done (by kernel_rfl) ?_ _
              refine NoPanic.normal ?_
              clear g0 g1 g2 g3 k0 k1 k2 k3 hHeld
              go_wp2_with fail
              go_meet
              exact ⟨_, rfl, hqn, hbn⟩
            · go_simp
              refine hK.out _ _ (by exact HSS.out _ (HBq2.out.alloc HBq2.out.size (.cells #[.int .i64 0, .int .i64 0, .int .i64 0, .int .i64 0] 29))) (fun hHeld => ?_)
              clear hK K
              (try simp only [Act.put, List.getElem_toArray, List.getElem_cons_succ, List.getElem_cons_zero, List.setIfInBounds_toArray, List.set_cons_zero, List.set_cons_succ])
              obtain ⟨wq5, hwn⟩ : ∃ wn, wn = wq2.alloc (.cells #[.int .i64 0, .int .i64 0, .int .i64 0, .int .i64 0] 29) := ⟨_, rfl⟩
              have HBq5 := Lib.hid (show Below w4.heap.size w4 wq5 from hwn ▸ HBq2.out.alloc HBq2.out.size _)
              have HGq5 := Lib.hid (show Blk wq5 wq2.heap.size 29 #[.int .i64 0, .int .i64 0, .int .i64 0, .int .i64 0] from hwn ▸ Blk.new _ _ _)
              have HLq5 : Hid (w4.heap.size ≤ wq2.heap.size) := HBq2.out.size
              have HOq2a := Lib.hid (HOq2.out.keep (hwn ▸ (Below.refl wq2.heap.size wq2).alloc (Nat.le_refl _) _))
              rw [← hwn]
              clear hwn
              refine wpAnyH_ready (rs := [5]) (by kernel_rfl) (by simp) ?_
              refine AllReadyH.cons rfl (fun K hK => ?_) AllReadyH.nil
              go_simp
              refine (HWK.out vq2 wq5 HOq2a.out.reads).mono ?_
              rintro e wq6 ⟨rfl, hb⟩
              have hbn := HBq5.out.trans (hb.mono HBq5.out.size)
              have HBq6 := Lib.hid hbn
              have HGq5c := Lib.hid (HGq5.out.next hb)
              (try dsimp only)
              refine hK.out _ _ (by exact HSS.out _ hbn) (fun hHeld => ?_)
              clear hK K hb hbn
              (try simp only [Act.put, List.getElem_toArray, List.getElem_cons_succ, List.getElem_cons_zero, List.setIfInBounds_toArray, List.set_cons_zero, List.set_cons_succ])
              obtain ⟨⟨g0, g1, g2, g3⟩, k0, k1, k2, k3⟩ := HGq5c.out.c4
              refine wpAnyH_ready (rs := [7]) (by kernel_rfl) (by simp) ?_
              refine AllReadyH.cons rfl (fun K hK => ?_) AllReadyH.nil
              go_simp
              have hbn := st4_below HBq6.out HLq5.out (.int .i64 b0) (.int .i64 b1) (.int .i64 b2) (.int .i64 b3)
              have hqn := st4_blk HGq5c.out (.int .i64 b0) (.int .i64 b1) (.int .i64 b2) (.int .i64 b3)
              refine hK.out _ _ (by exact HSS.out _ hbn) (fun hHeld => ?_)
              clear hK K
              (try simp only [Act.put, List.getElem_toArray, List.getElem_cons_succ, List.getElem_cons_zero, List.setIfInBounds_toArray, List.set_cons_zero, List.set_cons_succ])
              refine wpAnyH_done (by kernel_rfl) ?_ _
              refine NoPanic.normal ?_
              clear g0 g1 g2 g3 k0 k1 k2 k3 hHeld
              go_wp2_with fail
              go_meet
              exact ⟨_, rfl, hqn, hbn⟩
          · go_simp
            refine hK.out _ _ (by exact HSS.out _ (HBq1.out.alloc HBq1.out.size (.cells #[.int .i64 0, .int .i64 0, .int .i64 0, .int .i64 0] 29))) (fun hHeld => ?_)
            clear hK K
            (try simp only [Act.put, List.getElem_toArray, List.getElem_cons_succ, List.getElem_cons_zero, List.setIfInBounds_toArray, List.set_cons_zero, List.set_cons_succ])
            obtain ⟨wq7, hwn⟩ : ∃ wn, wn = wq1.alloc (.cells #[.int .i64 0, .int .i64 0, .int .i64 0, .int .i64 0] 29) := ⟨_, rfl⟩
            have HBq7 := Lib.hid (show Below w4.heap.size w4 wq7 from hwn ▸ HBq1.out.alloc HBq1.out.size _)
            have HGq7 := Lib.hid (show Blk wq7 wq1.heap.size 29 #[.int .i64 0, .int .i64 0, .int .i64 0, .int .i64 0] from hwn ▸ Blk.new _ _ _)
            have HLq7 : Hid (w4.heap.size ≤ wq1.heap.size) := HBq1.out.size
            have HGq1a := Lib.hid (show Blk wq7 wd.heap.size 46 #[.string s.n, .int .i64 s.l, .int .i64 s.r, .int .i64 s.t, .int .i64 s.b] from hwn ▸ HGq1.out.alloc _)
            rw [← hwn]
            clear hwn
            refine wpAnyH_ready (rs := [4]) (by kernel_rfl) (by simp) ?_
            refine AllReadyH.cons rfl (fun K hK => ?_) AllReadyH.nil
            refine step_read rfl (.tmp 35) (.tmp 36) rfl w4.heap.size _ [s] (by rfl) (OwS.one HGq1a.out HLq1.out) _ l (by rfl) (HRL.out wq7 HBq7.out) HNIL.out (by have := HLN.out; simp; omega) HBq7.out.size ?_
            intro vq8 wq8 ho hg
            have ho : OwS wq8 w4.heap.size vq8 ([s] ++ l) := ho
            have hbn := below_only HBq7.out hg HBq7.out.size (fun k hk => (World.ownsRow.lt (OwS.one HGq1a.out HLq1.out) k hk).1)
            have HGq7b := Lib.hid (HGq7.out.grown hg (OwS.far (OwS.one HGq1a.out HLq1.out) HGq7.out (by decide)))
            have HOq8 := Lib.hid ho
            have HBq8 := Lib.hid hbn
            refine hK.out _ _ (by exact HSS.out _ hbn) (fun hHeld => ?_)
            clear hK K ho hg hbn
            (try simp only [Act.put, List.getElem_toArray, List.getElem_cons_succ, List.getElem_cons_zero, List.setIfInBounds_toArray, List.set_cons_zero, List.set_cons_succ])
            refine wpAnyH_ready (rs := [5]) (by kernel_rfl) (by simp) ?_
            refine AllReadyH.cons rfl (fun K hK => ?_) AllReadyH.nil
            go_simp
            refine (HWK.out vq8 wq8 HOq8.out.reads).mono ?_
            rintro e wq9 ⟨rfl, hb⟩
            have hbn := HBq8.out.trans (hb.mono HBq8.out.size)
            have HBq9 := Lib.hid hbn
            have HGq7bc := Lib.hid (HGq7b.out.next hb)
            (try dsimp only)
            refine hK.out _ _ (by exact HSS.out _ hbn) (fun hHeld => ?_)
            clear hK K hb hbn
            (try simp only [Act.put, List.getElem_toArray, List.getElem_cons_succ, List.getElem_cons_zero, List.setIfInBounds_toArray, List.set_cons_zero, List.set_cons_succ])
            obtain ⟨⟨g0, g1, g2, g3⟩, k0, k1, k2, k3⟩ := HGq7bc.out.c4
            refine wpAnyH_ready (rs := [7]) (by kernel_rfl) (by simp) ?_
            refine AllReadyH.cons rfl (fun K hK => ?_) AllReadyH.nil
            go_simp
            have hbn := st4_below HBq9.out HLq7.out (.int .i64 b0) (.int .i64 b1) (.int .i64 b2) (.int .i64 b3)
            have hqn := st4_blk HGq7bc.out (.int .i64 b0) (.int .i64 b1) (.int .i64 b2) (.int .i64 b3)
            refine hK.out _ _ (by exact HSS.out _ hbn) (fun hHeld => ?_)
            clear hK K
            (try simp only [Act.put, List.getElem_toArray, List.getElem_cons_succ, List.getElem_cons_zero, List.setIfInBounds_toArray, List.set_cons_zero, List.set_cons_succ])
            refine wpAnyH_done (by kernel_rfl) ?_ _
            refine NoPanic.normal ?_
            clear g0 g1 g2 g3 k0 k1 k2 k3 hHeld
            go_wp2_with fail
            go_meet
            exact ⟨_, rfl, hqn, hbn⟩
        · go_simp
          refine hK.out _ _ (by exact HSS.out _ (HBd.out.alloc HBd.out.size (.cells #[.int .i64 0, .int .i64 0, .int .i64 0, .int .i64 0] 29))) (fun hHeld => ?_)
          clear hK K
          (try simp only [Act.put, List.getElem_toArray, List.getElem_cons_succ, List.getElem_cons_zero, List.setIfInBounds_toArray, List.set_cons_zero, List.set_cons_succ])
          obtain ⟨wq10, hwn⟩ : ∃ wn, wn = wd.alloc (.cells #[.int .i64 0, .int .i64 0, .int .i64 0, .int .i64 0] 29) := ⟨_, rfl⟩
          have HBq10 := Lib.hid (show Below w4.heap.size w4 wq10 from hwn ▸ HBd.out.alloc HBd.out.size _)
          have HGq10 := Lib.hid (show Blk wq10 wd.heap.size 29 #[.int .i64 0, .int .i64 0, .int .i64 0, .int .i64 0] from hwn ▸ Blk.new _ _ _)
          have HLq10 : Hid (w4.heap.size ≤ wd.heap.size) := HBd.out.size
          rw [← hwn]
          clear hwn
          refine wpAnyH_ready (rs := [2]) (by kernel_rfl) (by simp) ?_
          refine AllReadyH.cons rfl (fun K hK => ?_) AllReadyH.nil
          go_simp
          refine hK.out _ _ (by exact HSS.out _ (HBq10.out.alloc HBq10.out.size (.cells #[.string s.n, .int .i64 s.l, .int .i64 s.r, .int .i64 s.t, .int .i64 s.b] 46))) (fun hHeld => ?_)
          clear hK K
          (try simp only [Act.put, List.getElem_toArray, List.getElem_cons_succ, List.getElem_cons_zero, List.setIfInBounds_toArray, List.set_cons_zero, List.set_cons_succ])
          obtain ⟨wq11, hwn⟩ : ∃ wn, wn = wq10.alloc (.cells #[.string s.n, .int .i64 s.l, .int .i64 s.r, .int .i64 s.t, .int .i64 s.b] 46) := ⟨_, rfl⟩
          have HBq11 := Lib.hid (show Below w4.heap.size w4 wq11 from hwn ▸ HBq10.out.alloc HBq10.out.size _)
          have HGq11 := Lib.hid (show Blk wq11 wq10.heap.size 46 #[.string s.n, .int .i64 s.l, .int .i64 s.r, .int .i64 s.t, .int .i64 s.b] from hwn ▸ Blk.new _ _ _)
          have HLq11 : Hid (w4.heap.size ≤ wq10.heap.size) := HBq10.out.size
          have HGq10a := Lib.hid (show Blk wq11 wd.heap.size 29 #[.int .i64 0, .int .i64 0, .int .i64 0, .int .i64 0] from hwn ▸ HGq10.out.alloc _)
          rw [← hwn]
          clear hwn
          refine wpAnyH_ready (rs := [4]) (by kernel_rfl) (by simp) ?_
          refine AllReadyH.cons rfl (fun K hK => ?_) AllReadyH.nil
          refine step_read rfl (.tmp 35) (.tmp 36) rfl w4.heap.size _ [s] (by rfl) (OwS.one HGq11.out HLq11.out) _ l (by rfl) (HRL.out wq11 HBq11.out) HNIL.out (by have := HLN.out; simp; omega) HBq11.out.size ?_
          intro vq12 wq12 ho hg
          have ho : OwS wq12 w4.heap.size vq12 ([s] ++ l) := ho
          have hbn := below_only HBq11.out hg HBq11.out.size (fun k hk => (World.ownsRow.lt (OwS.one HGq11.out HLq11.out) k hk).1)
          have HGq10ab := Lib.hid (HGq10a.out.grown hg (OwS.far (OwS.one HGq11.out HLq11.out) HGq10a.out (by decide)))
          have HOq12 := Lib.hid ho
          have HBq12 := Lib.hid hbn
          refine hK.out _ _ (by exact HSS.out _ hbn) (fun hHeld => ?_)
          clear hK K ho hg hbn
          (try simp only [Act.put, List.getElem_toArray, List.getElem_cons_succ, List.getElem_cons_zero, List.setIfInBounds_toArray, List.set_cons_zero, List.set_cons_succ])
          refine wpAnyH_ready (rs := [5]) (by kernel_rfl) (by simp) ?_
          refine AllReadyH.cons rfl (fun K hK => ?_) AllReadyH.nil
          go_simp
          refine (HWK.out vq12 wq12 HOq12.out.reads).mono ?_
          rintro e wq13 ⟨rfl, hb⟩
          have hbn := HBq12.out.trans (hb.mono HBq12.out.size)
          have HBq13 := Lib.hid hbn
          have HGq10abc := Lib.hid (HGq10ab.out.next hb)
          (try dsimp only)
          refine hK.out _ _ (by exact HSS.out _ hbn) (fun hHeld => ?_)
          clear hK K hb hbn
          (try simp only [Act.put, List.getElem_toArray, List.getElem_cons_succ, List.getElem_cons_zero, List.setIfInBounds_toArray, List.set_cons_zero, List.set_cons_succ])
          obtain ⟨⟨g0, g1, g2, g3⟩, k0, k1, k2, k3⟩ := HGq10abc.out.c4
          refine wpAnyH_ready (rs := [7]) (by kernel_rfl) (by simp) ?_
          refine AllReadyH.cons rfl (fun K hK => ?_) AllReadyH.nil
          go_simp
          have hbn := st4_below HBq13.out HLq10.out (.int .i64 b0) (.int .i64 b1) (.int .i64 b2) (.int .i64 b3)
          have hqn := st4_blk HGq10abc.out (.int .i64 b0) (.int .i64 b1) (.int .i64 b2) (.int .i64 b3)
          refine hK.out _ _ (by exact HSS.out _ hbn) (fun hHeld => ?_)
          clear hK K
          (try simp only [Act.put, List.getElem_toArray, List.getElem_cons_succ, List.getElem_cons_zero, List.setIfInBounds_toArray, List.set_cons_zero, List.set_cons_succ])
          refine wpAnyH_done (by kernel_rfl) ?_ _
          refine NoPanic.normal ?_
          clear g0 g1 g2 g3 k0 k1 k2 k3 hHeld
          go_wp2_with fail
          go_meet
          exact ⟨_, rfl, hqn, hbn⟩
      case rest =>
        obtain ⟨g9, rfl, hq9, hb⟩ := hcut
        clear HWK HSS HRL
        have HB5 := Lib.hid (HB4.out.trans (hb.mono HB4.out.size))
        have HQ0 := Lib.hid (HQ0.out.next hb)
        have HQ1 := Lib.hid (HQ1.out.next hb)
        have HQ7 := Lib.hid (HQ7.out.next hb)
        have HQ8 := Lib.hid (HQ8.out.next hb)
        have HQ9 := Lib.hid hq9
        clear hb hq9
        obtain ⟨w5, hw5⟩ : ∃ w5, w5 = wc := ⟨_, rfl⟩
        subst hw5
        go_upto_region 6 with fail
        have HSX : Hid (∀ W, Below w5.heap.size w5 W → W.cell? ⟨w2.heap.size, 0, none⟩ = some (.int .i64 a0) ∧ W.cell? ⟨w2.heap.size, 1, none⟩ = some (.int .i64 a1) ∧ W.cell? ⟨w2.heap.size, 2, none⟩ = some (.int .i64 a2) ∧ W.cell? ⟨w2.heap.size, 3, none⟩ = some (.int .i64 a3) ∧ W.cell? ⟨g8, 0, none⟩ = some (.int .i64 b0) ∧ W.cell? ⟨g8, 1, none⟩ = some (.int .i64 b1) ∧ W.cell? ⟨g8, 2, none⟩ = some (.int .i64 b2) ∧ W.cell? ⟨g8, 3, none⟩ = some (.int .i64 b3) ∧ W.cell? ⟨g9, 0, none⟩ = some (.int .i64 b0) ∧ W.cell? ⟨g9, 1, none⟩ = some (.int .i64 b1) ∧ W.cell? ⟨g9, 2, none⟩ = some (.int .i64 b2) ∧ W.cell? ⟨g9, 3, none⟩ = some (.int .i64 b3) ∧ W.cell? ⟨w.heap.size, 0, none⟩ = some (.string o.n) ∧ W.cell? ⟨w.heap.size, 1, none⟩ = some (.int .i64 o.x) ∧ W.cell? ⟨w.heap.size, 2, none⟩ = some (.int .i64 o.y) ∧ W.cell? ⟨w.heap.size, 3, none⟩ = some (.int .i64 o.w) ∧ W.cell? ⟨w.heap.size, 4, none⟩ = some (.int .i64 o.h) ∧ W.cell? ⟨(w.heap.size + 1), 0, none⟩ = some (.string s.n)) := fun W h => by
          obtain ⟨⟨x0, x1, x2, x3⟩, -⟩ := (HQ7.out.next h).c4
          obtain ⟨⟨y0, y1, y2, y3⟩, -⟩ := (HQ8.out.next h).c4
          obtain ⟨⟨z0, z1, z2, z3⟩, -⟩ := (HQ9.out.next h).c4
          obtain ⟨⟨o0, o1, o2, o3, o4⟩, ⟨s0, -⟩⟩ := And.intro (c5o (HQ0.out.next h)) (c5o (HQ1.out.next h))
          exact ⟨x0, x1, x2, x3, y0, y1, y2, y3, z0, z1, z2, z3, o0, o1, o2, o3, o4, s0⟩
        have hself : rcEq b0 b1 b2 b3 b0 b1 b2 b3 = true := (rcEq_iff ..).2 ⟨rfl, rfl, rfl, rfl⟩
        have HC1 : Hid (∀ W, Calls Try.prog 22 #[.agg #[.int .i64 a0, .int .i64 a1, .int .i64 a2, .int .i64 a3], .agg #[.int .i64 o.x, .int .i64 o.y, .int .i64 o.w, .int .i64 o.h]] W fun e w' => e = .returned (.bool true) ∧ Below W.heap.size W w') := fun W => by
          have h := inside_c a0 a1 a2 a3 o.x o.y o.w o.h W
          rw [show insideB a0 a1 a2 a3 o.x o.y o.w o.h = true from HIN1.out] at h; exact h
        have HC2 : Hid (∀ W, Calls Try.prog 22 #[.agg #[.int .i64 b0, .int .i64 b1, .int .i64 b2, .int .i64 b3], .agg #[.int .i64 a0, .int .i64 a1, .int .i64 a2, .int .i64 a3]] W fun e w' => e = .returned (.bool true) ∧ Below W.heap.size W w') := fun W => by
          have h := inside_c b0 b1 b2 b3 a0 a1 a2 a3 W
          rw [show insideB b0 b1 b2 b3 a0 a1 a2 a3 = true from HIN2.out] at h; exact h
        cases hof : (s.n.toList == o.n.toList)
        · have hsm := HSAME.out hof
          simp only [Rc.mk.injEq] at hsm
          obtain ⟨rfl, rfl, rfl, rfl⟩ := hsm
          clear HSAME
          obtain ⟨x0, x1, x2, x3, y0, y1, y2, y3, z0, z1, z2, z3, o0, o1, o2, o3, o4, s0⟩ := HSX.out _ (Below.refl _ _)
          go_wp2_with fail
          refine (HC1.out _).mono ?_
          rintro e w6 ⟨rfl, hb⟩
          have HB6 := Lib.hid hb
          clear hb x0 x1 x2 x3 y0 y1 y2 y3 z0 z1 z2 z3 o0 o1 o2 o3 o4 s0
          obtain ⟨x0, x1, x2, x3, y0, y1, y2, y3, z0, z1, z2, z3, o0, o1, o2, o3, o4, s0⟩ := HSX.out _ HB6.out
          go_wp2_with fail
          refine (HC2.out _).mono ?_
          rintro e w7 ⟨rfl, hb⟩
          have HB7 := Lib.hid (HB6.out.trans (hb.mono HB6.out.size))
          clear hb x0 x1 x2 x3 y0 y1 y2 y3 z0 z1 z2 z3 o0 o1 o2 o3 o4 s0
          obtain ⟨x0, x1, x2, x3, y0, y1, y2, y3, z0, z1, z2, z3, o0, o1, o2, o3, o4, s0⟩ := HSX.out _ HB7.out
          go_wp2_with fail
          refine (awake_c w7).mono ?_
          rintro e w8 ⟨rfl, hb⟩
          have HB8 := Lib.hid (HB5.out.trans ((HB7.out.trans (hb.mono HB7.out.size)).mono HB5.out.size))
          clear hb x0 x1 x2 x3 y0 y1 y2 y3 z0 z1 z2 z3 o0 o1 o2 o3 o4 s0
          go_wp2_with fail
          go_ret
          exact ⟨rfl, HB8.out⟩
        · clear HSAME
          obtain ⟨x0, x1, x2, x3, y0, y1, y2, y3, z0, z1, z2, z3, o0, o1, o2, o3, o4, s0⟩ := HSX.out _ (Below.refl _ _)
          go_wp2_with fail
          refine (HC1.out _).mono ?_
          rintro e w6 ⟨rfl, hb⟩
          have HB6 := Lib.hid hb
          clear hb x0 x1 x2 x3 y0 y1 y2 y3 z0 z1 z2 z3 o0 o1 o2 o3 o4 s0
          obtain ⟨x0, x1, x2, x3, y0, y1, y2, y3, z0, z1, z2, z3, o0, o1, o2, o3, o4, s0⟩ := HSX.out _ HB6.out
          go_wp2_with fail
          refine (HC2.out _).mono ?_
          rintro e w7 ⟨rfl, hb⟩
          have HB7 := Lib.hid (HB6.out.trans (hb.mono HB6.out.size))
          clear hb x0 x1 x2 x3 y0 y1 y2 y3 z0 z1 z2 z3 o0 o1 o2 o3 o4 s0
          obtain ⟨x0, x1, x2, x3, y0, y1, y2, y3, z0, z1, z2, z3, o0, o1, o2, o3, o4, s0⟩ := HSX.out _ HB7.out
          go_wp2_with fail
          refine (awake_c w7).mono ?_
          rintro e w8 ⟨rfl, hb⟩
          have HB8 := Lib.hid (HB5.out.trans ((HB7.out.trans (hb.mono HB7.out.size)).mono HB5.out.size))
          clear hb x0 x1 x2 x3 y0 y1 y2 y3 z0 z1 z2 z3 o0 o1 o2 o3 o4 s0
          go_wp2_with fail
          go_ret
          exact ⟨rfl, HB8.out⟩
end Go.Proofs.Yteaeccmlibmmmaa.Ar
