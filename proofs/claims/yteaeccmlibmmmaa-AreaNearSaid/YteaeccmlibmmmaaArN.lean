/- AreaNear, walked. -/
import Derived.Test.YteaeccmlibmmmaaArM
namespace Go.Proofs.Yteaeccmlibmmmaa.Ar
open Go.RowKit Go.Shelf
set_option maxHeartbeats 4000000 in
set_option maxRecDepth 100000 in
theorem near_w (v : Value) (l : List Out) (rx ry ra rb : Int) (w : World) (hR : RdK encO 5 w v l) (hn : l.length ≤ 9223372036854775807) (_h1 : ∀ (j : Nat) (t : Out), l[j]? = some t → t.n.size ≤ maxLen) :
    Calls Try.prog 8 #[v, .agg #[.int .i64 rx, .int .i64 ry, .int .i64 ra, .int .i64 rb]] w fun e w' => e = .returned (.bool true) ∧ Below w.heap.size w w' := by
  obtain ⟨r, hr⟩ : ∃ r : Rc, r = ⟨rx, ry, ra, rb⟩ := ⟨_, rfl⟩
  rw [show (Value.agg #[.int .i64 rx, .int .i64 ry, .int .i64 ra, .int .i64 rb]) = rcV r by rw [hr]]
  clear hr _h1
  have hq := Blk.new w 29 (RcC r)
  have hb0 := (Below.refl w.heap.size w).alloc (Nat.le_refl _) (.cells (RcC r) 29)
  have HN := Lib.hid (Nearest_c v l r _ (hR.below hb0) hn)
  have HNI := Lib.hid (fun h => near_is (l := l) (r := r) h)
  obtain ⟨z, hz⟩ : ∃ z, z = nearI l r := ⟨_, rfl⟩
  rw [← hz] at HN HNI
  obtain ⟨p, c, rfl, hcell⟩ := hR
  have HC := Lib.hid hcell
  obtain ⟨n, hln⟩ : ∃ n, n = l.length := ⟨_, rfl⟩
  rw [← hln] at hn HN ⊢
  have HLN := Lib.hid hln
  have HB := Lib.hid hb0
  have HQ := Lib.hid hq
  obtain ⟨⟨r0, r1, r2, r3⟩, -⟩ := hq.c4
  clear hz hb0 hq hcell hln
  by_cases hz0 : z < 0
  · rw [Int.max_eq_right (Int.le_of_lt hz0), decide_eq_false (by omega)] at HN
    clear HNI
    go_enter Try.func8, Try.ntmps8
    go_wp2_with fail
    refine HN.out.mono ?_
    rintro e w1 ⟨rfl, hb⟩
    have HB1 := Lib.hid (HB.out.trans (hb.mono HB.out.size))
    clear hb
    go_wp2_with fail
    refine (awake_c w1).mono ?_
    rintro e w2 ⟨rfl, hb⟩
    have HB2 := Lib.hid (HB1.out.trans (hb.mono HB1.out.size))
    clear hb
    go_wp2_with fail
    go_ret
    exact ⟨rfl, HB2.out⟩
  · have hz1 : 0 ≤ z := by omega
    rw [Int.max_eq_left hz1, decide_eq_true hz1] at HN
    obtain ⟨h0, hrr, hall, m, y, rfl, hy, hmax, hfst⟩ := HNI.out hz1
    have HMX := Lib.hid hmax
    have HFS := Lib.hid hfst
    obtain ⟨b, o, rfl, hb1, hb2⟩ := HC.out m y hy
    have hmn : m < n := by rw [HLN.out]; exact (List.getElem?_eq_some_iff.1 hy).1
    have hj0 : (0 : Int) ≤ (m : Int) := by omega
    have hj1 : (m : Int) < (n : Int) := by omega
    have HY := Lib.hid (show b < w.heap.size ∧ ∀ (i : Nat) (u : Value), (encO y)[i]? = some u → w.cell? ⟨b, o + m * 5 + i, none⟩ = some u from ⟨hb1, hb2⟩)
    have HI := Lib.hid (fun W => inter_c y.x y.y y.w y.h r.x r.y r.w r.h W)
    have hsh : sharedI y r = areaI (interR y.x y.y y.w y.h r.x r.y r.w r.h).x (interR y.x y.y y.w y.h r.x r.y r.w r.h).y (interR y.x y.y y.w y.h r.x r.y r.w r.h).w (interR y.x y.y y.w y.h r.x r.y r.w r.h).h := rfl
    obtain ⟨i, hi⟩ : ∃ i, i = interR y.x y.y y.w y.h r.x r.y r.w r.h := ⟨_, rfl⟩
    rw [← hi] at HI hsh
    have HAR := Lib.hid (fun W => area_c i.x i.y i.w i.h W)
    rw [← hsh] at HAR
    obtain ⟨sy, hsy⟩ : ∃ s, s = sharedI y r := ⟨_, rfl⟩
    rw [← hsy] at HAR HMX HFS
    clear h0 hrr hall hy hmax hfst hb1 hb2 hi hsh hsy HNI hz0
    go_enter Try.func8, Try.ntmps8
    go_wp2_with fail
    refine HN.out.mono ?_
    rintro e w1 ⟨rfl, hb⟩
    have HB1 := Lib.hid (HB.out.trans (hb.mono HB.out.size))
    have HQ1 := Lib.hid (HQ.out.next hb)
    clear hb r0 r1 r2 r3
    have HSS : Hid (∀ W, Below w1.heap.size w1 W → W.cell? ⟨w.heap.size, 0, none⟩ = some (.int .i64 r.x) ∧ W.cell? ⟨w.heap.size, 1, none⟩ = some (.int .i64 r.y) ∧ W.cell? ⟨w.heap.size, 2, none⟩ = some (.int .i64 r.w) ∧ W.cell? ⟨w.heap.size, 3, none⟩ = some (.int .i64 r.h) ∧ W.cell? ⟨b, o + m * 5, none⟩ = some (.string y.n) ∧ W.cell? ⟨b, o + m * 5 + 1, none⟩ = some (.int .i64 y.x) ∧ W.cell? ⟨b, o + m * 5 + 2, none⟩ = some (.int .i64 y.y) ∧ W.cell? ⟨b, o + m * 5 + 3, none⟩ = some (.int .i64 y.w) ∧ W.cell? ⟨b, o + m * 5 + 4, none⟩ = some (.int .i64 y.h)) := fun W h => by
      obtain ⟨⟨r0, r1, r2, r3⟩, -⟩ := (HQ1.out.next h).c4
      have hB := HB1.out.trans (h.mono HB1.out.size)
      obtain ⟨y0, y1, y2, y3, y4⟩ := RdK.out (w := W) (fun i u hu => (hB.cell (p := ⟨b, o + m * 5 + i, none⟩) HY.out.1).trans (HY.out.2 i u hu))
      exact ⟨r0, r1, r2, r3, y0, y1, y2, y3, y4⟩
    have HBd := Lib.hid (Below.refl w1.heap.size w1).drew
    go_upto_region 4 with fail
    refine wp_region_noPanic ?_
    refine wp_region_held_drew (S := fun wx => wx.cell? ⟨w.heap.size, 0, none⟩ = some (.int .i64 r.x) ∧ wx.cell? ⟨w.heap.size, 1, none⟩ = some (.int .i64 r.y) ∧ wx.cell? ⟨w.heap.size, 2, none⟩ = some (.int .i64 r.w) ∧ wx.cell? ⟨w.heap.size, 3, none⟩ = some (.int .i64 r.h) ∧ wx.cell? ⟨b, o + m * 5, none⟩ = some (.string y.n) ∧ wx.cell? ⟨b, o + m * 5 + 1, none⟩ = some (.int .i64 y.x) ∧ wx.cell? ⟨b, o + m * 5 + 2, none⟩ = some (.int .i64 y.y) ∧ wx.cell? ⟨b, o + m * 5 + 3, none⟩ = some (.int .i64 y.w) ∧ wx.cell? ⟨b, o + m * 5 + 4, none⟩ = some (.int .i64 y.h)) (by kernel_rfl) (by exact HSS.out _ HBd.out) (fun hHeld => ?_)
    refine wpAnyH_take (i := 0) (v := ?vm0) rfl (by kernel_rfl) (by kernel_rfl) (by kernel_rfl) (fun _ _ _ h => h) (Or.inl ⟨by kernel_rfl, ?ym0⟩) (by assumption) ?rm0
    case ym0 => (intro wq hSw; (try dsimp only at hSw); go_simp; (try with_reducible rfl))
    (try simp only [Act.put, List.getElem_toArray, List.getElem_cons_zero, List.setIfInBounds_toArray, List.set_cons_zero, List.set_cons_succ])
    refine wpAnyH_take (i := 1) (v := ?vm1) rfl (by kernel_rfl) (by kernel_rfl) (by kernel_rfl) (fun _ _ _ h => h) (Or.inl ⟨by kernel_rfl, ?ym1⟩) (by assumption) ?rm1
    case ym1 => (intro wq hSw; (try dsimp only at hSw); go_simp; (try with_reducible rfl))
    (try simp only [Act.put, List.getElem_toArray, List.getElem_cons_succ, List.getElem_cons_zero, List.setIfInBounds_toArray, List.set_cons_zero, List.set_cons_succ])
    refine wpAnyH_take (i := 2) (v := ?vm2) rfl (by kernel_rfl) (by kernel_rfl) (by kernel_rfl) (fun _ _ _ h => h) (Or.inl ⟨by kernel_rfl, ?ym2⟩) (by assumption) ?rm2
    case ym2 => (intro wq hSw; (try dsimp only at hSw); go_simp; (try with_reducible rfl))
    (try simp only [Act.put, List.getElem_toArray, List.getElem_cons_succ, List.getElem_cons_zero, List.setIfInBounds_toArray, List.set_cons_zero, List.set_cons_succ])
    refine wpAnyH_take (i := 3) (v := ?vm3) rfl (by kernel_rfl) (by kernel_rfl) (by kernel_rfl) (fun _ _ _ h => h) (Or.inl ⟨by kernel_rfl, ?ym3⟩) (by assumption) ?rm3
    case ym3 => (intro wq hSw; (try dsimp only at hSw); go_simp; (try with_reducible rfl))
    (try simp only [Act.put, List.getElem_toArray, List.getElem_cons_succ, List.getElem_cons_zero, List.setIfInBounds_toArray, List.set_cons_zero, List.set_cons_succ])
    refine wpAnyH_take (i := 4) (v := ?vm4) rfl (by kernel_rfl) (by kernel_rfl) (by kernel_rfl) (fun _ _ _ h => h) (Or.inl ⟨by kernel_rfl, ?ym4⟩) (by assumption) ?rm4
    case ym4 => (intro wq hSw; (try dsimp only at hSw); go_simp; (try with_reducible rfl))
    (try simp only [Act.put, List.getElem_toArray, List.getElem_cons_succ, List.getElem_cons_zero, List.setIfInBounds_toArray, List.set_cons_zero, List.set_cons_succ])
    refine wpAnyH_take (i := 5) (v := ?vm5) rfl (by kernel_rfl) (by kernel_rfl) (by kernel_rfl) (fun _ _ _ h => h) (Or.inl ⟨by kernel_rfl, ?ym5⟩) (by assumption) ?rm5
    case ym5 => (intro wq hSw; (try dsimp only at hSw); go_simp; (try with_reducible rfl))
    (try simp only [Act.put, List.getElem_toArray, List.getElem_cons_succ, List.getElem_cons_zero, List.setIfInBounds_toArray, List.set_cons_zero, List.set_cons_succ])
    refine wpAnyH_ready (rs := [6]) (by kernel_rfl) (by simp) ?_
    refine AllReadyH.cons rfl (fun K hK => ?_) AllReadyH.nil
    go_simp
    refine (HI.out _).mono ?_
    rintro ex v3 ⟨rfl, hb⟩; have HB3 := Lib.hid (HBd.out.trans (hb.mono HBd.out.size)); have hS3 : v3.cell? ⟨w.heap.size, 0, none⟩ = some (.int .i64 r.x) ∧ v3.cell? ⟨w.heap.size, 1, none⟩ = some (.int .i64 r.y) ∧ v3.cell? ⟨w.heap.size, 2, none⟩ = some (.int .i64 r.w) ∧ v3.cell? ⟨w.heap.size, 3, none⟩ = some (.int .i64 r.h) ∧ v3.cell? ⟨b, o + m * 5, none⟩ = some (.string y.n) ∧ v3.cell? ⟨b, o + m * 5 + 1, none⟩ = some (.int .i64 y.x) ∧ v3.cell? ⟨b, o + m * 5 + 2, none⟩ = some (.int .i64 y.y) ∧ v3.cell? ⟨b, o + m * 5 + 3, none⟩ = some (.int .i64 y.w) ∧ v3.cell? ⟨b, o + m * 5 + 4, none⟩ = some (.int .i64 y.h) := HSS.out _ HB3.out; clear hb
    (try dsimp only)
    refine hK.out _ _ (by exact hS3) (fun hHeld => ?_)
    clear hK K
    (try simp only [Act.put, List.getElem_toArray, List.getElem_cons_succ, List.getElem_cons_zero, List.setIfInBounds_toArray, List.set_cons_zero, List.set_cons_succ])
    refine wpAnyH_ready (rs := [7]) (by kernel_rfl) (by simp) ?_
    refine AllReadyH.cons rfl (fun K hK => ?_) AllReadyH.nil
    go_simp
    refine (HAR.out _).mono ?_
    rintro ex v4 ⟨rfl, hb⟩; have HB4 := Lib.hid (HB3.out.trans (hb.mono HB3.out.size)); have hS4 : v4.cell? ⟨w.heap.size, 0, none⟩ = some (.int .i64 r.x) ∧ v4.cell? ⟨w.heap.size, 1, none⟩ = some (.int .i64 r.y) ∧ v4.cell? ⟨w.heap.size, 2, none⟩ = some (.int .i64 r.w) ∧ v4.cell? ⟨w.heap.size, 3, none⟩ = some (.int .i64 r.h) ∧ v4.cell? ⟨b, o + m * 5, none⟩ = some (.string y.n) ∧ v4.cell? ⟨b, o + m * 5 + 1, none⟩ = some (.int .i64 y.x) ∧ v4.cell? ⟨b, o + m * 5 + 2, none⟩ = some (.int .i64 y.y) ∧ v4.cell? ⟨b, o + m * 5 + 3, none⟩ = some (.int .i64 y.w) ∧ v4.cell? ⟨b, o + m * 5 + 4, none⟩ = some (.int .i64 y.h) := HSS.out _ HB4.out; clear hb
    (try dsimp only)
    refine hK.out _ _ (by exact hS4) (fun hHeld => ?_)
    clear hK K
    (try simp only [Act.put, List.getElem_toArray, List.getElem_cons_succ, List.getElem_cons_zero, List.setIfInBounds_toArray, List.set_cons_zero, List.set_cons_succ])
    refine wpAnyH_take (i := 8) (v := ?vm8) rfl (by kernel_rfl) (by kernel_rfl) (by kernel_rfl) (fun _ _ _ h => h) (Or.inl ⟨by kernel_rfl, ?ym8⟩) (by assumption) ?rm8
    case ym8 => (intro wq hSw; (try dsimp only at hSw); go_simp; (try with_reducible rfl))
    (try simp only [Act.put, List.getElem_toArray, List.getElem_cons_succ, List.getElem_cons_zero, List.setIfInBounds_toArray, List.set_cons_zero, List.set_cons_succ])
    refine wpAnyH_done (by kernel_rfl) ?_ _
    refine NoPanic.normal ?_
    have HBA := Lib.hid (HB1.out.trans (HB4.out.mono HB1.out.size))
    have HQA := Lib.hid (HQ1.out.next HB4.out)
    clear hS3 hS4 hHeld HSS HBd HB3 HB4 HI HAR HN HQ
    obtain ⟨w9, hw9⟩ : ∃ w9, w9 = v4 := ⟨_, rfl⟩
    rw [← hw9] at HBA HQA ⊢
    clear hw9
    go_upto_region 6 with fail
    have hBA := HBA.out
    have hQA := HQA.out
    go_loopw [8] (fun q wr => ∃ k : Nat, k ≤ n ∧ q = .int .i64 k ∧ Below w.heap.size w wr ∧ Blk wr w.heap.size 29 (RcC r)) (fun q _ => n - (intOf q).toNat)
    case atStart => exact ⟨0, Nat.zero_le _, rfl, hBA, hQA⟩
    case round =>
      clear hBA hQA HBA HQA
      obtain ⟨k, hk, rfl, hB, hQ⟩ := hrel
      by_cases hlt : k < n
      · obtain ⟨x, hx⟩ : ∃ x, l[k]? = some x := ⟨_, List.getElem?_eq_getElem (by rw [← HLN.out]; exact hlt)⟩
        obtain ⟨b', o', e9, hb3, hb4⟩ := HC.out k x hx
        obtain ⟨rfl, rfl⟩ : b = b' ∧ o = o' := by injection e9 with e9; injection e9 with e1 e2; exact ⟨e1, e2⟩
        have hi0 : (0 : Int) ≤ (k : Int) := by omega
        have hi1 : (k : Int) < (n : Int) := by omega
        have hle := HMX.out k x hx
        have hfs := HFS.out k x hx
        have hps := shared_pos x r
        have HBB := Lib.hid hB
        have HQQ := Lib.hid hQ
        have HSS : Hid (∀ W, Below wr.heap.size wr W → W.cell? ⟨w.heap.size, 0, none⟩ = some (.int .i64 r.x) ∧ W.cell? ⟨w.heap.size, 1, none⟩ = some (.int .i64 r.y) ∧ W.cell? ⟨w.heap.size, 2, none⟩ = some (.int .i64 r.w) ∧ W.cell? ⟨w.heap.size, 3, none⟩ = some (.int .i64 r.h) ∧ W.cell? ⟨b, o + k * 5, none⟩ = some (.string x.n) ∧ W.cell? ⟨b, o + k * 5 + 1, none⟩ = some (.int .i64 x.x) ∧ W.cell? ⟨b, o + k * 5 + 2, none⟩ = some (.int .i64 x.y) ∧ W.cell? ⟨b, o + k * 5 + 3, none⟩ = some (.int .i64 x.w) ∧ W.cell? ⟨b, o + k * 5 + 4, none⟩ = some (.int .i64 x.h)) := fun W h => by
          obtain ⟨⟨r0, r1, r2, r3⟩, -⟩ := (hQ.next h).c4
          have hB2 := hB.trans (h.mono hB.size)
          obtain ⟨y0, y1, y2, y3, y4⟩ := RdK.out (w := W) (fun i u hu => (hB2.cell (p := ⟨b, o + k * 5 + i, none⟩) hb3).trans (hb4 i u hu))
          exact ⟨r0, r1, r2, r3, y0, y1, y2, y3, y4⟩
        have HBd := Lib.hid (Below.refl wr.heap.size wr).drew
        have HI := Lib.hid (fun W => inter_c x.x x.y x.w x.h r.x r.y r.w r.h W)
        have hsh : sharedI x r = areaI (interR x.x x.y x.w x.h r.x r.y r.w r.h).x (interR x.x x.y x.w x.h r.x r.y r.w r.h).y (interR x.x x.y x.w x.h r.x r.y r.w r.h).w (interR x.x x.y x.w x.h r.x r.y r.w r.h).h := rfl
        obtain ⟨i, hi⟩ : ∃ i, i = interR x.x x.y x.w x.h r.x r.y r.w r.h := ⟨_, rfl⟩
        rw [← hi] at HI hsh
        have HAR := Lib.hid (fun W => area_c i.x i.y i.w i.h W)
        rw [← hsh] at HAR
        obtain ⟨sx, hsx⟩ : ∃ s, s = sharedI x r := ⟨_, rfl⟩
        rw [← hsx] at HAR hle hfs hps
        have hd : sx < sy ∨ (sx = sy ∧ sx = 0) ∨ (sx = sy ∧ 0 < sx ∧ m ≤ k) := by
          by_cases e1 : sx = sy
          · by_cases e2 : 0 < sx
            · exact .inr (.inr ⟨e1, e2, hfs e1 e2⟩)
            · exact .inr (.inl ⟨e1, by omega⟩)
          · exact .inl (by omega)
        clear hle hfs hps hb3 hb4 hx hi hsh hsx hB hQ e9
        go_upto_region 8 with fail
        refine wp_region_noPanic ?_
        refine wp_region_held_drew (S := fun wx => wx.cell? ⟨w.heap.size, 0, none⟩ = some (.int .i64 r.x) ∧ wx.cell? ⟨w.heap.size, 1, none⟩ = some (.int .i64 r.y) ∧ wx.cell? ⟨w.heap.size, 2, none⟩ = some (.int .i64 r.w) ∧ wx.cell? ⟨w.heap.size, 3, none⟩ = some (.int .i64 r.h) ∧ wx.cell? ⟨b, o + k * 5, none⟩ = some (.string x.n) ∧ wx.cell? ⟨b, o + k * 5 + 1, none⟩ = some (.int .i64 x.x) ∧ wx.cell? ⟨b, o + k * 5 + 2, none⟩ = some (.int .i64 x.y) ∧ wx.cell? ⟨b, o + k * 5 + 3, none⟩ = some (.int .i64 x.w) ∧ wx.cell? ⟨b, o + k * 5 + 4, none⟩ = some (.int .i64 x.h)) (by kernel_rfl) (by exact HSS.out _ HBd.out) (fun hHeld => ?_)
        refine wpAnyH_take (i := 0) (v := ?vk0) rfl (by kernel_rfl) (by kernel_rfl) (by kernel_rfl) (fun _ _ _ h => h) (Or.inl ⟨by kernel_rfl, ?yk0⟩) (by assumption) ?rk0
        case yk0 => (intro wq hSw; (try dsimp only at hSw); go_simp; (try with_reducible rfl))
        (try simp only [Act.put, List.getElem_toArray, List.getElem_cons_zero, List.setIfInBounds_toArray, List.set_cons_zero, List.set_cons_succ])
        refine wpAnyH_take (i := 1) (v := ?vk1) rfl (by kernel_rfl) (by kernel_rfl) (by kernel_rfl) (fun _ _ _ h => h) (Or.inl ⟨by kernel_rfl, ?yk1⟩) (by assumption) ?rk1
        case yk1 => (intro wq hSw; (try dsimp only at hSw); go_simp; (try with_reducible rfl))
        (try simp only [Act.put, List.getElem_toArray, List.getElem_cons_succ, List.getElem_cons_zero, List.setIfInBounds_toArray, List.set_cons_zero, List.set_cons_succ])
        refine wpAnyH_take (i := 2) (v := ?vk2) rfl (by kernel_rfl) (by kernel_rfl) (by kernel_rfl) (fun _ _ _ h => h) (Or.inl ⟨by kernel_rfl, ?yk2⟩) (by assumption) ?rk2
        case yk2 => (intro wq hSw; (try dsimp only at hSw); go_simp; (try with_reducible rfl))
        (try simp only [Act.put, List.getElem_toArray, List.getElem_cons_succ, List.getElem_cons_zero, List.setIfInBounds_toArray, List.set_cons_zero, List.set_cons_succ])
        refine wpAnyH_take (i := 3) (v := ?vk3) rfl (by kernel_rfl) (by kernel_rfl) (by kernel_rfl) (fun _ _ _ h => h) (Or.inl ⟨by kernel_rfl, ?yk3⟩) (by assumption) ?rk3
        case yk3 => (intro wq hSw; (try dsimp only at hSw); go_simp; (try with_reducible rfl))
        (try simp only [Act.put, List.getElem_toArray, List.getElem_cons_succ, List.getElem_cons_zero, List.setIfInBounds_toArray, List.set_cons_zero, List.set_cons_succ])
        refine wpAnyH_take (i := 4) (v := ?vk4) rfl (by kernel_rfl) (by kernel_rfl) (by kernel_rfl) (fun _ _ _ h => h) (Or.inl ⟨by kernel_rfl, ?yk4⟩) (by assumption) ?rk4
        case yk4 => (intro wq hSw; (try dsimp only at hSw); go_simp; (try with_reducible rfl))
        (try simp only [Act.put, List.getElem_toArray, List.getElem_cons_succ, List.getElem_cons_zero, List.setIfInBounds_toArray, List.set_cons_zero, List.set_cons_succ])
        refine wpAnyH_take (i := 5) (v := ?vk5) rfl (by kernel_rfl) (by kernel_rfl) (by kernel_rfl) (fun _ _ _ h => h) (Or.inl ⟨by kernel_rfl, ?yk5⟩) (by assumption) ?rk5
        case yk5 => (intro wq hSw; (try dsimp only at hSw); go_simp; (try with_reducible rfl))
        (try simp only [Act.put, List.getElem_toArray, List.getElem_cons_succ, List.getElem_cons_zero, List.setIfInBounds_toArray, List.set_cons_zero, List.set_cons_succ])
        refine wpAnyH_ready (rs := [6]) (by kernel_rfl) (by simp) ?_
        refine AllReadyH.cons rfl (fun K hK => ?_) AllReadyH.nil
        go_simp
        refine (HI.out _).mono ?_
        rintro ex v3 ⟨rfl, hb⟩; have HB3 := Lib.hid (HBd.out.trans (hb.mono HBd.out.size)); have hS3 : v3.cell? ⟨w.heap.size, 0, none⟩ = some (.int .i64 r.x) ∧ v3.cell? ⟨w.heap.size, 1, none⟩ = some (.int .i64 r.y) ∧ v3.cell? ⟨w.heap.size, 2, none⟩ = some (.int .i64 r.w) ∧ v3.cell? ⟨w.heap.size, 3, none⟩ = some (.int .i64 r.h) ∧ v3.cell? ⟨b, o + k * 5, none⟩ = some (.string x.n) ∧ v3.cell? ⟨b, o + k * 5 + 1, none⟩ = some (.int .i64 x.x) ∧ v3.cell? ⟨b, o + k * 5 + 2, none⟩ = some (.int .i64 x.y) ∧ v3.cell? ⟨b, o + k * 5 + 3, none⟩ = some (.int .i64 x.w) ∧ v3.cell? ⟨b, o + k * 5 + 4, none⟩ = some (.int .i64 x.h) := HSS.out _ HB3.out; clear hb
        (try dsimp only)
        refine hK.out _ _ (by exact hS3) (fun hHeld => ?_)
        clear hK K
        (try simp only [Act.put, List.getElem_toArray, List.getElem_cons_succ, List.getElem_cons_zero, List.setIfInBounds_toArray, List.set_cons_zero, List.set_cons_succ])
        refine wpAnyH_ready (rs := [7]) (by kernel_rfl) (by simp) ?_
        refine AllReadyH.cons rfl (fun K hK => ?_) AllReadyH.nil
        go_simp
        refine (HAR.out _).mono ?_
        rintro ex v4 ⟨rfl, hb⟩; have HB4 := Lib.hid (HB3.out.trans (hb.mono HB3.out.size)); have hS4 : v4.cell? ⟨w.heap.size, 0, none⟩ = some (.int .i64 r.x) ∧ v4.cell? ⟨w.heap.size, 1, none⟩ = some (.int .i64 r.y) ∧ v4.cell? ⟨w.heap.size, 2, none⟩ = some (.int .i64 r.w) ∧ v4.cell? ⟨w.heap.size, 3, none⟩ = some (.int .i64 r.h) ∧ v4.cell? ⟨b, o + k * 5, none⟩ = some (.string x.n) ∧ v4.cell? ⟨b, o + k * 5 + 1, none⟩ = some (.int .i64 x.x) ∧ v4.cell? ⟨b, o + k * 5 + 2, none⟩ = some (.int .i64 x.y) ∧ v4.cell? ⟨b, o + k * 5 + 3, none⟩ = some (.int .i64 x.w) ∧ v4.cell? ⟨b, o + k * 5 + 4, none⟩ = some (.int .i64 x.h) := HSS.out _ HB4.out; clear hb
        (try dsimp only)
        refine hK.out _ _ (by exact hS4) (fun hHeld => ?_)
        clear hK K
        (try simp only [Act.put, List.getElem_toArray, List.getElem_cons_succ, List.getElem_cons_zero, List.setIfInBounds_toArray, List.set_cons_zero, List.set_cons_succ])
        refine wpAnyH_take (i := 8) (v := ?vk8) rfl (by kernel_rfl) (by kernel_rfl) (by kernel_rfl) (fun _ _ _ h => h) (Or.inl ⟨by kernel_rfl, ?yk8⟩) (by assumption) ?rk8
        case yk8 => (intro wq hSw; (try dsimp only at hSw); go_simp; (try with_reducible rfl))
        (try simp only [Act.put, List.getElem_toArray, List.getElem_cons_succ, List.getElem_cons_zero, List.setIfInBounds_toArray, List.set_cons_zero, List.set_cons_succ])
        refine wpAnyH_done (by kernel_rfl) ?_ _
        refine NoPanic.normal ?_
        have HBZ := Lib.hid (HBB.out.trans (HB4.out.mono HBB.out.size))
        have HQZ := Lib.hid (HQQ.out.next HB4.out)
        clear hS3 hS4 hHeld HSS HBd HB3 HB4 HI HAR
        rcases hd with d1 | ⟨d1, d2⟩ | ⟨d1, d2, d3⟩
        · have f1 : ¬ sy < sx := by omega
          have f2 : (sx == sy) = false := by rw [beq_eq_false_iff_ne]; omega
          go_wp2_with fail
          go_roundw
          case rel => exact ⟨k + 1, by omega, by go_num, HBZ.out, HQZ.out⟩
          case measure => simp [intOf]; omega
        · have f1 : ¬ sy < sx := by omega
          have f2 : (sx == sy) = true := by rw [beq_iff_eq]; exact d1
          have f3 : ¬ 0 < sx := by omega
          clear d1 d2
          go_wp2_with fail
          go_roundw
          case rel => exact ⟨k + 1, by omega, by go_num, HBZ.out, HQZ.out⟩
          case measure => simp [intOf]; omega
        · have f1 : ¬ sy < sx := by omega
          have f2 : (sx == sy) = true := by rw [beq_iff_eq]; exact d1
          have f4 : ¬ (k : Int) < (m : Int) := by omega
          clear d1
          go_wp2_with fail
          go_roundw
          case rel => exact ⟨k + 1, by omega, by go_num, HBZ.out, HQZ.out⟩
          case measure => simp [intOf]; omega
      · have HBB := Lib.hid hB
        clear hB hQ
        go_wp2_with fail
        refine (awake_c wr).mono ?_
        rintro e w2 ⟨rfl, hb⟩
        have HB2 := Lib.hid (HBB.out.trans (hb.mono HBB.out.size))
        clear hb
        go_wp2_with fail
        go_ret
        exact ⟨rfl, HB2.out⟩
end Go.Proofs.Yteaeccmlibmmmaa.Ar
