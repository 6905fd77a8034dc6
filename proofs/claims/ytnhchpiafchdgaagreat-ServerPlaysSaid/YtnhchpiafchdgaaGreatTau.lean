/- Texts SuB. -/
import Derived.Test.YtnhchpiafchdgaaGreatTat
import Derived.Deep.RegionHeld3
import Derived.Test.YtnhchpiafchdgaaGreatTaa
namespace Go.Proofs.YtnhchpiafchdgaaGreat
open Go.RowKit Go.Shelf Go.Maps
theorem own_zeroE {w : World} {g B : Nat} (h : Blk w g 71 #[]) (hB : B ≤ g) : w.ownsRow B 71 7 (.slice (some ⟨g, 0, none⟩) 0 0) 0 [] :=
 ⟨rfl, .inr ⟨g, 0, _, rfl, hB, h, Nat.le_refl _, by decide, rfl, rfl⟩⟩
theorem own_oneE {w : World} {g : Nat} {v : Ev} (h : Blk w g 71 #[.int .i64 v.kind, .int .i64 v.win, .int .i64 v.x, .int .i64 v.y, .int .i64 v.a, .int .i64 v.e, .string v.name]) : OwK encE 71 7 w g (.slice (some ⟨g, 0, none⟩) 1 1) [v] :=
 ⟨rfl, .inr ⟨g, 1, _, rfl, Nat.le_refl _, h, Nat.le_refl _, by decide, rfl, rfl⟩⟩
theorem flatE_one (L : List Ev) : ∀ q ∈ L.flatMap encE, q.oneCell' = true := fun q hq => by
 obtain ⟨v, _, hv⟩ := List.mem_flatMap.1 hq
 simp only [encE, List.mem_cons, List.not_mem_nil, or_false] at hv
 rcases hv with rfl | rfl | rfl | rfl | rfl | rfl | rfl <;> rfl
theorem own_at {i : Int} {k : Nat} {m : Md} {M : List Md} (hk : M[k]? = some m) (hm : m.win = i) (hj : ∀ (j : Nat) (u : Md), j < k → M[j]? = some u → u.win ≠ i) : ownM i M = m.own := by
 refine own_of ?_
 unfold findM
 rw [List.find?_eq_some_iff_getElem]
 obtain ⟨h1, h2⟩ := List.getElem?_eq_some_iff.1 hk
 exact ⟨by simp [hm], k, h1, h2, fun j hj' => by have := hj j _ hj' (List.getElem?_eq_getElem (by omega)); simp [this]⟩
theorem own_no {i : Int} {M : List Md} (hj : ∀ (j : Nat) (u : Md), j < M.length → M[j]? = some u → u.win ≠ i) : ownM i M = -1 :=
 own_none fun ⟨m, hm, e⟩ => by
  obtain ⟨j, h⟩ := List.getElem?_of_mem hm
  exact hj j m (List.getElem?_eq_some_iff.1 h).1 h e
theorem Blk.at11 {w : World} {g : Nat} {t : TypeId} {v0 v1 v2 v3 v4 v5 v6 v7 v8 v9 v10 : Value} (h : Blk w g t #[v0, v1, v2, v3, v4, v5, v6, v7, v8, v9, v10]) :
  w.cell? ⟨g, 0, none⟩ = some v0 ∧ w.cell? ⟨g, 1, none⟩ = some v1 ∧ w.cell? ⟨g, 2, none⟩ = some v2 ∧ w.cell? ⟨g, 3, none⟩ = some v3 ∧ w.cell? ⟨g, 4, none⟩ = some v4 ∧ w.cell? ⟨g, 5, none⟩ = some v5 ∧ w.cell? ⟨g, 6, none⟩ = some v6 ∧ w.cell? ⟨g, 7, none⟩ = some v7 ∧ w.cell? ⟨g, 8, none⟩ = some v8 ∧ w.cell? ⟨g, 9, none⟩ = some v9 ∧ w.cell? ⟨g, 10, none⟩ = some v10 :=
 ⟨h.at_ (i := 0) rfl, h.at_ (i := 1) rfl, h.at_ (i := 2) rfl, h.at_ (i := 3) rfl, h.at_ (i := 4) rfl, h.at_ (i := 5) rfl, h.at_ (i := 6) rfl, h.at_ (i := 7) rfl, h.at_ (i := 8) rfl, h.at_ (i := 9) rfl, h.at_ (i := 10) rfl⟩
abbrev refP (r : Nat) : Value := .pointer (some ⟨r, 0, none⟩)
section
variable {w w' : World} {r : Nat} {Z : Zl} {X : Xs} {k : Nat}
set_option maxRecDepth 100000 in
set_option maxHeartbeats 4000000 in
theorem rowner_c (h : Ref w r Z X) (hM : X.M.length ≤ 1048576) (i : Int) : Calls Tryz.prog 22 #[refP r, .int .i64 i] w fun e w' => e = .returned (.int .i64 (ownM i X.M)) ∧ w = w' := by
 obtain ⟨-, -, -, -, -, -, -, b7, -, -, -⟩ := h.blk.at11
 obtain ⟨p, c, hmv, hc⟩ := OwK.reads encM_len h.m
 rw [hmv] at b7
 have HC := Lib.hid hc
 obtain ⟨n, hn⟩ : ∃ n, n = X.M.length := ⟨_, rfl⟩
 rw [← hn] at b7 hM
 have HN := Lib.hid hn
 clear hc hn hmv h
 go_enter Tryz.func22, Tryz.ntmps22
 go_wp2_with fail
 go_loopw [5] (fun z wr => ∃ k : Nat, k ≤ n ∧ z = .int .i64 k ∧ wr = w ∧ Asd (∀ (j : Nat) (u : Md), j < k → X.M[j]? = some u → u.win ≠ i)) (fun z _ => n - (intOf z).toNat)
 case atStart => exact ⟨0, Nat.zero_le _, rfl, rfl, fun j u hj => absurd hj (Nat.not_lt_zero _)⟩
 case round =>
  obtain ⟨k, hk, rfl, rfl, hA⟩ := hrel
  have HA := Lib.hid (show ∀ (j : Nat) (u : Md), j < k → X.M[j]? = some u → u.win ≠ i from hA)
  clear hA
  have hi0 : (0 : Int) ≤ (k : Int) := by omega
  by_cases hlt : k < n
  · obtain ⟨v, hv⟩ : ∃ v, X.M[k]? = some v := ⟨_, List.getElem?_eq_getElem (by rw [← HN.out]; exact hlt)⟩
    obtain ⟨b, o, rfl, -, hb2⟩ := HC.out k v hv
    have r0 := hb2 0 _ rfl
    have r1 := hb2 1 _ rfl
    simp only [Nat.add_zero] at r0
    have HV := Lib.hid hv
    clear hb2 hv
    have hi1 : (k : Int) < (n : Int) := by omega
    by_cases hvi : v.win = i
    · have h1 : (v.win == i) = true := by simpa using hvi
      have HP := Lib.hid (own_at HV.out hvi HA.out)
      clear hvi
      go_wp2_with fail
      go_ret
      exact ⟨by rw [HP.out]; rfl, rfl⟩
    · have h1 : (v.win == i) = false := by simpa using hvi
      have HVI := Lib.hid hvi
      clear hvi
      go_wp2_with fail
      go_roundw
      case rel => exact ⟨k + 1, by omega, by go_num, by first | trivial | rfl, fun j u hj hu => by
       rcases Nat.lt_or_ge j k with h | h
       · exact HA.out j u h hu
       · obtain rfl : j = k := by omega
         rw [HV.out] at hu; injection hu with hu; subst hu; exact HVI.out⟩
      case measure => simp [intOf]; omega
  · have HP := Lib.hid (show ownM i X.M = -1 from own_no fun j u hj hu => HA.out j u (by have := HN.out; omega) hu)
    go_wp2_with fail
    go_ret
    exact ⟨by rw [HP.out]; rfl, rfl⟩
set_option maxRecDepth 100000 in
set_option maxHeartbeats 8000000 in
theorem rtell_c (h : Ref w r Z X) (hE : X.E.length ≤ 4096) (e : Ev) : Calls Tryz.prog 88 #[refP r, evV e] w fun ex w' => ex = .returned (.tuple #[]) ∧ RefTo w r Z (X.tell e) w' := by
 obtain ⟨wb, hwb⟩ : ∃ wb, wb = w.alloc (.cells #[.int .i64 e.kind, .int .i64 e.win, .int .i64 e.x, .int .i64 e.y, .int .i64 e.a, .int .i64 e.e, .string e.name] 71) := ⟨_, rfl⟩
 have hbel : Below w.heap.size w wb := by rw [hwb]; exact (Below.refl _ _).alloc (Nat.le_refl _) _
 have hbx : Blk wb w.heap.size 71 #[.int .i64 e.kind, .int .i64 e.win, .int .i64 e.x, .int .i64 e.y, .int .i64 e.a, .int .i64 e.e, .string e.name] := by rw [hwb]; exact Blk.new w _ _
 have hs := h.next hbel
 obtain ⟨-, -, -, -, -, -, -, -, -, b9, b10⟩ := hs.blk.at11
 obtain ⟨⟨x0, x1, x2, x3, x4, x5, x6⟩, -⟩ := hbx.c7
 obtain ⟨p, c, hev⟩ := h.e.slice
 have HW := Lib.hid hwb
 have HB := Lib.hid hbel
 obtain ⟨n, hn⟩ : ∃ n, n = X.E.length := ⟨_, rfl⟩
 rw [hev, ← hn] at b10
 rw [← hn] at hE
 by_cases hG : X.G = true
 · rw [hG] at b9
   by_cases hl : n < 4096
   · have HX := Lib.hid (show X.tell e = { X with E := X.E ++ [e] } by unfold Xs.tell; rw [if_pos ⟨hG, by rw [← hn]; exact hl⟩])
     obtain ⟨i0, hi0, hz0, hz1, hz2⟩ := info_parts evInfo
     have hl1 : (n : Int) < 4096 := by omega
     have HRF := Lib.hid hs
     have HLN := Lib.hid (show X.E.length < 4096 by omega)
     have HFF := Lib.hid (fun W (hW : Below wb.heap.size wb W) => (show OwK encE 71 7 W 0 (.slice p n c) X.E from by
       have := (hs.next hW).e
       rwa [hev, ← hn] at this))
     have HFR := Lib.hid (fun W (hW : Below wb.heap.size wb W) => (show W.cell? ⟨r, 10, none⟩ = some (.slice p n c) ∧ W.frozen? ⟨r, 10, none⟩ = false from
       ⟨by have := (hs.next hW).blk.at_ (i := 10) (v := Z.ev) rfl; rwa [hev, ← hn] at this, (hs.next hW).blk.frozen 10⟩))
     have HSS := Lib.hid (fun W (hW : Below wb.heap.size wb W) => (show W.cell? ⟨w.heap.size, 0, none⟩ = some (.int .i64 e.kind) ∧ W.cell? ⟨w.heap.size, 1, none⟩ = some (.int .i64 e.win) ∧ W.cell? ⟨w.heap.size, 2, none⟩ = some (.int .i64 e.x) ∧ W.cell? ⟨w.heap.size, 3, none⟩ = some (.int .i64 e.y) ∧ W.cell? ⟨w.heap.size, 4, none⟩ = some (.int .i64 e.a) ∧ W.cell? ⟨w.heap.size, 5, none⟩ = some (.int .i64 e.e) ∧ W.cell? ⟨w.heap.size, 6, none⟩ = some (.string e.name) from
       (hbx.next hW).c7.1))
     have hrb : w.heap.size ≠ r := fun e => by have := h.blk.lt; omega
     have HST := Lib.hid (fun W (hW : Below wb.heap.size wb W) (v : Value) => (show (W.setCell ⟨r, 10, none⟩ v).cell? ⟨w.heap.size, 0, none⟩ = some (.int .i64 e.kind) ∧ (W.setCell ⟨r, 10, none⟩ v).cell? ⟨w.heap.size, 1, none⟩ = some (.int .i64 e.win) ∧ (W.setCell ⟨r, 10, none⟩ v).cell? ⟨w.heap.size, 2, none⟩ = some (.int .i64 e.x) ∧ (W.setCell ⟨r, 10, none⟩ v).cell? ⟨w.heap.size, 3, none⟩ = some (.int .i64 e.y) ∧ (W.setCell ⟨r, 10, none⟩ v).cell? ⟨w.heap.size, 4, none⟩ = some (.int .i64 e.a) ∧ (W.setCell ⟨r, 10, none⟩ v).cell? ⟨w.heap.size, 5, none⟩ = some (.int .i64 e.e) ∧ (W.setCell ⟨r, 10, none⟩ v).cell? ⟨w.heap.size, 6, none⟩ = some (.string e.name) from
       ((hbx.next hW).far hrb v).c7.1))
     clear hrb
     clear h hs hbel hbx hn hev hl hG
     go_enter Tryz.func88, Tryz.ntmps88
     go_upto_region 1 with fail
     rw [← HW.out]
     clear hwb
     go_upto_region 2 with fail
     refine wp_region_noPanic ?_
     refine wp_region_held_drew (S := fun wx => wx.cell? ⟨w.heap.size, 0, none⟩ = some (.int .i64 e.kind) ∧ wx.cell? ⟨w.heap.size, 1, none⟩ = some (.int .i64 e.win) ∧ wx.cell? ⟨w.heap.size, 2, none⟩ = some (.int .i64 e.x) ∧ wx.cell? ⟨w.heap.size, 3, none⟩ = some (.int .i64 e.y) ∧ wx.cell? ⟨w.heap.size, 4, none⟩ = some (.int .i64 e.a) ∧ wx.cell? ⟨w.heap.size, 5, none⟩ = some (.int .i64 e.e) ∧ wx.cell? ⟨w.heap.size, 6, none⟩ = some (.string e.name)) (by kernel_rfl) (by exact HSS.out _ (Below.refl wb.heap.size wb).drew) (fun hHeld => ?_)
     refine tk 0 ?va0 rfl ?ya0 ?ra0
     case ya0 => (intro q h; (try dsimp only at h); go_simp; (try with_reducible rfl))
     (try simp only [Act.put, p1, p3, p4, p5, p6])
     refine tk 2 ?va2 rfl ?ya2 ?ra2
     case ya2 => (intro q h; (try dsimp only at h); go_simp; (try with_reducible rfl))
     (try simp only [Act.put, p1, p2, p3, p4, p5, p6])
     refine tk 3 ?va3 rfl ?ya3 ?ra3
     case ya3 => (intro q h; (try dsimp only at h); go_simp; (try with_reducible rfl))
     (try simp only [Act.put, p1, p2, p3, p4, p5, p6])
     refine tk 4 ?va4 rfl ?ya4 ?ra4
     case ya4 => (intro q h; (try dsimp only at h); go_simp; (try with_reducible rfl))
     (try simp only [Act.put, p1, p2, p3, p4, p5, p6])
     refine tk 7 ?va7 rfl ?ya7 ?ra7
     case ya7 => (intro q h; (try dsimp only at h); go_simp; (try with_reducible rfl))
     (try simp only [Act.put, p1, p2, p3, p4, p5, p6])
     refine wpAnyH_ready (rs := [1, 5, 8]) (by kernel_rfl) (by simp) ?_
     refine AllReadyH.cons rfl (fun K hK => ?_) (AllReadyH.cons rfl (fun K hK => ?_) (AllReadyH.cons rfl (fun K hK => ?_) AllReadyH.nil))
     · go_simp
       have b1 := (Below.refl wb.heap.size wb).alloc (Below.refl wb.heap.size wb).size (.cells #[] 71)
       have z2 := own_zeroE (Blk.new (wb) 71 #[]) (Below.refl wb.heap.size wb).size
       refine hK.out _ _ (by exact HSS.out _ b1.drew) (fun hHeld => ?_)
       clear hK K
       (try simp only [Act.put, p1, p2, p3, p4, p5, p6])
       refine wpAnyH_ready (rs := [5, 8]) (by kernel_rfl) (by simp) ?_
       refine AllReadyH.cons rfl (fun K hK => ?_) (AllReadyH.cons rfl (fun K hK => ?_) AllReadyH.nil)
       · obtain ⟨q5, -⟩ := HFR.out _ (b1).drew
         go_simp
         refine hK.out _ _ (by exact HSS.out _ (b1).drew) (fun hHeld => ?_)
         clear hK K
         (try simp only [Act.put, p1, p2, p3, p4, p5, p6])
         refine wpAnyH_ready (rs := [6, 8]) (by kernel_rfl) (by simp) ?_
         refine AllReadyH.cons rfl (fun K hK => ?_) (AllReadyH.cons rfl (fun K hK => ?_) AllReadyH.nil)
         · refine step_app rfl (.tmp 17) (.tmp 21) 57 rfl wb.heap.size 71 i0 (.agg #[.int .i64 0, .int .i64 0, .int .i64 0, .int .i64 0, .int .i64 0, .int .i64 0, .string ByteArray.empty]) 7 64 Tryz.underlying57 hi0 hz0 hz1 hz2 rfl (by decide) _ _ _ (by rfl) (World.ownsRow.drew z2) _ _ _ _ (by rfl) (HFF.out _ (b1).drew) (flatE_one _) (by unfold maxLen; have := HLN.out; simp; omega) (by have := HLN.out; simp; omega) (b1).drew.size ?_
           intro v5 w3 ho5 hg5
           have v5 : OwK encE 71 7 w3 wb.heap.size v5 X.E := by have h := ho5; rw [Nat.zero_add, List.nil_append] at h; exact h
           have b4 := below_only (b1).drew hg5 (b1).drew.size (fun k hk => (World.ownsRow.lt (World.ownsRow.drew z2) k hk).1)
           refine hK.out _ _ (by exact HSS.out _ b4) (fun hHeld => ?_)
           clear hK K
           (try simp only [Act.put, p1, p2, p3, p4, p5, p6])
           refine wpAnyH_ready (rs := [8]) (by kernel_rfl) (by simp) ?_
           refine AllReadyH.cons rfl (fun K hK => ?_) AllReadyH.nil
           go_simp
           have b6 := (b4).alloc (b4).size (.cells #[.int .i64 e.kind, .int .i64 e.win, .int .i64 e.x, .int .i64 e.y, .int .i64 e.a, .int .i64 e.e, .string e.name] 71)
           have o7 := own_oneE (v := e) (Blk.new (w3) 71 #[.int .i64 e.kind, .int .i64 e.win, .int .i64 e.x, .int .i64 e.y, .int .i64 e.a, .int .i64 e.e, .string e.name])
           have v8 := World.ownsRow.alloc v5 (.cells #[.int .i64 e.kind, .int .i64 e.win, .int .i64 e.x, .int .i64 e.y, .int .i64 e.a, .int .i64 e.e, .string e.name] 71)
           refine hK.out _ _ (by exact HSS.out _ b6) (fun hHeld => ?_)
           clear hK K
           (try simp only [Act.put, p1, p2, p3, p4, p5, p6])
           refine wpAnyH_ready (rs := [9]) (by kernel_rfl) (by simp) ?_
           refine AllReadyH.cons rfl (fun K hK => ?_) AllReadyH.nil
           refine step_app rfl (.tmp 22) (.tmp 24) 57 rfl wb.heap.size 71 i0 (.agg #[.int .i64 0, .int .i64 0, .int .i64 0, .int .i64 0, .int .i64 0, .int .i64 0, .string ByteArray.empty]) 7 64 Tryz.underlying57 hi0 hz0 hz1 hz2 rfl (by decide) _ _ _ (by rfl) v8 _ _ _ _ (by rfl) o7 (flatE_one _) (by unfold maxLen; have := HLN.out; simp; omega) (by have := HLN.out; simp; omega) (b6).size ?_
           intro v7 w7 ho7 hg7
           have of7 : OwK encE 71 7 w7 wb.heap.size v7 (X.E ++ [e]) := by unfold OwK; rw [List.length_append, List.flatMap_append]; exact ho7
           obtain ⟨p7, c7, e7⟩ := of7.slice
           subst e7
           have b7 := below_only (b6) hg7 (b6).size (fun k hk => (World.ownsRow.lt v8 k hk).1)
           have B7 := Lib.hid b7
           obtain ⟨q0, q1⟩ := HFR.out w7 b7
           have HPUT := Lib.hid (HRF.out.putE b7 (OwK.less of7 (Nat.zero_le _)) (fun b hb => .inr (OwK.lt of7 hb).1))
           refine hK.out _ _ (by exact HSS.out _ b7) (fun hHeld => ?_)
           clear hK K
           (try simp only [Act.put, p1, p2, p3, p4, p5, p6])
           clear b7 ho7 hg7 of7
           refine tk 10 ?vt910 rfl ?yt910 ?rt910
           case yt910 => (intro q h; (try dsimp only at h); go_simp; (try with_reducible rfl))
           (try simp only [Act.put, p1, p2, p3, p4, p5, p6])
           refine tk 11 ?vt911 rfl ?yt911 ?rt911
           case yt911 => (intro q h; (try dsimp only at h); go_simp; (try with_reducible rfl))
           (try simp only [Act.put, p1, p2, p3, p4, p5, p6])
           refine wpAnyH_ready (rs := [12]) (by kernel_rfl) (by simp) ?_
           refine AllReadyH.cons rfl (fun K hK => ?_) AllReadyH.nil
           go_simp
           refine hK.out _ _ (by exact HST.out _ B7.out _) (fun hHeld => ?_)
           clear hK K
           (try simp only [Act.put, p1, p2, p3, p4, p5, p6])
           refine wpAnyH_done (by kernel_rfl) ?_ _
           refine NoPanic.normal ?_
           go_wp2_with fail
           go_end0
           exact ⟨rfl, by rw [HX.out]; have hq := RefTo.after HB.out HPUT.out; simp only [List.length_append, List.length_cons, List.length_nil, Nat.zero_add] at hq; exact hq⟩
         · go_simp
           have b10 := (b1).alloc (b1).size (.cells #[.int .i64 e.kind, .int .i64 e.win, .int .i64 e.x, .int .i64 e.y, .int .i64 e.a, .int .i64 e.e, .string e.name] 71)
           have o11 := own_oneE (v := e) (Blk.new ((wb).alloc (.cells #[] 71)) 71 #[.int .i64 e.kind, .int .i64 e.win, .int .i64 e.x, .int .i64 e.y, .int .i64 e.a, .int .i64 e.e, .string e.name])
           simp only [World.size_alloc] at o11
           have z12 := World.ownsRow.alloc z2 (.cells #[.int .i64 e.kind, .int .i64 e.win, .int .i64 e.x, .int .i64 e.y, .int .i64 e.a, .int .i64 e.e, .string e.name] 71)
           refine hK.out _ _ (by exact HSS.out _ b10.drew) (fun hHeld => ?_)
           clear hK K
           (try simp only [Act.put, p1, p2, p3, p4, p5, p6])
           refine wpAnyH_ready (rs := [6]) (by kernel_rfl) (by simp) ?_
           refine AllReadyH.cons rfl (fun K hK => ?_) AllReadyH.nil
           refine step_app rfl (.tmp 17) (.tmp 21) 57 rfl wb.heap.size 71 i0 (.agg #[.int .i64 0, .int .i64 0, .int .i64 0, .int .i64 0, .int .i64 0, .int .i64 0, .string ByteArray.empty]) 7 64 Tryz.underlying57 hi0 hz0 hz1 hz2 rfl (by decide) _ _ _ (by rfl) (World.ownsRow.drew z12) _ _ _ _ (by rfl) (HFF.out _ (b10).drew) (flatE_one _) (by unfold maxLen; have := HLN.out; simp; omega) (by have := HLN.out; simp; omega) (b10).drew.size ?_
           intro v5 w13 ho5 hg5
           have v15 : OwK encE 71 7 w13 wb.heap.size v5 X.E := by have h := ho5; rw [Nat.zero_add, List.nil_append] at h; exact h
           have b14 := below_only (b10).drew hg5 (b10).drew.size (fun k hk => (World.ownsRow.lt (World.ownsRow.drew z12) k hk).1)
           have o16 := OwK.grown (World.ownsRow.drew o11) hg5 (.inr (by simp [Value.ownBlock]))
           refine hK.out _ _ (by exact HSS.out _ b14) (fun hHeld => ?_)
           clear hK K
           (try simp only [Act.put, p1, p2, p3, p4, p5, p6])
           refine wpAnyH_ready (rs := [9]) (by kernel_rfl) (by simp) ?_
           refine AllReadyH.cons rfl (fun K hK => ?_) AllReadyH.nil
           refine step_app rfl (.tmp 22) (.tmp 24) 57 rfl wb.heap.size 71 i0 (.agg #[.int .i64 0, .int .i64 0, .int .i64 0, .int .i64 0, .int .i64 0, .int .i64 0, .string ByteArray.empty]) 7 64 Tryz.underlying57 hi0 hz0 hz1 hz2 rfl (by decide) _ _ _ (by rfl) v15 _ _ _ _ (by rfl) o16 (flatE_one _) (by unfold maxLen; have := HLN.out; simp; omega) (by have := HLN.out; simp; omega) (b14).size ?_
           intro v7 w7 ho7 hg7
           have of7 : OwK encE 71 7 w7 wb.heap.size v7 (X.E ++ [e]) := by unfold OwK; rw [List.length_append, List.flatMap_append]; exact ho7
           obtain ⟨p7, c7, e7⟩ := of7.slice
           subst e7
           have b7 := below_only (b14) hg7 (b14).size (fun k hk => (World.ownsRow.lt v15 k hk).1)
           have B7 := Lib.hid b7
           obtain ⟨q0, q1⟩ := HFR.out w7 b7
           have HPUT := Lib.hid (HRF.out.putE b7 (OwK.less of7 (Nat.zero_le _)) (fun b hb => .inr (OwK.lt of7 hb).1))
           refine hK.out _ _ (by exact HSS.out _ b7) (fun hHeld => ?_)
           clear hK K
           (try simp only [Act.put, p1, p2, p3, p4, p5, p6])
           clear b7 ho7 hg7 of7
           refine tk 10 ?vt1710 rfl ?yt1710 ?rt1710
           case yt1710 => (intro q h; (try dsimp only at h); go_simp; (try with_reducible rfl))
           (try simp only [Act.put, p1, p2, p3, p4, p5, p6])
           refine tk 11 ?vt1711 rfl ?yt1711 ?rt1711
           case yt1711 => (intro q h; (try dsimp only at h); go_simp; (try with_reducible rfl))
           (try simp only [Act.put, p1, p2, p3, p4, p5, p6])
           refine wpAnyH_ready (rs := [12]) (by kernel_rfl) (by simp) ?_
           refine AllReadyH.cons rfl (fun K hK => ?_) AllReadyH.nil
           go_simp
           refine hK.out _ _ (by exact HST.out _ B7.out _) (fun hHeld => ?_)
           clear hK K
           (try simp only [Act.put, p1, p2, p3, p4, p5, p6])
           refine wpAnyH_done (by kernel_rfl) ?_ _
           refine NoPanic.normal ?_
           go_wp2_with fail
           go_end0
           exact ⟨rfl, by rw [HX.out]; have hq := RefTo.after HB.out HPUT.out; simp only [List.length_append, List.length_cons, List.length_nil, Nat.zero_add] at hq; exact hq⟩
       · go_simp
         have b18 := (b1).alloc (b1).size (.cells #[.int .i64 e.kind, .int .i64 e.win, .int .i64 e.x, .int .i64 e.y, .int .i64 e.a, .int .i64 e.e, .string e.name] 71)
         have o19 := own_oneE (v := e) (Blk.new ((wb).alloc (.cells #[] 71)) 71 #[.int .i64 e.kind, .int .i64 e.win, .int .i64 e.x, .int .i64 e.y, .int .i64 e.a, .int .i64 e.e, .string e.name])
         simp only [World.size_alloc] at o19
         have z20 := World.ownsRow.alloc z2 (.cells #[.int .i64 e.kind, .int .i64 e.win, .int .i64 e.x, .int .i64 e.y, .int .i64 e.a, .int .i64 e.e, .string e.name] 71)
         refine hK.out _ _ (by exact HSS.out _ b18.drew) (fun hHeld => ?_)
         clear hK K
         (try simp only [Act.put, p1, p2, p3, p4, p5, p6])
         refine wpAnyH_ready (rs := [5]) (by kernel_rfl) (by simp) ?_
         refine AllReadyH.cons rfl (fun K hK => ?_) AllReadyH.nil
         obtain ⟨q5, -⟩ := HFR.out _ (b18).drew
         go_simp
         refine hK.out _ _ (by exact HSS.out _ (b18).drew) (fun hHeld => ?_)
         clear hK K
         (try simp only [Act.put, p1, p2, p3, p4, p5, p6])
         refine wpAnyH_ready (rs := [6]) (by kernel_rfl) (by simp) ?_
         refine AllReadyH.cons rfl (fun K hK => ?_) AllReadyH.nil
         refine step_app rfl (.tmp 17) (.tmp 21) 57 rfl wb.heap.size 71 i0 (.agg #[.int .i64 0, .int .i64 0, .int .i64 0, .int .i64 0, .int .i64 0, .int .i64 0, .string ByteArray.empty]) 7 64 Tryz.underlying57 hi0 hz0 hz1 hz2 rfl (by decide) _ _ _ (by rfl) (World.ownsRow.drew z20) _ _ _ _ (by rfl) (HFF.out _ (b18).drew) (flatE_one _) (by unfold maxLen; have := HLN.out; simp; omega) (by have := HLN.out; simp; omega) (b18).drew.size ?_
         intro v5 w21 ho5 hg5
         have v23 : OwK encE 71 7 w21 wb.heap.size v5 X.E := by have h := ho5; rw [Nat.zero_add, List.nil_append] at h; exact h
         have b22 := below_only (b18).drew hg5 (b18).drew.size (fun k hk => (World.ownsRow.lt (World.ownsRow.drew z20) k hk).1)
         have o24 := OwK.grown (World.ownsRow.drew o19) hg5 (.inr (by simp [Value.ownBlock]))
         refine hK.out _ _ (by exact HSS.out _ b22) (fun hHeld => ?_)
         clear hK K
         (try simp only [Act.put, p1, p2, p3, p4, p5, p6])
         refine wpAnyH_ready (rs := [9]) (by kernel_rfl) (by simp) ?_
         refine AllReadyH.cons rfl (fun K hK => ?_) AllReadyH.nil
         refine step_app rfl (.tmp 22) (.tmp 24) 57 rfl wb.heap.size 71 i0 (.agg #[.int .i64 0, .int .i64 0, .int .i64 0, .int .i64 0, .int .i64 0, .int .i64 0, .string ByteArray.empty]) 7 64 Tryz.underlying57 hi0 hz0 hz1 hz2 rfl (by decide) _ _ _ (by rfl) v23 _ _ _ _ (by rfl) o24 (flatE_one _) (by unfold maxLen; have := HLN.out; simp; omega) (by have := HLN.out; simp; omega) (b22).size ?_
         intro v7 w7 ho7 hg7
         have of7 : OwK encE 71 7 w7 wb.heap.size v7 (X.E ++ [e]) := by unfold OwK; rw [List.length_append, List.flatMap_append]; exact ho7
         obtain ⟨p7, c7, e7⟩ := of7.slice
         subst e7
         have b7 := below_only (b22) hg7 (b22).size (fun k hk => (World.ownsRow.lt v23 k hk).1)
         have B7 := Lib.hid b7
         obtain ⟨q0, q1⟩ := HFR.out w7 b7
         have HPUT := Lib.hid (HRF.out.putE b7 (OwK.less of7 (Nat.zero_le _)) (fun b hb => .inr (OwK.lt of7 hb).1))
         refine hK.out _ _ (by exact HSS.out _ b7) (fun hHeld => ?_)
         clear hK K
         (try simp only [Act.put, p1, p2, p3, p4, p5, p6])
         clear b7 ho7 hg7 of7
         refine tk 10 ?vt2510 rfl ?yt2510 ?rt2510
         case yt2510 => (intro q h; (try dsimp only at h); go_simp; (try with_reducible rfl))
         (try simp only [Act.put, p1, p2, p3, p4, p5, p6])
         refine tk 11 ?vt2511 rfl ?yt2511 ?rt2511
         case yt2511 => (intro q h; (try dsimp only at h); go_simp; (try with_reducible rfl))
         (try simp only [Act.put, p1, p2, p3, p4, p5, p6])
         refine wpAnyH_ready (rs := [12]) (by kernel_rfl) (by simp) ?_
         refine AllReadyH.cons rfl (fun K hK => ?_) AllReadyH.nil
         go_simp
         refine hK.out _ _ (by exact HST.out _ B7.out _) (fun hHeld => ?_)
         clear hK K
         (try simp only [Act.put, p1, p2, p3, p4, p5, p6])
         refine wpAnyH_done (by kernel_rfl) ?_ _
         refine NoPanic.normal ?_
         go_wp2_with fail
         go_end0
         exact ⟨rfl, by rw [HX.out]; have hq := RefTo.after HB.out HPUT.out; simp only [List.length_append, List.length_cons, List.length_nil, Nat.zero_add] at hq; exact hq⟩
     · obtain ⟨q5, -⟩ := HFR.out _ (Below.refl wb.heap.size wb).drew
       go_simp
       refine hK.out _ _ (by exact HSS.out _ (Below.refl wb.heap.size wb).drew) (fun hHeld => ?_)
       clear hK K
       (try simp only [Act.put, p1, p2, p3, p4, p5, p6])
       refine wpAnyH_ready (rs := [1, 8]) (by kernel_rfl) (by simp) ?_
       refine AllReadyH.cons rfl (fun K hK => ?_) (AllReadyH.cons rfl (fun K hK => ?_) AllReadyH.nil)
       · go_simp
         have b26 := (Below.refl wb.heap.size wb).alloc (Below.refl wb.heap.size wb).size (.cells #[] 71)
         have z27 := own_zeroE (Blk.new (wb) 71 #[]) (Below.refl wb.heap.size wb).size
         refine hK.out _ _ (by exact HSS.out _ b26.drew) (fun hHeld => ?_)
         clear hK K
         (try simp only [Act.put, p1, p2, p3, p4, p5, p6])
         refine wpAnyH_ready (rs := [6, 8]) (by kernel_rfl) (by simp) ?_
         refine AllReadyH.cons rfl (fun K hK => ?_) (AllReadyH.cons rfl (fun K hK => ?_) AllReadyH.nil)
         · refine step_app rfl (.tmp 17) (.tmp 21) 57 rfl wb.heap.size 71 i0 (.agg #[.int .i64 0, .int .i64 0, .int .i64 0, .int .i64 0, .int .i64 0, .int .i64 0, .string ByteArray.empty]) 7 64 Tryz.underlying57 hi0 hz0 hz1 hz2 rfl (by decide) _ _ _ (by rfl) (World.ownsRow.drew z27) _ _ _ _ (by rfl) (HFF.out _ (b26).drew) (flatE_one _) (by unfold maxLen; have := HLN.out; simp; omega) (by have := HLN.out; simp; omega) (b26).drew.size ?_
           intro v5 w28 ho5 hg5
           have v30 : OwK encE 71 7 w28 wb.heap.size v5 X.E := by have h := ho5; rw [Nat.zero_add, List.nil_append] at h; exact h
           have b29 := below_only (b26).drew hg5 (b26).drew.size (fun k hk => (World.ownsRow.lt (World.ownsRow.drew z27) k hk).1)
           refine hK.out _ _ (by exact HSS.out _ b29) (fun hHeld => ?_)
           clear hK K
           (try simp only [Act.put, p1, p2, p3, p4, p5, p6])
           refine wpAnyH_ready (rs := [8]) (by kernel_rfl) (by simp) ?_
           refine AllReadyH.cons rfl (fun K hK => ?_) AllReadyH.nil
           go_simp
           have b31 := (b29).alloc (b29).size (.cells #[.int .i64 e.kind, .int .i64 e.win, .int .i64 e.x, .int .i64 e.y, .int .i64 e.a, .int .i64 e.e, .string e.name] 71)
           have o32 := own_oneE (v := e) (Blk.new (w28) 71 #[.int .i64 e.kind, .int .i64 e.win, .int .i64 e.x, .int .i64 e.y, .int .i64 e.a, .int .i64 e.e, .string e.name])
           have v33 := World.ownsRow.alloc v30 (.cells #[.int .i64 e.kind, .int .i64 e.win, .int .i64 e.x, .int .i64 e.y, .int .i64 e.a, .int .i64 e.e, .string e.name] 71)
           refine hK.out _ _ (by exact HSS.out _ b31) (fun hHeld => ?_)
           clear hK K
           (try simp only [Act.put, p1, p2, p3, p4, p5, p6])
           refine wpAnyH_ready (rs := [9]) (by kernel_rfl) (by simp) ?_
           refine AllReadyH.cons rfl (fun K hK => ?_) AllReadyH.nil
           refine step_app rfl (.tmp 22) (.tmp 24) 57 rfl wb.heap.size 71 i0 (.agg #[.int .i64 0, .int .i64 0, .int .i64 0, .int .i64 0, .int .i64 0, .int .i64 0, .string ByteArray.empty]) 7 64 Tryz.underlying57 hi0 hz0 hz1 hz2 rfl (by decide) _ _ _ (by rfl) v33 _ _ _ _ (by rfl) o32 (flatE_one _) (by unfold maxLen; have := HLN.out; simp; omega) (by have := HLN.out; simp; omega) (b31).size ?_
           intro v7 w7 ho7 hg7
           have of7 : OwK encE 71 7 w7 wb.heap.size v7 (X.E ++ [e]) := by unfold OwK; rw [List.length_append, List.flatMap_append]; exact ho7
           obtain ⟨p7, c7, e7⟩ := of7.slice
           subst e7
           have b7 := below_only (b31) hg7 (b31).size (fun k hk => (World.ownsRow.lt v33 k hk).1)
           have B7 := Lib.hid b7
           obtain ⟨q0, q1⟩ := HFR.out w7 b7
           have HPUT := Lib.hid (HRF.out.putE b7 (OwK.less of7 (Nat.zero_le _)) (fun b hb => .inr (OwK.lt of7 hb).1))
           refine hK.out _ _ (by exact HSS.out _ b7) (fun hHeld => ?_)
           clear hK K
           (try simp only [Act.put, p1, p2, p3, p4, p5, p6])
           clear b7 ho7 hg7 of7
           refine tk 10 ?vt3410 rfl ?yt3410 ?rt3410
           case yt3410 => (intro q h; (try dsimp only at h); go_simp; (try with_reducible rfl))
           (try simp only [Act.put, p1, p2, p3, p4, p5, p6])
           refine tk 11 ?vt3411 rfl ?yt3411 ?rt3411
           case yt3411 => (intro q h; (try dsimp only at h); go_simp; (try with_reducible rfl))
           (try simp only [Act.put, p1, p2, p3, p4, p5, p6])
           refine wpAnyH_ready (rs := [12]) (by kernel_rfl) (by simp) ?_
           refine AllReadyH.cons rfl (fun K hK => ?_) AllReadyH.nil
           go_simp
           refine hK.out _ _ (by exact HST.out _ B7.out _) (fun hHeld => ?_)
           clear hK K
           (try simp only [Act.put, p1, p2, p3, p4, p5, p6])
           refine wpAnyH_done (by kernel_rfl) ?_ _
           refine NoPanic.normal ?_
           go_wp2_with fail
           go_end0
           exact ⟨rfl, by rw [HX.out]; have hq := RefTo.after HB.out HPUT.out; simp only [List.length_append, List.length_cons, List.length_nil, Nat.zero_add] at hq; exact hq⟩
         · go_simp
           have b35 := (b26).alloc (b26).size (.cells #[.int .i64 e.kind, .int .i64 e.win, .int .i64 e.x, .int .i64 e.y, .int .i64 e.a, .int .i64 e.e, .string e.name] 71)
           have o36 := own_oneE (v := e) (Blk.new ((wb).alloc (.cells #[] 71)) 71 #[.int .i64 e.kind, .int .i64 e.win, .int .i64 e.x, .int .i64 e.y, .int .i64 e.a, .int .i64 e.e, .string e.name])
           simp only [World.size_alloc] at o36
           have z37 := World.ownsRow.alloc z27 (.cells #[.int .i64 e.kind, .int .i64 e.win, .int .i64 e.x, .int .i64 e.y, .int .i64 e.a, .int .i64 e.e, .string e.name] 71)
           refine hK.out _ _ (by exact HSS.out _ b35.drew) (fun hHeld => ?_)
           clear hK K
           (try simp only [Act.put, p1, p2, p3, p4, p5, p6])
           refine wpAnyH_ready (rs := [6]) (by kernel_rfl) (by simp) ?_
           refine AllReadyH.cons rfl (fun K hK => ?_) AllReadyH.nil
           refine step_app rfl (.tmp 17) (.tmp 21) 57 rfl wb.heap.size 71 i0 (.agg #[.int .i64 0, .int .i64 0, .int .i64 0, .int .i64 0, .int .i64 0, .int .i64 0, .string ByteArray.empty]) 7 64 Tryz.underlying57 hi0 hz0 hz1 hz2 rfl (by decide) _ _ _ (by rfl) (World.ownsRow.drew z37) _ _ _ _ (by rfl) (HFF.out _ (b35).drew) (flatE_one _) (by unfold maxLen; have := HLN.out; simp; omega) (by have := HLN.out; simp; omega) (b35).drew.size ?_
           intro v5 w38 ho5 hg5
           have v40 : OwK encE 71 7 w38 wb.heap.size v5 X.E := by have h := ho5; rw [Nat.zero_add, List.nil_append] at h; exact h
           have b39 := below_only (b35).drew hg5 (b35).drew.size (fun k hk => (World.ownsRow.lt (World.ownsRow.drew z37) k hk).1)
           have o41 := OwK.grown (World.ownsRow.drew o36) hg5 (.inr (by simp [Value.ownBlock]))
           refine hK.out _ _ (by exact HSS.out _ b39) (fun hHeld => ?_)
           clear hK K
           (try simp only [Act.put, p1, p2, p3, p4, p5, p6])
           refine wpAnyH_ready (rs := [9]) (by kernel_rfl) (by simp) ?_
           refine AllReadyH.cons rfl (fun K hK => ?_) AllReadyH.nil
           refine step_app rfl (.tmp 22) (.tmp 24) 57 rfl wb.heap.size 71 i0 (.agg #[.int .i64 0, .int .i64 0, .int .i64 0, .int .i64 0, .int .i64 0, .int .i64 0, .string ByteArray.empty]) 7 64 Tryz.underlying57 hi0 hz0 hz1 hz2 rfl (by decide) _ _ _ (by rfl) v40 _ _ _ _ (by rfl) o41 (flatE_one _) (by unfold maxLen; have := HLN.out; simp; omega) (by have := HLN.out; simp; omega) (b39).size ?_
           intro v7 w7 ho7 hg7
           have of7 : OwK encE 71 7 w7 wb.heap.size v7 (X.E ++ [e]) := by unfold OwK; rw [List.length_append, List.flatMap_append]; exact ho7
           obtain ⟨p7, c7, e7⟩ := of7.slice
           subst e7
           have b7 := below_only (b39) hg7 (b39).size (fun k hk => (World.ownsRow.lt v40 k hk).1)
           have B7 := Lib.hid b7
           obtain ⟨q0, q1⟩ := HFR.out w7 b7
           have HPUT := Lib.hid (HRF.out.putE b7 (OwK.less of7 (Nat.zero_le _)) (fun b hb => .inr (OwK.lt of7 hb).1))
           refine hK.out _ _ (by exact HSS.out _ b7) (fun hHeld => ?_)
           clear hK K
           (try simp only [Act.put, p1, p2, p3, p4, p5, p6])
           clear b7 ho7 hg7 of7
           refine tk 10 ?vt4210 rfl ?yt4210 ?rt4210
           case yt4210 => (intro q h; (try dsimp only at h); go_simp; (try with_reducible rfl))
           (try simp only [Act.put, p1, p2, p3, p4, p5, p6])
           refine tk 11 ?vt4211 rfl ?yt4211 ?rt4211
           case yt4211 => (intro q h; (try dsimp only at h); go_simp; (try with_reducible rfl))
           (try simp only [Act.put, p1, p2, p3, p4, p5, p6])
           refine wpAnyH_ready (rs := [12]) (by kernel_rfl) (by simp) ?_
           refine AllReadyH.cons rfl (fun K hK => ?_) AllReadyH.nil
           go_simp
           refine hK.out _ _ (by exact HST.out _ B7.out _) (fun hHeld => ?_)
           clear hK K
           (try simp only [Act.put, p1, p2, p3, p4, p5, p6])
           refine wpAnyH_done (by kernel_rfl) ?_ _
           refine NoPanic.normal ?_
           go_wp2_with fail
           go_end0
           exact ⟨rfl, by rw [HX.out]; have hq := RefTo.after HB.out HPUT.out; simp only [List.length_append, List.length_cons, List.length_nil, Nat.zero_add] at hq; exact hq⟩
       · go_simp
         have b43 := (Below.refl wb.heap.size wb).alloc (Below.refl wb.heap.size wb).size (.cells #[.int .i64 e.kind, .int .i64 e.win, .int .i64 e.x, .int .i64 e.y, .int .i64 e.a, .int .i64 e.e, .string e.name] 71)
         have o44 := own_oneE (v := e) (Blk.new (wb) 71 #[.int .i64 e.kind, .int .i64 e.win, .int .i64 e.x, .int .i64 e.y, .int .i64 e.a, .int .i64 e.e, .string e.name])
         refine hK.out _ _ (by exact HSS.out _ b43.drew) (fun hHeld => ?_)
         clear hK K
         (try simp only [Act.put, p1, p2, p3, p4, p5, p6])
         refine wpAnyH_ready (rs := [1]) (by kernel_rfl) (by simp) ?_
         refine AllReadyH.cons rfl (fun K hK => ?_) AllReadyH.nil
         go_simp
         have b45 := (b43).alloc (b43).size (.cells #[] 71)
         have z46 := own_zeroE (Blk.new ((wb).alloc (.cells #[.int .i64 e.kind, .int .i64 e.win, .int .i64 e.x, .int .i64 e.y, .int .i64 e.a, .int .i64 e.e, .string e.name] 71)) 71 #[]) (b43).size
         simp only [World.size_alloc] at z46
         have o47 := World.ownsRow.alloc o44 (.cells #[] 71)
         refine hK.out _ _ (by exact HSS.out _ b45.drew) (fun hHeld => ?_)
         clear hK K
         (try simp only [Act.put, p1, p2, p3, p4, p5, p6])
         refine wpAnyH_ready (rs := [6]) (by kernel_rfl) (by simp) ?_
         refine AllReadyH.cons rfl (fun K hK => ?_) AllReadyH.nil
         refine step_app rfl (.tmp 17) (.tmp 21) 57 rfl wb.heap.size 71 i0 (.agg #[.int .i64 0, .int .i64 0, .int .i64 0, .int .i64 0, .int .i64 0, .int .i64 0, .string ByteArray.empty]) 7 64 Tryz.underlying57 hi0 hz0 hz1 hz2 rfl (by decide) _ _ _ (by rfl) (World.ownsRow.drew z46) _ _ _ _ (by rfl) (HFF.out _ (b45).drew) (flatE_one _) (by unfold maxLen; have := HLN.out; simp; omega) (by have := HLN.out; simp; omega) (b45).drew.size ?_
         intro v5 w48 ho5 hg5
         have v50 : OwK encE 71 7 w48 wb.heap.size v5 X.E := by have h := ho5; rw [Nat.zero_add, List.nil_append] at h; exact h
         have b49 := below_only (b45).drew hg5 (b45).drew.size (fun k hk => (World.ownsRow.lt (World.ownsRow.drew z46) k hk).1)
         have o51 := OwK.grown (World.ownsRow.drew o47) hg5 (.inr (by simp [Value.ownBlock]))
         refine hK.out _ _ (by exact HSS.out _ b49) (fun hHeld => ?_)
         clear hK K
         (try simp only [Act.put, p1, p2, p3, p4, p5, p6])
         refine wpAnyH_ready (rs := [9]) (by kernel_rfl) (by simp) ?_
         refine AllReadyH.cons rfl (fun K hK => ?_) AllReadyH.nil
         refine step_app rfl (.tmp 22) (.tmp 24) 57 rfl wb.heap.size 71 i0 (.agg #[.int .i64 0, .int .i64 0, .int .i64 0, .int .i64 0, .int .i64 0, .int .i64 0, .string ByteArray.empty]) 7 64 Tryz.underlying57 hi0 hz0 hz1 hz2 rfl (by decide) _ _ _ (by rfl) v50 _ _ _ _ (by rfl) o51 (flatE_one _) (by unfold maxLen; have := HLN.out; simp; omega) (by have := HLN.out; simp; omega) (b49).size ?_
         intro v7 w7 ho7 hg7
         have of7 : OwK encE 71 7 w7 wb.heap.size v7 (X.E ++ [e]) := by unfold OwK; rw [List.length_append, List.flatMap_append]; exact ho7
         obtain ⟨p7, c7, e7⟩ := of7.slice
         subst e7
         have b7 := below_only (b49) hg7 (b49).size (fun k hk => (World.ownsRow.lt v50 k hk).1)
         have B7 := Lib.hid b7
         obtain ⟨q0, q1⟩ := HFR.out w7 b7
         have HPUT := Lib.hid (HRF.out.putE b7 (OwK.less of7 (Nat.zero_le _)) (fun b hb => .inr (OwK.lt of7 hb).1))
         refine hK.out _ _ (by exact HSS.out _ b7) (fun hHeld => ?_)
         clear hK K
         (try simp only [Act.put, p1, p2, p3, p4, p5, p6])
         clear b7 ho7 hg7 of7
         refine tk 10 ?vt5210 rfl ?yt5210 ?rt5210
         case yt5210 => (intro q h; (try dsimp only at h); go_simp; (try with_reducible rfl))
         (try simp only [Act.put, p1, p2, p3, p4, p5, p6])
         refine tk 11 ?vt5211 rfl ?yt5211 ?rt5211
         case yt5211 => (intro q h; (try dsimp only at h); go_simp; (try with_reducible rfl))
         (try simp only [Act.put, p1, p2, p3, p4, p5, p6])
         refine wpAnyH_ready (rs := [12]) (by kernel_rfl) (by simp) ?_
         refine AllReadyH.cons rfl (fun K hK => ?_) AllReadyH.nil
         go_simp
         refine hK.out _ _ (by exact HST.out _ B7.out _) (fun hHeld => ?_)
         clear hK K
         (try simp only [Act.put, p1, p2, p3, p4, p5, p6])
         refine wpAnyH_done (by kernel_rfl) ?_ _
         refine NoPanic.normal ?_
         go_wp2_with fail
         go_end0
         exact ⟨rfl, by rw [HX.out]; have hq := RefTo.after HB.out HPUT.out; simp only [List.length_append, List.length_cons, List.length_nil, Nat.zero_add] at hq; exact hq⟩
     · go_simp
       have b53 := (Below.refl wb.heap.size wb).alloc (Below.refl wb.heap.size wb).size (.cells #[.int .i64 e.kind, .int .i64 e.win, .int .i64 e.x, .int .i64 e.y, .int .i64 e.a, .int .i64 e.e, .string e.name] 71)
       have o54 := own_oneE (v := e) (Blk.new (wb) 71 #[.int .i64 e.kind, .int .i64 e.win, .int .i64 e.x, .int .i64 e.y, .int .i64 e.a, .int .i64 e.e, .string e.name])
       refine hK.out _ _ (by exact HSS.out _ b53.drew) (fun hHeld => ?_)
       clear hK K
       (try simp only [Act.put, p1, p2, p3, p4, p5, p6])
       refine wpAnyH_ready (rs := [1, 5]) (by kernel_rfl) (by simp) ?_
       refine AllReadyH.cons rfl (fun K hK => ?_) (AllReadyH.cons rfl (fun K hK => ?_) AllReadyH.nil)
       · go_simp
         have b55 := (b53).alloc (b53).size (.cells #[] 71)
         have z56 := own_zeroE (Blk.new ((wb).alloc (.cells #[.int .i64 e.kind, .int .i64 e.win, .int .i64 e.x, .int .i64 e.y, .int .i64 e.a, .int .i64 e.e, .string e.name] 71)) 71 #[]) (b53).size
         simp only [World.size_alloc] at z56
         have o57 := World.ownsRow.alloc o54 (.cells #[] 71)
         refine hK.out _ _ (by exact HSS.out _ b55.drew) (fun hHeld => ?_)
         clear hK K
         (try simp only [Act.put, p1, p2, p3, p4, p5, p6])
         refine wpAnyH_ready (rs := [5]) (by kernel_rfl) (by simp) ?_
         refine AllReadyH.cons rfl (fun K hK => ?_) AllReadyH.nil
         obtain ⟨q5, -⟩ := HFR.out _ (b55).drew
         go_simp
         refine hK.out _ _ (by exact HSS.out _ (b55).drew) (fun hHeld => ?_)
         clear hK K
         (try simp only [Act.put, p1, p2, p3, p4, p5, p6])
         refine wpAnyH_ready (rs := [6]) (by kernel_rfl) (by simp) ?_
         refine AllReadyH.cons rfl (fun K hK => ?_) AllReadyH.nil
         refine step_app rfl (.tmp 17) (.tmp 21) 57 rfl wb.heap.size 71 i0 (.agg #[.int .i64 0, .int .i64 0, .int .i64 0, .int .i64 0, .int .i64 0, .int .i64 0, .string ByteArray.empty]) 7 64 Tryz.underlying57 hi0 hz0 hz1 hz2 rfl (by decide) _ _ _ (by rfl) (World.ownsRow.drew z56) _ _ _ _ (by rfl) (HFF.out _ (b55).drew) (flatE_one _) (by unfold maxLen; have := HLN.out; simp; omega) (by have := HLN.out; simp; omega) (b55).drew.size ?_
         intro v5 w58 ho5 hg5
         have v60 : OwK encE 71 7 w58 wb.heap.size v5 X.E := by have h := ho5; rw [Nat.zero_add, List.nil_append] at h; exact h
         have b59 := below_only (b55).drew hg5 (b55).drew.size (fun k hk => (World.ownsRow.lt (World.ownsRow.drew z56) k hk).1)
         have o61 := OwK.grown (World.ownsRow.drew o57) hg5 (.inr (by simp [Value.ownBlock]))
         refine hK.out _ _ (by exact HSS.out _ b59) (fun hHeld => ?_)
         clear hK K
         (try simp only [Act.put, p1, p2, p3, p4, p5, p6])
         refine wpAnyH_ready (rs := [9]) (by kernel_rfl) (by simp) ?_
         refine AllReadyH.cons rfl (fun K hK => ?_) AllReadyH.nil
         refine step_app rfl (.tmp 22) (.tmp 24) 57 rfl wb.heap.size 71 i0 (.agg #[.int .i64 0, .int .i64 0, .int .i64 0, .int .i64 0, .int .i64 0, .int .i64 0, .string ByteArray.empty]) 7 64 Tryz.underlying57 hi0 hz0 hz1 hz2 rfl (by decide) _ _ _ (by rfl) v60 _ _ _ _ (by rfl) o61 (flatE_one _) (by unfold maxLen; have := HLN.out; simp; omega) (by have := HLN.out; simp; omega) (b59).size ?_
         intro v7 w7 ho7 hg7
         have of7 : OwK encE 71 7 w7 wb.heap.size v7 (X.E ++ [e]) := by unfold OwK; rw [List.length_append, List.flatMap_append]; exact ho7
         obtain ⟨p7, c7, e7⟩ := of7.slice
         subst e7
         have b7 := below_only (b59) hg7 (b59).size (fun k hk => (World.ownsRow.lt v60 k hk).1)
         have B7 := Lib.hid b7
         obtain ⟨q0, q1⟩ := HFR.out w7 b7
         have HPUT := Lib.hid (HRF.out.putE b7 (OwK.less of7 (Nat.zero_le _)) (fun b hb => .inr (OwK.lt of7 hb).1))
         refine hK.out _ _ (by exact HSS.out _ b7) (fun hHeld => ?_)
         clear hK K
         (try simp only [Act.put, p1, p2, p3, p4, p5, p6])
         clear b7 ho7 hg7 of7
         refine tk 10 ?vt6210 rfl ?yt6210 ?rt6210
         case yt6210 => (intro q h; (try dsimp only at h); go_simp; (try with_reducible rfl))
         (try simp only [Act.put, p1, p2, p3, p4, p5, p6])
         refine tk 11 ?vt6211 rfl ?yt6211 ?rt6211
         case yt6211 => (intro q h; (try dsimp only at h); go_simp; (try with_reducible rfl))
         (try simp only [Act.put, p1, p2, p3, p4, p5, p6])
         refine wpAnyH_ready (rs := [12]) (by kernel_rfl) (by simp) ?_
         refine AllReadyH.cons rfl (fun K hK => ?_) AllReadyH.nil
         go_simp
         refine hK.out _ _ (by exact HST.out _ B7.out _) (fun hHeld => ?_)
         clear hK K
         (try simp only [Act.put, p1, p2, p3, p4, p5, p6])
         refine wpAnyH_done (by kernel_rfl) ?_ _
         refine NoPanic.normal ?_
         go_wp2_with fail
         go_end0
         exact ⟨rfl, by rw [HX.out]; have hq := RefTo.after HB.out HPUT.out; simp only [List.length_append, List.length_cons, List.length_nil, Nat.zero_add] at hq; exact hq⟩
       · obtain ⟨q5, -⟩ := HFR.out _ (b53).drew
         go_simp
         refine hK.out _ _ (by exact HSS.out _ (b53).drew) (fun hHeld => ?_)
         clear hK K
         (try simp only [Act.put, p1, p2, p3, p4, p5, p6])
         refine wpAnyH_ready (rs := [1]) (by kernel_rfl) (by simp) ?_
         refine AllReadyH.cons rfl (fun K hK => ?_) AllReadyH.nil
         go_simp
         have b63 := (b53).alloc (b53).size (.cells #[] 71)
         have z64 := own_zeroE (Blk.new ((wb).alloc (.cells #[.int .i64 e.kind, .int .i64 e.win, .int .i64 e.x, .int .i64 e.y, .int .i64 e.a, .int .i64 e.e, .string e.name] 71)) 71 #[]) (b53).size
         simp only [World.size_alloc] at z64
         have o65 := World.ownsRow.alloc o54 (.cells #[] 71)
         refine hK.out _ _ (by exact HSS.out _ b63.drew) (fun hHeld => ?_)
         clear hK K
         (try simp only [Act.put, p1, p2, p3, p4, p5, p6])
         refine wpAnyH_ready (rs := [6]) (by kernel_rfl) (by simp) ?_
         refine AllReadyH.cons rfl (fun K hK => ?_) AllReadyH.nil
         refine step_app rfl (.tmp 17) (.tmp 21) 57 rfl wb.heap.size 71 i0 (.agg #[.int .i64 0, .int .i64 0, .int .i64 0, .int .i64 0, .int .i64 0, .int .i64 0, .string ByteArray.empty]) 7 64 Tryz.underlying57 hi0 hz0 hz1 hz2 rfl (by decide) _ _ _ (by rfl) (World.ownsRow.drew z64) _ _ _ _ (by rfl) (HFF.out _ (b63).drew) (flatE_one _) (by unfold maxLen; have := HLN.out; simp; omega) (by have := HLN.out; simp; omega) (b63).drew.size ?_
         intro v5 w66 ho5 hg5
         have v68 : OwK encE 71 7 w66 wb.heap.size v5 X.E := by have h := ho5; rw [Nat.zero_add, List.nil_append] at h; exact h
         have b67 := below_only (b63).drew hg5 (b63).drew.size (fun k hk => (World.ownsRow.lt (World.ownsRow.drew z64) k hk).1)
         have o69 := OwK.grown (World.ownsRow.drew o65) hg5 (.inr (by simp [Value.ownBlock]))
         refine hK.out _ _ (by exact HSS.out _ b67) (fun hHeld => ?_)
         clear hK K
         (try simp only [Act.put, p1, p2, p3, p4, p5, p6])
         refine wpAnyH_ready (rs := [9]) (by kernel_rfl) (by simp) ?_
         refine AllReadyH.cons rfl (fun K hK => ?_) AllReadyH.nil
         refine step_app rfl (.tmp 22) (.tmp 24) 57 rfl wb.heap.size 71 i0 (.agg #[.int .i64 0, .int .i64 0, .int .i64 0, .int .i64 0, .int .i64 0, .int .i64 0, .string ByteArray.empty]) 7 64 Tryz.underlying57 hi0 hz0 hz1 hz2 rfl (by decide) _ _ _ (by rfl) v68 _ _ _ _ (by rfl) o69 (flatE_one _) (by unfold maxLen; have := HLN.out; simp; omega) (by have := HLN.out; simp; omega) (b67).size ?_
         intro v7 w7 ho7 hg7
         have of7 : OwK encE 71 7 w7 wb.heap.size v7 (X.E ++ [e]) := by unfold OwK; rw [List.length_append, List.flatMap_append]; exact ho7
         obtain ⟨p7, c7, e7⟩ := of7.slice
         subst e7
         have b7 := below_only (b67) hg7 (b67).size (fun k hk => (World.ownsRow.lt v68 k hk).1)
         have B7 := Lib.hid b7
         obtain ⟨q0, q1⟩ := HFR.out w7 b7
         have HPUT := Lib.hid (HRF.out.putE b7 (OwK.less of7 (Nat.zero_le _)) (fun b hb => .inr (OwK.lt of7 hb).1))
         refine hK.out _ _ (by exact HSS.out _ b7) (fun hHeld => ?_)
         clear hK K
         (try simp only [Act.put, p1, p2, p3, p4, p5, p6])
         clear b7 ho7 hg7 of7
         refine tk 10 ?vt7010 rfl ?yt7010 ?rt7010
         case yt7010 => (intro q h; (try dsimp only at h); go_simp; (try with_reducible rfl))
         (try simp only [Act.put, p1, p2, p3, p4, p5, p6])
         refine tk 11 ?vt7011 rfl ?yt7011 ?rt7011
         case yt7011 => (intro q h; (try dsimp only at h); go_simp; (try with_reducible rfl))
         (try simp only [Act.put, p1, p2, p3, p4, p5, p6])
         refine wpAnyH_ready (rs := [12]) (by kernel_rfl) (by simp) ?_
         refine AllReadyH.cons rfl (fun K hK => ?_) AllReadyH.nil
         go_simp
         refine hK.out _ _ (by exact HST.out _ B7.out _) (fun hHeld => ?_)
         clear hK K
         (try simp only [Act.put, p1, p2, p3, p4, p5, p6])
         refine wpAnyH_done (by kernel_rfl) ?_ _
         refine NoPanic.normal ?_
         go_wp2_with fail
         go_end0
         exact ⟨rfl, by rw [HX.out]; have hq := RefTo.after HB.out HPUT.out; simp only [List.length_append, List.length_cons, List.length_nil, Nat.zero_add] at hq; exact hq⟩
   · have hl1 : ¬ (n : Int) < 4096 := by omega
     have hX : X.tell e = X := by unfold Xs.tell; rw [if_neg (fun hh => hl (by rw [hn]; exact hh.2))]
     have HQ := Lib.hid (show RefTo w r Z (X.tell e) wb from by rw [hX]; exact RefTo.same h hbel)
     clear h hs hbel hbx hX hn hev hl hG
     go_enter Tryz.func88, Tryz.ntmps88
     go_upto_region 1 with fail
     rw [← HW.out]
     clear hwb
     go_wp2_with fail
     go_end0
     exact ⟨rfl, HQ.out⟩
 · have hG' : X.G = false := by simpa using hG
   rw [hG'] at b9
   have hX : X.tell e = X := by unfold Xs.tell; rw [if_neg (fun hh => hG hh.1)]
   have HQ := Lib.hid (show RefTo w r Z (X.tell e) wb from by rw [hX]; exact RefTo.same h hbel)
   clear h hs hbel hbx hX hn hev hG hG'
   go_enter Tryz.func88, Tryz.ntmps88
   go_upto_region 1 with fail
   rw [← HW.out]
   clear hwb
   go_wp2_with fail
   go_end0
   exact ⟨rfl, HQ.out⟩
end
end Go.Proofs.YtnhchpiafchdgaaGreat
