/- Texts San Sao. -/
import Derived.Test.YtnhchpiafchdgaaGreatTaf
import Derived.Deep.AppendLies
import Derived.Deep.RegionHeld3
import Derived.Deep.RegionLaw
import Derived.BigQuiet
import Derived.Laws.OwnMore
import Derived.Test.YtnhchpiafchdgaaGreatTab
import Derived.Test.YtnhchpiafchdgaaGreatTaa
section
namespace Go.Proofs.YtnhchpiafchdgaaGreat
open Go.RowKit Go.Shelf Go.Maps
theorem own_next {B : Nat} {e : TypeId} {k : Nat} {v : Value} {n : Nat} {xs : List Value} {w w' : World} (h : w.ownsRow B e k v n xs) (hb : Below w.heap.size w w') : w'.ownsRow B e k v n xs :=
 h.kept (row := none) ⟨hb.os, hb.tape, hb.output, hb.size, fun j hj _ => hb.block j hj⟩ (by cases hv : v.ownBlock <;> simp)
theorem own_form {B : Nat} {e : TypeId} {v : Value} {n : Nat} {xs : List Value} {w : World} (h : w.ownsRow B e 1 v n xs) (hn : 0 < n) :
  ∃ g c, v = .slice (some ⟨g, 0, none⟩) n c ∧ ∀ j u, xs[j]? = some u → w.cell? ((⟨g, 0, none⟩ : Addr).add j) = some u := by
 obtain ⟨g, c, rfl, -⟩ := h.form hn
 exact ⟨g, c, rfl, World.ownsRow.cells h rfl⟩
theorem GiS.add {w wr w1 w2 : World} {v v' : Value} {xs ys : List Int} (h : GiS w wr v xs) (hb : Below wr.heap.size wr w1) (ho : w2.ownsRow w.heap.size 3 1 v' (xs.length + ys.length) (xs.map (Value.int .i64) ++ ys.map (Value.int .i64))) (hg : w1.grownBy w2 v.ownBlock) : GiS w w2 v' (xs ++ ys) := by
 refine ⟨?_, below_only (hb.on h.2 h.2.size) hg (Nat.le_trans h.2.size hb.size) (fun k hk => (World.ownsRow.lt h.1 k hk).1)⟩
 rw [List.length_append, List.map_append]
 exact ho
section
variable {R : RT} {L : List Win}
set_option maxRecDepth 100000 in
set_option maxHeartbeats 16000000 in
theorem rall_c (hL : L.length ≤ 1048576) : ∀ (n : Nat) (i : Int) (sv : Value) (w : World), RW w sv L → Tall (ndL R L) n i → (allL (ndL R L) n i).length ≤ 1048576 →
  Calls Tryz.prog 115 #[refV R sv, .int .i64 i] w fun e w' => ∃ v', e = .returned v' ∧ w'.ownsRow w.heap.size 3 1 v' (allL (ndL R L) n i).length ((allL (ndL R L) n i).map (Value.int .i64)) ∧ Below w.heap.size w w'
 | 0, _, _, _, _, hT, _ => hT.elim
 | n + 1, i, sv, w, h, hT, hlen => by
  obtain ⟨i0, hi0, hz0, hz1, hz2⟩ := info_parts intInfo
  obtain ⟨d, hd, hkids⟩ := hT
  have hall : allL (ndL R L) (n + 1) i = d.kids.flatMap (allL (ndL R L) n) ++ [i] := by simp only [allL, hd]
  rw [hall] at hlen ⊢
  have hlen2 : (d.kids.flatMap (allL (ndL R L) n)).length + 1 ≤ 1048576 := by simp at hlen ⊢; omega
  obtain ⟨wb, hwb⟩ : ∃ wb, wb = w.alloc (.cells (refA R sv) 54) := ⟨_, rfl⟩
  have hbel : Below w.heap.size w wb := by rw [hwb]; exact (Below.refl _ _).alloc (Nat.le_refl _) _
  have hbx : RBox R sv w.heap.size wb wb := ⟨by rw [hwb]; exact Blk.new w _ _, Below.refl _ _⟩
  have hk := (ndL_some hd).2
  have HKC := Lib.hid (hk ▸ rkids_c (R := R) (h.below hbel) hL i)
  have HRE := Lib.hid (fun (x : Int) (k : Nat) (hx : d.kids[k]? = some x) (W : World) (hW : Below w.heap.size w W) => rall_c hL n x sv W (h.below hW) (hkids x (List.mem_of_getElem? hx)) (by
   have h1 := flat_len_le (allL (ndL R L) n) d.kids (k + 1)
   rw [take_flat _ hx, List.length_append] at h1
   omega))
  have HPO := Lib.hid (fun (x : Int) (k : Nat) (hx : d.kids[k]? = some x) => (show 0 < (allL (ndL R L) n x).length from by
   have ht := hkids x (List.mem_of_getElem? hx)
   cases n with
   | zero => exact ht.elim
   | succ n =>
     obtain ⟨d', hd', -⟩ := ht
     simp only [allL, hd', List.length_append, List.length_singleton]; omega))
  have HLEN := Lib.hid hlen2
  obtain ⟨x0, x1, x2, x3, x4, x5⟩ := hbx.cells
  have H0 := Lib.hid hbx
  have HB := Lib.hid hbel
  have HW := Lib.hid hwb
  have hm0 : (d.kids.length : Int) ≤ 1048576 := by
   have h2 := kidsL_len i L L.length
   rw [List.take_length] at h2
   rw [hk]; omega
  obtain ⟨ks, hks⟩ : ∃ ks, ks = d.kids := ⟨_, rfl⟩
  rw [← hks] at HKC HRE HPO HLEN hm0 ⊢
  obtain ⟨m, hm⟩ : ∃ m, m = ks.length := ⟨_, rfl⟩
  rw [← hm] at HKC hm0
  have HM := Lib.hid hm
  clear h hbel hbx hd hkids hall hlen hlen2 hk hks hm
  go_enter Tryz.func115, Tryz.ntmps115
  go_upto_region 1 with fail
  rw [← HW.out]
  clear hwb
  go_upto_region 3 with (go_at_call 23; ((with_reducible refine (HKC.out).mono ?_); rintro e w1 ⟨v1, rfl, ho1, hb1⟩); obtain ⟨p1, c1, rfl, hc1⟩ := row_reads (HM.out ▸ row_less ho1 (Nat.zero_le _)); rw [← HM.out]; have HC1 := Lib.hid hc1; have HX1 := Lib.hid (H0.out.next hb1); have HB1 := Lib.hid (hb1.on HB.out HB.out.size); clear ho1 hc1 hb1)
  clear x0 x1 x2 x3 x4 x5
  go_wp2_with fail
  go_loopw [5, 7] (fun y z wr => ∃ k : Nat, k ≤ m ∧ z = .int .i64 k ∧ GiS w1 wr y ((ks.take k).flatMap (allL (ndL R L) n))) (fun _ z _ => m - (intOf z).toNat)
  case atStart => exact ⟨0, Nat.zero_le _, rfl, World.ownsRow_nil _ _ _ _, Below.refl _ _⟩
  case round =>
   obtain ⟨k, hk, rfl, hG⟩ := hrel
   obtain ⟨acc, hacc⟩ : ∃ acc, acc = (ks.take k).flatMap (allL (ndL R L) n) := ⟨_, rfl⟩
   rw [← hacc] at hG
   have HG := Lib.hid hG
   have HACC := Lib.hid hacc
   have hi0' : (0 : Int) ≤ (k : Int) := by omega
   clear hG hacc
   by_cases hlt : k < m
   · obtain ⟨x, hx⟩ : ∃ x, ks[k]? = some x := ⟨_, List.getElem?_eq_getElem (by rw [← HM.out]; exact hlt)⟩
     obtain ⟨gk, rfl, hgk, hcx⟩ := HC1.out k x hx
     have hcr : wr.cell? ⟨gk, k, none⟩ = some (.int .i64 x) := (HG.out.2.cell (World.block_lt_of_cell? _ _ hcx)).trans hcx
     have HX := Lib.hid (HX1.out.next HG.out.2)
     have hi1 : (k : Int) < (m : Int) := by omega
     have hr0 := HRE.out x k hx wr.drew (HG.out.2.on HB1.out HB1.out.size).drew
     have hp0 := HPO.out x k hx
     have ht0 := take_flat (allL (ndL R L) n) hx
     have hl0 := flat_len_le (allL (ndL R L) n) ks (k + 1)
     rw [ht0, ← HACC.out, List.length_append] at hl0
     rw [← HACC.out] at ht0
     obtain ⟨ys, hys⟩ : ∃ ys, ys = allL (ndL R L) n x := ⟨_, rfl⟩
     rw [← hys] at hr0 hp0 ht0 hl0
     have HR := Lib.hid hr0
     have HPOS := Lib.hid hp0
     have HTF := Lib.hid ht0
     have HLE := Lib.hid (show acc.length + ys.length ≤ 1048576 by have := HLEN.out; omega)
     clear hr0 hp0 ht0 hl0 hys
     have HK7 := Lib.hid (fun (W : World) (hW : Below w1.heap.size w1 W) => And.intro (HX1.out.next hW).cells ((hW.cell (World.block_lt_of_cell? _ _ hcx)).trans hcx))
     clear hx hcx hgk
     go_wp2_with fail
     refine wp_region_noPanic ?_
     refine wp_region_held_drew (S := fun wx => (wx.cell? ⟨w.heap.size, 0, none⟩ = some (.int .i64 R.x) ∧ wx.cell? ⟨w.heap.size, 1, none⟩ = some (.int .i64 R.y) ∧ wx.cell? ⟨w.heap.size, 2, none⟩ = some (.int .i64 R.w) ∧ wx.cell? ⟨w.heap.size, 3, none⟩ = some (.int .i64 R.h) ∧ wx.cell? ⟨w.heap.size, 4, none⟩ = some (.int .i64 R.last) ∧ wx.cell? ⟨w.heap.size, 5, none⟩ = some sv) ∧ wx.cell? ⟨gk, k, none⟩ = some (.int .i64 x)) (by kernel_rfl) (by exact ⟨HX.out.cells, hcr⟩) (fun hHeld => ?_)
     refine tk 0 ?va0 rfl ?ya0 ?ra0
     case ya0 => (intro q h; (try dsimp only at h); go_simp; (try with_reducible rfl))
     (try simp only [Act.put, p1, p3, p4, p5, p6])
     refine tk 1 ?va1 rfl ?ya1 ?ra1
     case ya1 => (intro q h; (try dsimp only at h); go_simp; (try with_reducible rfl))
     (try simp only [Act.put, p1, p2, p3, p4, p5, p6])
     refine tk 2 ?va2 rfl ?ya2 ?ra2
     case ya2 => (intro q h; (try dsimp only at h); go_simp; (try with_reducible rfl))
     (try simp only [Act.put, p1, p2, p3, p4, p5, p6])
     refine tk 3 ?va3 rfl ?ya3 ?ra3
     case ya3 => (intro q h; (try dsimp only at h); go_simp; (try with_reducible rfl))
     (try simp only [Act.put, p1, p2, p3, p4, p5, p6])
     refine tk 4 ?va4 rfl ?ya4 ?ra4
     case ya4 => (intro q h; (try dsimp only at h); go_simp; (try with_reducible rfl))
     (try simp only [Act.put, p1, p2, p3, p4, p5, p6])
     refine tk 5 ?va5 rfl ?ya5 ?ra5
     case ya5 => (intro q h; (try dsimp only at h); go_simp; (try with_reducible rfl))
     (try simp only [Act.put, p1, p2, p3, p4, p5, p6])
     refine wpAnyH_ready (rs := [6]) (by kernel_rfl) (by simp) ?_
     refine AllReadyH.cons rfl (fun K hK => ?_) AllReadyH.nil
     go_simp
     refine (HR.out).mono ?_
     rintro e w4 ⟨v4, rfl, ho4, hb0⟩; have hb4 : Below wr.heap.size wr w4 := ((Below.refl _ wr).drew).trans hb0; clear hb0; have HB4 := Lib.hid hb4; obtain ⟨g4, c4, rfl, hc4⟩ := own_form ho4 HPOS.out; have HC4 := Lib.hid hc4; clear ho4 hc4 hb4
     (try dsimp only)
     refine hK.out _ _ (by exact ⟨(HX.out.next HB4.out).cells, (HB4.out.cell (World.block_lt_of_cell? _ _ hcr)).trans hcr⟩) (fun hHeld => ?_)
     clear hK K
     (try simp only [Act.put, p1, p2, p3, p4, p5, p6])
     refine wpAnyH_ready (rs := [7]) (by kernel_rfl) (by simp) ?_
     refine AllReadyH.cons rfl (fun K hK => ?_) AllReadyH.nil
     (refine step_append_lies _ rfl (.tmp 17) (.tmp 23) 67 rfl w1.heap.size 3 i0 (.int .i64 0) 1 8 Tryz.underlying67 hi0 hz0 hz1 hz2 rfl (by decide) _ _ _ rfl (own_next HG.out.1 HB4.out) ⟨_, 0, none⟩ _ _ _ rfl (by simp) HC4.out (oneCell_ints _) HPOS.out (by unfold maxLen; have := HLE.out; omega) (by have := HLE.out; omega) (Nat.le_trans HG.out.2.size HB4.out.size) _ rfl ?_); intro g' cap' w7 ho hg' _ _; have HG7 := Lib.hid (HG.out.add HB4.out ho hg'); clear ho hg'
     refine hK.out _ _ (by exact HK7.out _ HG7.out.2) (fun hHeld => ?_)
     clear hK K
     (try simp only [Act.put, p1, p2, p3, p4, p5, p6])
     refine tk 8 ?va8 rfl ?ya8 ?ra8
     case ya8 => (intro q h; (try dsimp only at h); go_simp; (try with_reducible rfl))
     (try simp only [Act.put, p1, p2, p3, p4, p5, p6])
     refine wpAnyH_done (by kernel_rfl) ?_ _
     refine NoPanic.normal ?_
     go_wp2_with fail
     go_roundw
     case rel => exact ⟨k + 1, by omega, by go_num, by rw [HTF.out]; exact HG7.out⟩
     case measure => simp [intOf]; omega
   · obtain rfl : k = m := by omega
     have HK := Lib.hid (show acc = ks.flatMap (allL (ndL R L) n) by rw [HACC.out, HM.out, List.take_length])
     have HLL := Lib.hid (show acc.length + 1 ≤ 1048576 by rw [HK.out]; exact HLEN.out)
     go_wp2_with (at_builtin; refine wpList_append_own_at _ rfl (.tmp 25) (.tmp 27) 67 rfl w1.heap.size 3 i0 (.int .i64 0) 1 8 Tryz.underlying67 hi0 hz0 hz1 hz2 rfl (by decide) _ _ _ rfl (World.ownsRow.alloc HG.out.1 _) ⟨_, 0, none⟩ 1 1 [.int .i64 i] rfl rfl (cell_list_at _ _ [.int .i64 i] _ (by simp)) (oneCell_ints [i]) (by unfold maxLen; have := HLL.out; omega) (by have := HLL.out; omega) (by have := HG.out.2.size; simp; omega) ?_; intro v3 w3 ho3 hg3 _ _; have HP := Lib.hid (HG.out.put ho3 hg3); clear ho3 hg3)
     go_ret
     have hP := HP.out
     rw [HK.out] at hP
     exact ⟨_, rfl, row_less hP.1 HB1.out.size, hP.2.on HB1.out HB1.out.size⟩
end
def RdI (w : World) (v : Value) (xs : List Int) : Prop := ∃ p c, v = .slice p xs.length c ∧ ∀ (j : Nat) (x : Int), xs[j]? = some x → ∃ g, p = some ⟨g, 0, none⟩ ∧ w.cell? ⟨g, j, none⟩ = some (.int .i64 x)
theorem RdI.next {w w' : World} {v : Value} {xs : List Int} (h : RdI w v xs) (hb : Below w.heap.size w w') : RdI w' v xs := by
 obtain ⟨p, c, h1, h2⟩ := h
 exact ⟨p, c, h1, fun j x hx => by obtain ⟨g, h3, h4⟩ := h2 j x hx; exact ⟨g, h3, (hb.cell (World.block_lt_of_cell? _ _ h4)).trans h4⟩⟩
theorem RdI.of {B : Nat} {w : World} {v : Value} {xs : List Int} (h : w.ownsRow B 3 1 v xs.length (xs.map (Value.int .i64))) : RdI w v xs := by
 obtain ⟨p, c, h1, h2⟩ := row_reads (row_less h (Nat.zero_le _))
 exact ⟨p, c, h1, fun j x hx => by obtain ⟨g, h3, -, h4⟩ := h2 j x hx; exact ⟨g, h3, h4⟩⟩
theorem list_same {a b : List Int} (hl : a.length = b.length) (h : ∀ j, j < a.length → a[j]? = b[j]?) : a = b := by
 apply List.ext_getElem? 
 intro j
 rcases Nat.lt_or_ge j a.length with h1 | h1
 · exact h j h1
 · rw [List.getElem?_eq_none h1, List.getElem?_eq_none (by omega)]
set_option maxHeartbeats 4000000 in
theorem ints_c (va vb : Value) (a b : List Int) (w : World) (ha : RdI w va a) (hb : RdI w vb b) (hla : a.length ≤ 1048576) (hlb : b.length ≤ 1048576) :
   Calls Tryz.prog 25 #[va, vb] w fun e w' => e = .returned (.bool (decide (a = b))) ∧ Below w.heap.size w w' := by
 obtain ⟨p, c, rfl, ha⟩ := ha
 obtain ⟨p', c', rfl, hb⟩ := hb
 have HA := Lib.hid ha
 have HB := Lib.hid hb
 obtain ⟨n, hn⟩ : ∃ n, n = a.length := ⟨_, rfl⟩
 obtain ⟨n', hn'⟩ : ∃ n', n' = b.length := ⟨_, rfl⟩
 rw [← hn] at hla ⊢
 rw [← hn'] at hlb ⊢
 have HN := Lib.hid hn
 have HN' := Lib.hid hn'
 clear ha hb hn hn'
 by_cases hnn : n = n'
 · subst hnn
   go_enter Tryz.func25, Tryz.ntmps25
   go_wp2_with fail
   go_loopw [5] (fun v wr => ∃ k q : Nat, k ≤ n ∧ v = .int .i64 k ∧ wr = w.drewN q ∧ Asd (∀ j, j < k → a[j]? = b[j]?)) (fun v _ => n - (intOf v).toNat)
   case atStart => exact ⟨0, 0, Nat.zero_le _, rfl, rfl, fun j hj => absurd hj (Nat.not_lt_zero _)⟩
   case round =>
    obtain ⟨k, q, hk, rfl, rfl, hA⟩ := hrel
    have HS := Lib.hid (show ∀ j, j < k → a[j]? = b[j]? from hA)
    clear hA
    by_cases hlt : k < n
    · obtain ⟨u, hu⟩ : ∃ u, a[k]? = some u := ⟨_, List.getElem?_eq_getElem (by rw [← HN.out]; exact hlt)⟩
      obtain ⟨u', hu'⟩ : ∃ u, b[k]? = some u := ⟨_, List.getElem?_eq_getElem (by rw [← HN'.out]; exact hlt)⟩
      obtain ⟨g, rfl, h1⟩ := HA.out k u hu
      obtain ⟨g', rfl, h2⟩ := HB.out k u' hu'
      have HU := Lib.hid (And.intro hu hu')
      clear hu hu'
      have hi0 : (0 : Int) ≤ (k : Int) := by omega
      have hi1 : (k : Int) < (n : Int) := by omega
      by_cases he : u = u'
      · subst he
        go_wp2_with fail
        go_quiet (fail)
        go_wp2_with fail
        go_roundw
        case rel => exact ⟨k + 1, _, by omega, by go_num, rfl, fun j hj => by
         rcases Nat.lt_or_ge j k with h | h
         · exact HS.out j h
         · obtain rfl : j = k := by omega
           rw [HU.out.1, HU.out.2]⟩
        case measure => simp [intOf]; omega
      · have h3 : (u == u') = false := by simpa using he
        have h4 : (u != u') = true := by simp [bne, h3]
        have HR := Lib.hid (show decide (a = b) = false by
         rw [decide_eq_false_iff_not]
         intro e
         have := HU.out
         rw [e] at this
         have h5 := this.1.symm.trans this.2
         injection h5 with h5
         exact he h5)
        clear he
        go_wp2_with fail
        go_quiet (fail)
        go_wp2_with fail
        go_ret
        exact ⟨ret_bool HR.out.symm, below_drewN (below_drewN (Below.refl _ _) _) _⟩
    · have HR := Lib.hid (show decide (a = b) = true by
        rw [decide_eq_true_iff]
        exact list_same (by rw [← HN.out, ← HN'.out]) (fun j hj => HS.out j (by rw [← HN.out] at hj; omega)))
      go_wp2_with fail
      go_ret
      exact ⟨ret_bool HR.out.symm, below_drewN (Below.refl _ _) _⟩
 · have HR := Lib.hid (show decide (a = b) = false by
    rw [decide_eq_false_iff_not]
    intro e
    exact hnn (by rw [HN.out, HN'.out, e]))
   have h1 : ((n : Int) == (n' : Int)) = false := by simp; omega
   have h2 : ((n : Int) != (n' : Int)) = true := by simp [bne, h1]
   go_enter Tryz.func25, Tryz.ntmps25
   go_wp2_with fail
   go_ret
   exact ⟨ret_bool HR.out.symm, Below.refl _ _⟩
end Go.Proofs.YtnhchpiafchdgaaGreat
end
section
namespace Go.Proofs.YtnhchpiafchdgaaGreat
open Go.RowKit Go.Shelf Go.Maps
theorem run_app {P : Program} (w : World) (t ty : TypeId) (base : Nat) (e : TypeId) (i : TypeInfo) (z : Value) (size bytes : Nat) (ht : P.underlying t = some (.slice e)) (hi : P.info? e = some i) (hz : i.zero = some z)
   (hsize : i.size = size) (hby : i.bytes = bytes) (hzs : z.cells.size = size) (hsz : 0 < size) (v : Value) (n : Nat) (xs : List Value) (hown : w.ownsRow base e size v n xs)
   (B : Nat) (u : Value) (m : Nat) (news : List Value) (hu : w.ownsRow B e size u m news) (h1 : ∀ q ∈ news, q.oneCell' = true) (h63 : n + m ≤ maxLen) (hbytes : (n + m) * bytes ≤ 140737488355328) (hbase : base ≤ w.heap.size) :
   ∃ v' w', (Builtin.append_ #[t, t] ty #[v, u]).run P w = .ok v' w' ∧ w'.ownsRow base e size v' (n + m) (xs ++ news) ∧ w.grownBy w' v.ownBlock := by
 have hc := fun g (hg : u.ownBlock = some g) => World.ownsRow.cells hu hg
 obtain ⟨hl, h2⟩ := hu
 rcases h2 with ⟨rfl, rfl⟩ | ⟨g, cap, cur, rfl, _⟩
 · obtain rfl : news = [] := List.eq_nil_of_length_eq_zero (by simpa using hl)
   exact ⟨v, w, run_append_owned_none (P := P) (w := w) base t ty e i size ht hi v n xs hown, by simpa using hown, World.grownBy.refl w _⟩
 · obtain ⟨v', w', k1, k2, k3, _⟩ := run_append_own_at (P := P) w base t ty e i z size bytes ht hi hz hsize hby hzs hsz v n xs hown ⟨g, 0, none⟩ m cap news hl (hc g rfl) h1 h63 hbytes hbase
   exact ⟨v', w', k1, k2, k3⟩
theorem wp_app {P : Program} {w : World} {o : Oper} {a : Act} {K : Act → World → Prop} {Q : Exit → Act → World → Prop} (s x : Operand) (t : TypeId)
  (ho : o.op = .call { callee := .builtin .append, args := #[s, x], argTypes := #[t, t] })
  (base : Nat) (e : TypeId) (i : TypeInfo) (z : Value) (size bytes : Nat) (ht : P.underlying t = some (.slice e)) (hi : P.info? e = some i) (hz : i.zero = some z)
  (hsize : i.size = size) (hby : i.bytes = bytes) (hzs : z.cells.size = size) (hsz : 0 < size) (v : Value) (n : Nat) (xs : List Value) (hs : a.eval s = v) (hown : w.ownsRow base e size v n xs)
  (B : Nat) (u : Value) (m : Nat) (news : List Value) (hx : a.eval x = u) (hu : w.ownsRow B e size u m news) (h1 : ∀ q ∈ news, q.oneCell' = true) (h63 : n + m ≤ maxLen) (hbytes : (n + m) * bytes ≤ 140737488355328) (hbase : base ≤ w.heap.size)
  (h : ∀ v' w', w'.ownsRow base e size v' (n + m) (xs ++ news) → w.grownBy w' v.ownBlock → K (a.put o.dst v') w') : o.wp P a w K Q := by
 obtain ⟨v', w', k1, k2, k3⟩ := run_app (P := P) w t o.type base e i z size bytes ht hi hz hsize hby hzs hsz v n xs hown B u m news hu h1 h63 hbytes hbase
 unfold Oper.wp execOp
 simp only [ho, resolve, invoke, builtin, Sem.run_bind, Sem.run_pure, Result.andThen_ok, List.map_toArray, List.map_cons, List.map_nil, hs, hx, k1]
 exact h v' w' k2 k3
theorem list_app {P : Program} {w : World} {ops : Array Oper} {rest : List Oper} {o : Oper} {a : Act} {Q : Exit → Act → World → Prop} (hgd : o.guard = none) (s x : Operand) (t : TypeId)
  (ho : o.op = .call { callee := .builtin .append, args := #[s, x], argTypes := #[t, t] })
  (base : Nat) (e : TypeId) (i : TypeInfo) (z : Value) (size bytes : Nat) (ht : P.underlying t = some (.slice e)) (hi : P.info? e = some i) (hz : i.zero = some z)
  (hsize : i.size = size) (hby : i.bytes = bytes) (hzs : z.cells.size = size) (hsz : 0 < size) (v : Value) (n : Nat) (xs : List Value) (hs : a.eval s = v) (hown : w.ownsRow base e size v n xs)
  (B : Nat) (u : Value) (m : Nat) (news : List Value) (hx : a.eval x = u) (hu : w.ownsRow B e size u m news) (h1 : ∀ q ∈ news, q.oneCell' = true) (h63 : n + m ≤ maxLen) (hbytes : (n + m) * bytes ≤ 140737488355328) (hbase : base ≤ w.heap.size)
  (h : ∀ v' w', w'.ownsRow base e size v' (n + m) (xs ++ news) → w.grownBy w' v.ownBlock → wpList P ops Q rest (a.put o.dst v') w') : wpList P ops Q (o :: rest) a w :=
 wpList_plain hgd fun _ hK => wp_app s x t ho base e i z size bytes ht hi hz hsize hby hzs hsz v n xs hs hown B u m news hx hu h1 h63 hbytes hbase fun v' w' h2 h3 => hK _ _ (h v' w' h2 h3)
theorem step_app {P : Program} {w : World} {ops : Array Oper} {o : Oper} {a : Act} {K : Act → World → Prop} {Q : Exit → Act → World → Prop} {E : Prop} (hgd : o.guard = none) (s x : Operand) (t : TypeId)
  (ho : o.op = .call { callee := .builtin .append, args := #[s, x], argTypes := #[t, t] })
  (base : Nat) (e : TypeId) (i : TypeInfo) (z : Value) (size bytes : Nat) (ht : P.underlying t = some (.slice e)) (hi : P.info? e = some i) (hz : i.zero = some z)
  (hsize : i.size = size) (hby : i.bytes = bytes) (hzs : z.cells.size = size) (hsz : 0 < size) (v : Value) (n : Nat) (xs : List Value) (hs : a.eval s = v) (hown : w.ownsRow base e size v n xs)
  (B : Nat) (u : Value) (m : Nat) (news : List Value) (hx : a.eval x = u) (hu : w.ownsRow B e size u m news) (h1 : ∀ q ∈ news, q.oneCell' = true) (h63 : n + m ≤ maxLen) (hbytes : (n + m) * bytes ≤ 140737488355328) (hbase : base ≤ w.heap.size)
  (h : ∀ v' w', w'.ownsRow base e size v' (n + m) (xs ++ news) → w.grownBy w' v.ownBlock → K (a.put o.dst v') w') : if Region.wanted o (yielded ops a.tmps) = true then Oper.wp P o a w K Q else E := by
 have hw : Region.wanted o (yielded ops a.tmps) = true := by simp [Region.wanted, hgd]
 rw [if_pos hw]
 exact wp_app s x t ho base e i z size bytes ht hi hz hsize hby hzs hsz v n xs hs hown B u m news hx hu h1 h63 hbytes hbase h
abbrev RO (w : World) (sv : Value) (L : List Win) : Prop := OwK encW 61 7 w 0 sv L
theorem RO.rd {w : World} {sv : Value} {L : List Win} (h : RO w sv L) : RW w sv L := OwK.reads encW_len h
theorem flatW_one (L : List Win) : ∀ q ∈ L.flatMap encW, q.oneCell' = true := fun q hq => by
 obtain ⟨v, -, hv⟩ := List.mem_flatMap.1 hq
 exact oneCell_encW v q hv
theorem OwK.app {w : World} {B : Nat} {v : Value} {L M : List Win} (h : w.ownsRow B 61 7 v (L.length + M.length) (L.flatMap encW ++ M.flatMap encW)) : OwK encW 61 7 w B v (L ++ M) := by
 unfold OwK
 rw [List.length_append, List.flatMap_append]; exact h
theorem own_one {w : World} {g : Nat} {v : Win} (h : Blk w g 61 #[.int .i64 v.id, .int .i64 v.par, .int .i64 v.x, .int .i64 v.y, .int .i64 v.w, .int .i64 v.h, .bool v.on]) : OwK encW 61 7 w g (.slice (some ⟨g, 0, none⟩) 1 1) [v] := by
 refine ⟨rfl, .inr ⟨g, 1, _, rfl, Nat.le_refl _, h, Nat.le_refl _, by decide, rfl, rfl⟩⟩
theorem set6 {B g : Nat} {a w : World} (h : Below B a w) (hg : B ≤ g) (v0 v1 v2 v3 v4 v5 : Value) : Below B a ((((((w.setCell ⟨g, 0, none⟩ v0).setCell ⟨g, 1, none⟩ v1).setCell ⟨g, 2, none⟩ v2).setCell ⟨g, 3, none⟩ v3).setCell ⟨g, 4, none⟩ v4).setCell ⟨g, 5, none⟩ v5) :=
 (((((h.setCell hg _).setCell hg _).setCell hg _).setCell hg _).setCell hg _).setCell hg _
end Go.Proofs.YtnhchpiafchdgaaGreat
end
section
namespace Go.Proofs.YtnhchpiafchdgaaGreat
open Go.RowKit Go.Shelf Go.Maps
theorem Blk.at6 {w : World} {g : Nat} {t : TypeId} {v0 v1 v2 v3 v4 v5 : Value} (h : Blk w g t #[v0, v1, v2, v3, v4, v5]) : (w.cell? ⟨g, 0, none⟩ = some v0 ∧ w.cell? ⟨g, 1, none⟩ = some v1 ∧ w.cell? ⟨g, 2, none⟩ = some v2 ∧ w.cell? ⟨g, 3, none⟩ = some v3 ∧ w.cell? ⟨g, 4, none⟩ = some v4 ∧ w.cell? ⟨g, 5, none⟩ = some v5) ∧ (w.frozen? ⟨g, 0, none⟩ = false ∧ w.frozen? ⟨g, 1, none⟩ = false ∧ w.frozen? ⟨g, 2, none⟩ = false ∧ w.frozen? ⟨g, 3, none⟩ = false ∧ w.frozen? ⟨g, 4, none⟩ = false ∧ w.frozen? ⟨g, 5, none⟩ = false) :=
 ⟨⟨h.at_ rfl, h.at_ rfl, h.at_ rfl, h.at_ rfl, h.at_ rfl, h.at_ rfl⟩, h.frozen _, h.frozen _, h.frozen _, h.frozen _, h.frozen _, h.frozen _⟩
abbrev zeroT : Array Value := #[.int .i64 0, .int .i64 0, .int .i64 0, .int .i64 0, .int .i64 0, .slice none 0 0]
def CbX (R : RT) (sv : Value) (x y a e : Int) (g : Nat) (wb W : World) : Prop :=
 Blk W g 54 (refA R sv) ∧ Blk W (g + 1) 23 #[.int .i64 x, .int .i64 y, .int .i64 a, .int .i64 e] ∧ Blk W (g + 1 + 1) 54 zeroT ∧ Below wb.heap.size wb W
theorem CbX.next {R : RT} {sv : Value} {x y a e : Int} {g : Nat} {wb W W' : World} (h : CbX R sv x y a e g wb W) (hb : Below W.heap.size W W') : CbX R sv x y a e g wb W' := ⟨h.1.next hb, h.2.1.next hb, h.2.2.1.next hb, hb.on h.2.2.2 h.2.2.2.size⟩
def CrR (w : World) (R' : RT) (L' : List Win) (id err : Int) (ex : Ending) (w' : World) : Prop := ∃ sv', ex = .returned (.tuple #[refV R' sv', .int .i64 id, .int .i64 err]) ∧ RO w' sv' L' ∧ Below w.heap.size w w'
section
variable {w : World} {R : RT} {sv : Value} {L : List Win}
set_option maxRecDepth 100000 in
set_option maxHeartbeats 8000000 in
theorem rcreate_no (h : RO w sv L) (hL : L.length ≤ 1048576) {par x y a e : Int} {k : Int} (hk : (isL L par = false ∧ k = 6) ∨ (isL L par = true ∧ rightB x y a e = false ∧ k = 10) ∨ (isL L par = true ∧ rightB x y a e = true ∧ 1024 ≤ L.length ∧ k = 2)) :
   Calls Tryz.prog 62 #[refV R sv, .int .i64 par, .agg #[.int .i64 x, .int .i64 y, .int .i64 a, .int .i64 e]] w fun ex w' => CrR w R L 0 k ex w' := by
 obtain ⟨wb, hwb⟩ : ∃ wb, wb = ((w.alloc (.cells (refA R sv) 54)).alloc (.cells #[.int .i64 x, .int .i64 y, .int .i64 a, .int .i64 e] 23)).alloc (.cells zeroT 54) := ⟨_, rfl⟩
 have hbel : Below w.heap.size w wb := by rw [hwb]; exact (((Below.refl _ _).alloc (Nat.le_refl _) _).alloc (by simp) _).alloc (by simp; omega) _
 have hbx : CbX R sv x y a e w.heap.size wb wb := by
   refine ⟨by rw [hwb]; exact ((Blk.new w _ _).alloc _).alloc _, ?_, ?_, Below.refl _ _⟩
   · rw [hwb]
     have := (Blk.new (w.alloc (.cells (refA R sv) 54)) 23 #[.int .i64 x, .int .i64 y, .int .i64 a, .int .i64 e]).alloc (.cells zeroT 54)
     rwa [World.size_alloc] at this
   · rw [hwb]
     have := Blk.new ((w.alloc (.cells (refA R sv) 54)).alloc (.cells #[.int .i64 x, .int .i64 y, .int .i64 a, .int .i64 e] 23)) 54 zeroT
     rwa [World.size_alloc, World.size_alloc] at this
 obtain ⟨b, hb⟩ : ∃ b, b = isL L par := ⟨_, rfl⟩
 obtain ⟨q, hq⟩ : ∃ q, q = rightB x y a e := ⟨_, rfl⟩
 obtain ⟨p, c, hsv⟩ := OwK.slice h
 obtain ⟨n, hn⟩ : ∃ n, n = L.length := ⟨_, rfl⟩
 have HI := Lib.hid (show Calls Tryz.prog 59 #[refV R sv, .int .i64 par] wb fun e w' => e = .returned (.bool b) ∧ Below wb.heap.size wb w' from by rw [hb]; exact is_c (h.rd.below hbel) hL par)
 have HQ := Lib.hid (fun W => (show Calls Tryz.prog 35 #[.agg #[.int .i64 x, .int .i64 y, .int .i64 a, .int .i64 e]] W fun e w' => e = .returned (.bool q) ∧ Below W.heap.size W w' from by rw [hq]; exact rright_c _ _ _ _ W))
 rw [← hb, ← hq, ← hn] at hk
 rw [← hn] at hsv
 have HF := Lib.hid (fun W (hW : Below w.heap.size w W) => (show RO W sv L from OwK.below h hW))
 obtain ⟨⟨x0, x1, x2, x3, x4, x5⟩, -⟩ := hbx.1.at6
 have H0 := Lib.hid hbx
 have HB := Lib.hid hbel
 have HW := Lib.hid hwb
 subst hsv
 have hn0 : (n : Int) ≤ 1048576 := by omega
 clear h hbel hbx hb hq hn
 rcases hk with ⟨rfl, rfl⟩ | ⟨rfl, rfl, rfl⟩ | ⟨rfl, rfl, hn1, rfl⟩
 · go_enter Tryz.func62, Tryz.ntmps62
   go_upto_region 1 with fail
   rw [← HW.out]
   clear hwb
   go_wp2_with (go_at_call 59; ((with_reducible refine (HI.out).mono ?_); rintro e w1 ⟨rfl, hb⟩); have H1 := Lib.hid (H0.out.next hb); obtain ⟨⟨x0, x1, x2, x3, x4, x5⟩, -⟩ := H1.out.1.at6; obtain ⟨⟨z0, z1, z2, z3, z4, z5⟩, ⟨f0, f1, f2, f3, f4, f5⟩⟩ := H1.out.2.2.1.at6; clear hb)
   refine bodyPost_ret (v := .tuple #[refV R (.slice p n c), .int .i64 0, .int .i64 6]) (by simp [results, Tryz.results62, go_sem, z0, z1, z2, z3, z4, z5]) rfl ?_
   have hb := set6 (H1.out.2.2.2.on HB.out HB.out.size) (g := w.heap.size + 1 + 1) (by omega) (.int .i64 R.x) (.int .i64 R.y) (.int .i64 R.w) (.int .i64 R.h) (.int .i64 R.last) (.slice p n c)
   exact ⟨_, rfl, HF.out _ hb, hb⟩
 · go_enter Tryz.func62, Tryz.ntmps62
   go_upto_region 1 with fail
   rw [← HW.out]
   clear hwb
   go_wp2_with (first
     | (go_at_call 59; ((with_reducible refine (HI.out).mono ?_); rintro e w1 ⟨rfl, hb⟩); have H1 := Lib.hid (H0.out.next hb); obtain ⟨⟨r0, r1, r2, r3⟩, -⟩ := H1.out.2.1.c4; clear hb)
     | (go_at_call 35; ((with_reducible refine (HQ.out _).mono ?_); rintro e w2 ⟨rfl, hb⟩); have H2 := Lib.hid (H1.out.next hb); obtain ⟨⟨x0, x1, x2, x3, x4, x5⟩, -⟩ := H2.out.1.at6; obtain ⟨⟨z0, z1, z2, z3, z4, z5⟩, ⟨f0, f1, f2, f3, f4, f5⟩⟩ := H2.out.2.2.1.at6; clear hb))
   refine bodyPost_ret (v := .tuple #[refV R (.slice p n c), .int .i64 0, .int .i64 10]) (by simp [results, Tryz.results62, go_sem, z0, z1, z2, z3, z4, z5]) rfl ?_
   have hb := set6 (H2.out.2.2.2.on HB.out HB.out.size) (g := w.heap.size + 1 + 1) (by omega) (.int .i64 R.x) (.int .i64 R.y) (.int .i64 R.w) (.int .i64 R.h) (.int .i64 R.last) (.slice p n c)
   exact ⟨_, rfl, HF.out _ hb, hb⟩
 · have hn2 : (1024 : Int) ≤ (n : Int) := by omega
   go_enter Tryz.func62, Tryz.ntmps62
   go_upto_region 1 with fail
   rw [← HW.out]
   clear hwb
   go_wp2_with (first
     | (go_at_call 59; ((with_reducible refine (HI.out).mono ?_); rintro e w1 ⟨rfl, hb⟩); have H1 := Lib.hid (H0.out.next hb); obtain ⟨⟨r0, r1, r2, r3⟩, -⟩ := H1.out.2.1.c4; clear hb)
     | (go_at_call 35; ((with_reducible refine (HQ.out _).mono ?_); rintro e w2 ⟨rfl, hb⟩); have H2 := Lib.hid (H1.out.next hb); obtain ⟨⟨x0, x1, x2, x3, x4, x5⟩, -⟩ := H2.out.1.at6; obtain ⟨⟨z0, z1, z2, z3, z4, z5⟩, ⟨f0, f1, f2, f3, f4, f5⟩⟩ := H2.out.2.2.1.at6; clear hb))
   refine bodyPost_ret (v := .tuple #[refV R (.slice p n c), .int .i64 0, .int .i64 2]) (by simp [results, Tryz.results62, go_sem, z0, z1, z2, z3, z4, z5]) rfl ?_
   have hb := set6 (H2.out.2.2.2.on HB.out HB.out.size) (g := w.heap.size + 1 + 1) (by omega) (.int .i64 R.x) (.int .i64 R.y) (.int .i64 R.w) (.int .i64 R.h) (.int .i64 R.last) (.slice p n c)
   exact ⟨_, rfl, HF.out _ hb, hb⟩
end
end Go.Proofs.YtnhchpiafchdgaaGreat
end
section
namespace Go.Proofs.YtnhchpiafchdgaaGreat
open Go.RowKit Go.Shelf Go.Maps
theorem own_zero {w : World} {g B : Nat} (h : Blk w g 61 #[]) (hB : B ≤ g) : w.ownsRow B 61 7 (.slice (some ⟨g, 0, none⟩) 0 0) 0 [] :=
 ⟨rfl, .inr ⟨g, 0, _, rfl, hB, h, Nat.le_refl _, by decide, rfl, rfl⟩⟩
theorem cell6 {w : World} {g : Nat} {p : Addr} (hp : p.block ≠ g) (v0 v1 v2 v3 v4 v5 : Value) : ((((((w.setCell ⟨g, 0, none⟩ v0).setCell ⟨g, 1, none⟩ v1).setCell ⟨g, 2, none⟩ v2).setCell ⟨g, 3, none⟩ v3).setCell ⟨g, 4, none⟩ v4).setCell ⟨g, 5, none⟩ v5).cell? p = w.cell? p := by
 refine World.cell?_of_block ?_
 rw [Below.heap_setCell _ _ _ _ hp, Below.heap_setCell _ _ _ _ hp, Below.heap_setCell _ _ _ _ hp, Below.heap_setCell _ _ _ _ hp, Below.heap_setCell _ _ _ _ hp, Below.heap_setCell _ _ _ _ hp]
theorem own_sl {w : World} {B : Nat} {v : Value} {L : List Win} (h : OwK encW 61 7 w B v L) : ∃ p m c, v = .slice p m c := by
 obtain ⟨p, c, e⟩ := OwK.slice h
 exact ⟨p, _, c, e⟩
theorem row1 {w : World} {g B : Nat} {v : Value} {L : List Win} (h : OwK encW 61 7 w B v L) (hg : ∀ k, v.ownBlock = some k → k ≠ g) (i : Nat) (u : Value) : OwK encW 61 7 (w.setCell ⟨g, i, none⟩ u) B v L :=
 OwK.grown (row := some g) h ⟨rfl, rfl, rfl, by simp [World.setCell], fun j hj hn => Below.heap_setCell w _ _ j (fun e => hn (by rw [e]))⟩ (by cases hv : v.ownBlock with | none => exact .inl rfl | some k => exact .inr (fun e => hg k hv (by injection e)))
theorem row6 {w : World} {g B : Nat} {v : Value} {L : List Win} {T : TypeId} {cs : Array Value} (h : OwK encW 61 7 w B v L) (_hb : Blk w g T cs) (hg : ∀ k, v.ownBlock = some k → k ≠ g) (v0 v1 v2 v3 v4 v5 : Value) : OwK encW 61 7 ((((((w.setCell ⟨g, 0, none⟩ v0).setCell ⟨g, 1, none⟩ v1).setCell ⟨g, 2, none⟩ v2).setCell ⟨g, 3, none⟩ v3).setCell ⟨g, 4, none⟩ v4).setCell ⟨g, 5, none⟩ v5) B v L := by
 exact row1 (row1 (row1 (row1 (row1 (row1 h hg 0 v0) hg 1 v1) hg 2 v2) hg 3 v3) hg 4 v4) hg 5 v5
section
variable {w : World} {R : RT} {sv : Value} {L : List Win}
set_option maxRecDepth 100000 in
set_option maxHeartbeats 1000000 in
theorem rcreate_yes (h : RO w sv L) (hL : L.length ≤ 1048576) {par x y a e : Int} (hk : isL L par = true ∧ rightB x y a e = true ∧ L.length < 1024) {id : Int} (hid : wrap64 (R.last + 1) = id) :
   Calls Tryz.prog 62 #[refV R sv, .int .i64 par, .agg #[.int .i64 x, .int .i64 y, .int .i64 a, .int .i64 e]] w fun ex w' => CrR w { R with last := id } (L ++ [⟨id, par, x, y, a, e, false⟩]) id 0 ex w' := by
 obtain ⟨wb, hwb⟩ : ∃ wb, wb = ((w.alloc (.cells (refA R sv) 54)).alloc (.cells #[.int .i64 x, .int .i64 y, .int .i64 a, .int .i64 e] 23)).alloc (.cells zeroT 54) := ⟨_, rfl⟩
 have hbel : Below w.heap.size w wb := by rw [hwb]; exact (((Below.refl _ _).alloc (Nat.le_refl _) _).alloc (by simp) _).alloc (by simp; omega) _
 have hbx : CbX R sv x y a e w.heap.size wb wb := by
   refine ⟨by rw [hwb]; exact ((Blk.new w _ _).alloc _).alloc _, ?_, ?_, Below.refl _ _⟩
   · rw [hwb]
     have := (Blk.new (w.alloc (.cells (refA R sv) 54)) 23 #[.int .i64 x, .int .i64 y, .int .i64 a, .int .i64 e]).alloc (.cells zeroT 54)
     rwa [World.size_alloc] at this
   · rw [hwb]
     have := Blk.new ((w.alloc (.cells (refA R sv) 54)).alloc (.cells #[.int .i64 x, .int .i64 y, .int .i64 a, .int .i64 e] 23)) 54 zeroT
     rwa [World.size_alloc, World.size_alloc] at this
 obtain ⟨b, hb⟩ : ∃ b, b = isL L par := ⟨_, rfl⟩
 obtain ⟨q, hq⟩ : ∃ q, q = rightB x y a e := ⟨_, rfl⟩
 obtain ⟨p, c, hsv⟩ := OwK.slice h
 obtain ⟨n, hn⟩ : ∃ n, n = L.length := ⟨_, rfl⟩
 have HI := Lib.hid (show Calls Tryz.prog 59 #[refV R sv, .int .i64 par] wb fun e w' => e = .returned (.bool b) ∧ Below wb.heap.size wb w' from by rw [hb]; exact is_c (h.rd.below hbel) hL par)
 have HQ := Lib.hid (fun W => (show Calls Tryz.prog 35 #[.agg #[.int .i64 x, .int .i64 y, .int .i64 a, .int .i64 e]] W fun e w' => e = .returned (.bool q) ∧ Below W.heap.size W w' from by rw [hq]; exact rright_c _ _ _ _ W))
 rw [← hb, ← hq, ← hn] at hk
 rw [← hn] at hsv
 have HF := Lib.hid (fun W (hW : Below w.heap.size w W) => (show RO W sv L from OwK.below h hW))
 obtain ⟨⟨x0, x1, x2, x3, x4, x5⟩, -⟩ := hbx.1.at6
 have H0 := Lib.hid hbx
 have HB := Lib.hid hbel
 have HW := Lib.hid hwb
 subst hsv
 have HN := Lib.hid hn
 have hn0 : (n : Int) ≤ 1048576 := by omega
 clear h hbel hbx hb hq hn
 obtain ⟨rfl, rfl, hn1⟩ := hk
 have hn2 : (n : Int) < (1024 : Int) := by omega
 obtain ⟨i0, hi0, hz0, hz1, hz2⟩ := info_parts winInfo
 have W1 : IntKind.i64.wrap (R.last + 1) = id := by rw [← hid]; exact IntWalk.i64_left _
 clear hid
 go_enter Tryz.func62, Tryz.ntmps62
 go_upto_region 1 with fail
 rw [← HW.out]
 clear hwb
 go_upto_region 8 with (first
   | (go_at_call 59; ((with_reducible refine (HI.out).mono ?_); rintro e w1 ⟨rfl, hb⟩); have H1 := Lib.hid (H0.out.next hb); obtain ⟨⟨r0, r1, r2, r3⟩, -⟩ := H1.out.2.1.c4; clear hb)
   | (go_at_call 35; ((with_reducible refine (HQ.out _).mono ?_); rintro e w2 ⟨rfl, hb⟩); have H2 := Lib.hid (H1.out.next hb); obtain ⟨⟨x0, x1, x2, x3, x4, x5⟩, -⟩ := H2.out.1.at6; obtain ⟨⟨r0, r1, r2, r3⟩, -⟩ := H2.out.2.1.c4; clear hb))
 obtain ⟨w3, hw3⟩ : ∃ w3, w3 = w2.alloc (.cells #[.int .i64 id, .int .i64 par, .int .i64 x, .int .i64 y, .int .i64 a, .int .i64 e, .bool false] 61) := ⟨_, rfl⟩
 have hb3 : Below w2.heap.size w2 w3 := by rw [hw3]; exact (Below.refl _ _).alloc (Nat.le_refl _) _
 have hB3 : Blk w3 w2.heap.size 61 #[.int .i64 id, .int .i64 par, .int .i64 x, .int .i64 y, .int .i64 a, .int .i64 e, .bool false] := by rw [hw3]; exact Blk.new w2 _ _
 have H3 := Lib.hid (H2.out.next hb3)
 have HLN := Lib.hid (show L.length < 1024 from by have := HN.out; omega)
 have HFF := Lib.hid (fun W (hW : Below w3.heap.size w3 W) => (show RO W (.slice p n c) L from HF.out W ((H3.out.next hW).2.2.2.on HB.out HB.out.size)))
 have HSS := Lib.hid (fun W (hW : Below w3.heap.size w3 W) => (show ((W.cell? ⟨w.heap.size, 0, none⟩ = some (.int .i64 R.x) ∧ W.cell? ⟨w.heap.size, 1, none⟩ = some (.int .i64 R.y) ∧ W.cell? ⟨w.heap.size, 2, none⟩ = some (.int .i64 R.w) ∧ W.cell? ⟨w.heap.size, 3, none⟩ = some (.int .i64 R.h)) ∧ W.cell? ⟨w.heap.size, 5, none⟩ = some (.slice p n c)) ∧ W.cell? ⟨w2.heap.size, 0, none⟩ = some (.int .i64 id) ∧ W.cell? ⟨w2.heap.size, 1, none⟩ = some (.int .i64 par) ∧ W.cell? ⟨w2.heap.size, 2, none⟩ = some (.int .i64 x) ∧ W.cell? ⟨w2.heap.size, 3, none⟩ = some (.int .i64 y) ∧ W.cell? ⟨w2.heap.size, 4, none⟩ = some (.int .i64 a) ∧ W.cell? ⟨w2.heap.size, 5, none⟩ = some (.int .i64 e) ∧ W.cell? ⟨w2.heap.size, 6, none⟩ = some (.bool false) from by
   obtain ⟨⟨q0, q1, q2, q3, q4, q5⟩, -⟩ := (H3.out.next hW).1.at6
   obtain ⟨⟨j0, j1, j2, j3, j4, j5, j6⟩, -⟩ := (hB3.next hW).c7
   exact ⟨⟨⟨q0, q1, q2, q3⟩, q5⟩, j0, j1, j2, j3, j4, j5, j6⟩))
 have hlt2 := H2.out.2.2.1.lt
 have HS6 := Lib.hid (fun W (hW : Below w3.heap.size w3 W) (v0 v1 v2 v3 v4 v5 : Value) => (show (fun W => ((W.cell? ⟨w.heap.size, 0, none⟩ = some (.int .i64 R.x) ∧ W.cell? ⟨w.heap.size, 1, none⟩ = some (.int .i64 R.y) ∧ W.cell? ⟨w.heap.size, 2, none⟩ = some (.int .i64 R.w) ∧ W.cell? ⟨w.heap.size, 3, none⟩ = some (.int .i64 R.h)) ∧ W.cell? ⟨w.heap.size, 5, none⟩ = some (.slice p n c)) ∧ W.cell? ⟨w2.heap.size, 0, none⟩ = some (.int .i64 id) ∧ W.cell? ⟨w2.heap.size, 1, none⟩ = some (.int .i64 par) ∧ W.cell? ⟨w2.heap.size, 2, none⟩ = some (.int .i64 x) ∧ W.cell? ⟨w2.heap.size, 3, none⟩ = some (.int .i64 y) ∧ W.cell? ⟨w2.heap.size, 4, none⟩ = some (.int .i64 a) ∧ W.cell? ⟨w2.heap.size, 5, none⟩ = some (.int .i64 e) ∧ W.cell? ⟨w2.heap.size, 6, none⟩ = some (.bool false)) ((((((W.setCell ⟨w.heap.size + 1 + 1, 0, none⟩ v0).setCell ⟨w.heap.size + 1 + 1, 1, none⟩ v1).setCell ⟨w.heap.size + 1 + 1, 2, none⟩ v2).setCell ⟨w.heap.size + 1 + 1, 3, none⟩ v3).setCell ⟨w.heap.size + 1 + 1, 4, none⟩ v4).setCell ⟨w.heap.size + 1 + 1, 5, none⟩ v5) from by
   have hh := HSS.out W hW
   have n1 : w.heap.size ≠ w.heap.size + 1 + 1 := by omega
   have n2 : w2.heap.size ≠ w.heap.size + 1 + 1 := by omega
   dsimp only
   rw [cell6 n1, cell6 n1, cell6 n1, cell6 n1, cell6 n1, cell6 n2, cell6 n2, cell6 n2, cell6 n2, cell6 n2, cell6 n2, cell6 n2]
   exact hh))
 clear hlt2
 obtain ⟨⟨y0, y1, y2, y3, y4, y5⟩, -⟩ := H3.out.1.at6
 obtain ⟨⟨k0, k1, k2, k3, k4, k5, k6⟩, -⟩ := hB3.c7
 rw [← hw3]
 clear hw3 hb3 hB3
 refine wp_region_noPanic ?_
 refine wp_region_held_drew (S := fun wx => ((wx.cell? ⟨w.heap.size, 0, none⟩ = some (.int .i64 R.x) ∧ wx.cell? ⟨w.heap.size, 1, none⟩ = some (.int .i64 R.y) ∧ wx.cell? ⟨w.heap.size, 2, none⟩ = some (.int .i64 R.w) ∧ wx.cell? ⟨w.heap.size, 3, none⟩ = some (.int .i64 R.h)) ∧ wx.cell? ⟨w.heap.size, 5, none⟩ = some (.slice p n c)) ∧ wx.cell? ⟨w2.heap.size, 0, none⟩ = some (.int .i64 id) ∧ wx.cell? ⟨w2.heap.size, 1, none⟩ = some (.int .i64 par) ∧ wx.cell? ⟨w2.heap.size, 2, none⟩ = some (.int .i64 x) ∧ wx.cell? ⟨w2.heap.size, 3, none⟩ = some (.int .i64 y) ∧ wx.cell? ⟨w2.heap.size, 4, none⟩ = some (.int .i64 a) ∧ wx.cell? ⟨w2.heap.size, 5, none⟩ = some (.int .i64 e) ∧ wx.cell? ⟨w2.heap.size, 6, none⟩ = some (.bool false)) (by kernel_rfl) (by exact ⟨⟨⟨y0, y1, y2, y3⟩, y5⟩, k0, k1, k2, k3, k4, k5, k6⟩) (fun hHeld => ?_)
 refine tk 0 ?va0 rfl ?ya0 ?ra0
 case ya0 => (intro q h; (try dsimp only at h); go_simp; (try with_reducible rfl))
 (try simp only [Act.put, p1, p3, p4, p5, p6])
 refine tk 1 ?va1 rfl ?ya1 ?ra1
 case ya1 => (intro q h; (try dsimp only at h); go_simp; (try with_reducible rfl))
 (try simp only [Act.put, p1, p2, p3, p4, p5, p6])
 refine tk 2 ?va2 rfl ?ya2 ?ra2
 case ya2 => (intro q h; (try dsimp only at h); go_simp; (try with_reducible rfl))
 (try simp only [Act.put, p1, p2, p3, p4, p5, p6])
 refine tk 3 ?va3 rfl ?ya3 ?ra3
 case ya3 => (intro q h; (try dsimp only at h); go_simp; (try with_reducible rfl))
 (try simp only [Act.put, p1, p2, p3, p4, p5, p6])
 refine tk 5 ?va5 rfl ?ya5 ?ra5
 case ya5 => (intro q h; (try dsimp only at h); go_simp; (try with_reducible rfl))
 (try simp only [Act.put, p1, p2, p3, p4, p5, p6])
 refine tk 6 ?va6 rfl ?ya6 ?ra6
 case ya6 => (intro q h; (try dsimp only at h); go_simp; (try with_reducible rfl))
 (try simp only [Act.put, p1, p2, p3, p4, p5, p6])
 refine tk 8 ?va8 rfl ?ya8 ?ra8
 case ya8 => (intro q h; (try dsimp only at h); go_simp; (try with_reducible rfl))
 (try simp only [Act.put, p1, p2, p3, p4, p5, p6])
 refine tk 12 ?va12 rfl ?ya12 ?ra12
 case ya12 => (intro q h; (try dsimp only at h); go_simp; (try with_reducible rfl))
 (try simp only [Act.put, p1, p2, p3, p4, p5, p6])
 refine tk 13 ?va13 rfl ?ya13 ?ra13
 case ya13 => (intro q h; (try dsimp only at h); go_simp; (try with_reducible rfl))
 (try simp only [Act.put, p1, p2, p3, p4, p5, p6])
 refine wpAnyH_ready (rs := [4, 9]) (by kernel_rfl) (by simp) ?_
 refine AllReadyH.cons rfl (fun K hK => ?_) (AllReadyH.cons rfl (fun K hK => ?_) AllReadyH.nil)
 · go_simp
   have b4 := (Below.refl w3.heap.size w3).alloc (Below.refl w3.heap.size w3).size (.cells #[] 61)
   have e4 := own_zero ((Blk.new w3 61 #[])) (Below.refl w3.heap.size w3).size
   refine hK.out _ _ (by exact HSS.out _ b4.drew) (fun hHeld => ?_)
   clear hK K
   (try simp only [Act.put, p1, p2, p3, p4, p5, p6])
   refine wpAnyH_ready (rs := [7, 9]) (by kernel_rfl) (by simp) ?_
   refine AllReadyH.cons rfl (fun K hK => ?_) (AllReadyH.cons rfl (fun K hK => ?_) AllReadyH.nil)
   · refine step_app rfl (.tmp 34) (.tmp 36) 52 rfl w3.heap.size 61 i0 (.agg #[.int .i64 0, .int .i64 0, .int .i64 0, .int .i64 0, .int .i64 0, .int .i64 0, .bool false]) 7 56 Tryz.underlying52 hi0 hz0 hz1 hz2 rfl (by decide) _ _ _ (by rfl) (World.ownsRow.drew e4) _ _ _ _ (by rfl) (HFF.out _ b4.drew) (flatW_one _) (by unfold maxLen; have := HLN.out; simp; omega) (by have := HLN.out; simp; omega) b4.drew.size ?_
     intro v5 w5 ho5 hg5
     have OV : OwK encW 61 7 w5 w3.heap.size v5 L := by have h := ho5; rw [Nat.zero_add, List.nil_append] at h; exact h
     have b5 := below_only b4.drew hg5 b4.drew.size (fun k hk => (World.ownsRow.lt (World.ownsRow.drew e4) k hk).1)
     refine hK.out _ _ (by exact HSS.out _ b5) (fun hHeld => ?_)
     clear hK K
     (try simp only [Act.put, p1, p2, p3, p4, p5, p6])
     refine wpAnyH_ready (rs := [9]) (by kernel_rfl) (by simp) ?_
     refine AllReadyH.cons rfl (fun K hK => ?_) AllReadyH.nil
     go_simp
     have b9 := b5.alloc b5.size (.cells #[.int .i64 id, .int .i64 par, .int .i64 x, .int .i64 y, .int .i64 a, .int .i64 e, .bool false] 61)
     have o9 := own_one (v := ⟨id, par, x, y, a, e, false⟩) (Blk.new w5 61 #[.int .i64 id, .int .i64 par, .int .i64 x, .int .i64 y, .int .i64 a, .int .i64 e, .bool false])
     have OV9 := World.ownsRow.alloc OV (.cells #[.int .i64 id, .int .i64 par, .int .i64 x, .int .i64 y, .int .i64 a, .int .i64 e, .bool false] 61)
     refine hK.out _ _ (by exact HSS.out _ b9) (fun hHeld => ?_)
     clear hK K
     (try simp only [Act.put, p1, p2, p3, p4, p5, p6])
     refine wpAnyH_ready (rs := [10]) (by kernel_rfl) (by simp) ?_
     refine AllReadyH.cons rfl (fun K hK => ?_) AllReadyH.nil
     refine step_app rfl (.tmp 37) (.tmp 39) 52 rfl w3.heap.size 61 i0 (.agg #[.int .i64 0, .int .i64 0, .int .i64 0, .int .i64 0, .int .i64 0, .int .i64 0, .bool false]) 7 56 Tryz.underlying52 hi0 hz0 hz1 hz2 rfl (by decide) _ _ _ (by rfl) OV9 _ _ _ _ (by rfl) o9 (flatW_one _) (by unfold maxLen; have := HLN.out; simp; omega) (by have := HLN.out; simp; omega) b9.size ?_
     intro v7 w7 ho7 hg7
     have of7 := OwK.app (L := L) (M := [⟨id, par, x, y, a, e, false⟩]) ho7
     obtain ⟨p7, m7, c7, rfl⟩ := own_sl of7
     have OF := Lib.hid of7
     have b7 := below_only b9 hg7 b9.size (fun k hk => (World.ownsRow.lt OV9 k hk).1)
     have H7 := Lib.hid (H3.out.next b7)
     have B7 := Lib.hid b7
     refine hK.out _ _ (by exact HSS.out _ b7) (fun hHeld => ?_)
     clear hK K
     (try simp only [Act.put, p1, p2, p3, p4, p5, p6])
     clear b7 ho7 hg7 of7
     refine tk 11 ?vc11 rfl ?yc11 ?rc11
     case yc11 => (intro q h; (try dsimp only at h); go_simp; (try with_reducible rfl))
     (try simp only [Act.put, p1, p2, p3, p4, p5, p6])
     obtain ⟨⟨z0, z1, z2, z3, z4, z5⟩, ⟨f0, f1, f2, f3, f4, f5⟩⟩ := H7.out.2.2.1.at6
     refine wpAnyH_ready (rs := [14]) (by kernel_rfl) (by simp) ?_
     refine AllReadyH.cons rfl (fun K hK => ?_) AllReadyH.nil
     go_simp
     refine hK.out _ _ (by exact HS6.out _ B7.out _ _ _ _ _ _) (fun hHeld => ?_)
     clear hK K
     (try simp only [Act.put, p1, p2, p3, p4, p5, p6])
     refine tk 15 ?vc15 rfl ?yc15 ?rc15
     case yc15 => (intro q h; (try dsimp only at h); go_simp; (try with_reducible rfl))
     (try simp only [Act.put, p1, p2, p3, p4, p5, p6])
     refine tk 16 ?vc16 rfl ?yc16 ?rc16
     case yc16 => (intro q h; (try dsimp only at h); go_simp; (try with_reducible rfl))
     (try simp only [Act.put, p1, p2, p3, p4, p5, p6])
     refine wpAnyH_done (by kernel_rfl) ?_ _
     refine NoPanic.normal ?_
     go_wp2_with fail
     refine bodyPost_ret (v := .tuple #[refV { R with last := id } (.slice p7 m7 c7), .int .i64 id, .int .i64 0]) (by simp [results, Tryz.results62, go_sem, z0, z1, z2, z3, z4, z5]) rfl ?_
     have hb := set6 (H7.out.2.2.2.on HB.out HB.out.size) (g := w.heap.size + 1 + 1) (by omega) (.int .i64 R.x) (.int .i64 R.y) (.int .i64 R.w) (.int .i64 R.h) (.int .i64 id) (.slice p7 m7 c7)
     exact ⟨_, rfl, row6 (OwK.less OF.out (Nat.zero_le _)) H7.out.2.2.1 (fun k hk => by have h1 := (World.ownsRow.lt OF.out k hk).1; have h2 := H3.out.2.2.1.lt; omega) _ _ _ _ _ _, hb⟩
   · go_simp
     have b9 := b4.alloc b4.size (.cells #[.int .i64 id, .int .i64 par, .int .i64 x, .int .i64 y, .int .i64 a, .int .i64 e, .bool false] 61)
     have o9 := own_one (v := ⟨id, par, x, y, a, e, false⟩) (Blk.new (w3.alloc (.cells #[] 61)) 61 #[.int .i64 id, .int .i64 par, .int .i64 x, .int .i64 y, .int .i64 a, .int .i64 e, .bool false])
     rw [World.size_alloc] at o9
     have e9 := World.ownsRow.alloc e4 (.cells #[.int .i64 id, .int .i64 par, .int .i64 x, .int .i64 y, .int .i64 a, .int .i64 e, .bool false] 61)
     refine hK.out _ _ (by exact HSS.out _ b9.drew) (fun hHeld => ?_)
     clear hK K
     (try simp only [Act.put, p1, p2, p3, p4, p5, p6])
     refine wpAnyH_ready (rs := [7]) (by kernel_rfl) (by simp) ?_
     refine AllReadyH.cons rfl (fun K hK => ?_) AllReadyH.nil
     refine step_app rfl (.tmp 34) (.tmp 36) 52 rfl w3.heap.size 61 i0 (.agg #[.int .i64 0, .int .i64 0, .int .i64 0, .int .i64 0, .int .i64 0, .int .i64 0, .bool false]) 7 56 Tryz.underlying52 hi0 hz0 hz1 hz2 rfl (by decide) _ _ _ (by rfl) (World.ownsRow.drew e9) _ _ _ _ (by rfl) (HFF.out _ b9.drew) (flatW_one _) (by unfold maxLen; have := HLN.out; simp; omega) (by have := HLN.out; simp; omega) b9.drew.size ?_
     intro v5 w5 ho5 hg5
     have OV : OwK encW 61 7 w5 w3.heap.size v5 L := by have h := ho5; rw [Nat.zero_add, List.nil_append] at h; exact h
     have b5 := below_only b9.drew hg5 b9.drew.size (fun k hk => (World.ownsRow.lt (World.ownsRow.drew e9) k hk).1)
     have o5 := OwK.grown (World.ownsRow.drew o9) hg5 (.inr (by simp [Value.ownBlock]))
     refine hK.out _ _ (by exact HSS.out _ b5) (fun hHeld => ?_)
     clear hK K
     (try simp only [Act.put, p1, p2, p3, p4, p5, p6])
     refine wpAnyH_ready (rs := [10]) (by kernel_rfl) (by simp) ?_
     refine AllReadyH.cons rfl (fun K hK => ?_) AllReadyH.nil
     refine step_app rfl (.tmp 37) (.tmp 39) 52 rfl w3.heap.size 61 i0 (.agg #[.int .i64 0, .int .i64 0, .int .i64 0, .int .i64 0, .int .i64 0, .int .i64 0, .bool false]) 7 56 Tryz.underlying52 hi0 hz0 hz1 hz2 rfl (by decide) _ _ _ (by rfl) OV _ _ _ _ (by rfl) o5 (flatW_one _) (by unfold maxLen; have := HLN.out; simp; omega) (by have := HLN.out; simp; omega) b5.size ?_
     intro v7 w7 ho7 hg7
     have of7 := OwK.app (L := L) (M := [⟨id, par, x, y, a, e, false⟩]) ho7
     obtain ⟨p7, m7, c7, rfl⟩ := own_sl of7
     have OF := Lib.hid of7
     have b7 := below_only b5 hg7 b5.size (fun k hk => (World.ownsRow.lt OV k hk).1)
     have H7 := Lib.hid (H3.out.next b7)
     have B7 := Lib.hid b7
     refine hK.out _ _ (by exact HSS.out _ b7) (fun hHeld => ?_)
     clear hK K
     (try simp only [Act.put, p1, p2, p3, p4, p5, p6])
     clear b7 ho7 hg7 of7
     refine tk 11 ?vd11 rfl ?yd11 ?rd11
     case yd11 => (intro q h; (try dsimp only at h); go_simp; (try with_reducible rfl))
     (try simp only [Act.put, p1, p2, p3, p4, p5, p6])
     obtain ⟨⟨z0, z1, z2, z3, z4, z5⟩, ⟨f0, f1, f2, f3, f4, f5⟩⟩ := H7.out.2.2.1.at6
     refine wpAnyH_ready (rs := [14]) (by kernel_rfl) (by simp) ?_
     refine AllReadyH.cons rfl (fun K hK => ?_) AllReadyH.nil
     go_simp
     refine hK.out _ _ (by exact HS6.out _ B7.out _ _ _ _ _ _) (fun hHeld => ?_)
     clear hK K
     (try simp only [Act.put, p1, p2, p3, p4, p5, p6])
     refine tk 15 ?vd15 rfl ?yd15 ?rd15
     case yd15 => (intro q h; (try dsimp only at h); go_simp; (try with_reducible rfl))
     (try simp only [Act.put, p1, p2, p3, p4, p5, p6])
     refine tk 16 ?vd16 rfl ?yd16 ?rd16
     case yd16 => (intro q h; (try dsimp only at h); go_simp; (try with_reducible rfl))
     (try simp only [Act.put, p1, p2, p3, p4, p5, p6])
     refine wpAnyH_done (by kernel_rfl) ?_ _
     refine NoPanic.normal ?_
     go_wp2_with fail
     refine bodyPost_ret (v := .tuple #[refV { R with last := id } (.slice p7 m7 c7), .int .i64 id, .int .i64 0]) (by simp [results, Tryz.results62, go_sem, z0, z1, z2, z3, z4, z5]) rfl ?_
     have hb := set6 (H7.out.2.2.2.on HB.out HB.out.size) (g := w.heap.size + 1 + 1) (by omega) (.int .i64 R.x) (.int .i64 R.y) (.int .i64 R.w) (.int .i64 R.h) (.int .i64 id) (.slice p7 m7 c7)
     exact ⟨_, rfl, row6 (OwK.less OF.out (Nat.zero_le _)) H7.out.2.2.1 (fun k hk => by have h1 := (World.ownsRow.lt OF.out k hk).1; have h2 := H3.out.2.2.1.lt; omega) _ _ _ _ _ _, hb⟩
 · go_simp
   have b9 := (Below.refl w3.heap.size w3).alloc (Below.refl w3.heap.size w3).size (.cells #[.int .i64 id, .int .i64 par, .int .i64 x, .int .i64 y, .int .i64 a, .int .i64 e, .bool false] 61)
   have o9 := own_one (v := ⟨id, par, x, y, a, e, false⟩) (Blk.new w3 61 #[.int .i64 id, .int .i64 par, .int .i64 x, .int .i64 y, .int .i64 a, .int .i64 e, .bool false])
   refine hK.out _ _ (by exact HSS.out _ b9.drew) (fun hHeld => ?_)
   clear hK K
   (try simp only [Act.put, p1, p2, p3, p4, p5, p6])
   refine wpAnyH_ready (rs := [4]) (by kernel_rfl) (by simp) ?_
   refine AllReadyH.cons rfl (fun K hK => ?_) AllReadyH.nil
   go_simp
   have b4 := b9.alloc b9.size (.cells #[] 61)
   have e4 := own_zero (Blk.new (w3.alloc (.cells #[.int .i64 id, .int .i64 par, .int .i64 x, .int .i64 y, .int .i64 a, .int .i64 e, .bool false] 61)) 61 #[]) b9.size
   rw [World.size_alloc] at e4
   have o4 := World.ownsRow.alloc o9 (.cells #[] 61)
   refine hK.out _ _ (by exact HSS.out _ b4.drew) (fun hHeld => ?_)
   clear hK K
   (try simp only [Act.put, p1, p2, p3, p4, p5, p6])
   refine wpAnyH_ready (rs := [7]) (by kernel_rfl) (by simp) ?_
   refine AllReadyH.cons rfl (fun K hK => ?_) AllReadyH.nil
   refine step_app rfl (.tmp 34) (.tmp 36) 52 rfl w3.heap.size 61 i0 (.agg #[.int .i64 0, .int .i64 0, .int .i64 0, .int .i64 0, .int .i64 0, .int .i64 0, .bool false]) 7 56 Tryz.underlying52 hi0 hz0 hz1 hz2 rfl (by decide) _ _ _ (by rfl) (World.ownsRow.drew e4) _ _ _ _ (by rfl) (HFF.out _ b4.drew) (flatW_one _) (by unfold maxLen; have := HLN.out; simp; omega) (by have := HLN.out; simp; omega) b4.drew.size ?_
   intro v5 w5 ho5 hg5
   have OV : OwK encW 61 7 w5 w3.heap.size v5 L := by have h := ho5; rw [Nat.zero_add, List.nil_append] at h; exact h
   have b5 := below_only b4.drew hg5 b4.drew.size (fun k hk => (World.ownsRow.lt (World.ownsRow.drew e4) k hk).1)
   have o5 := OwK.grown (World.ownsRow.drew o4) hg5 (.inr (by simp [Value.ownBlock]))
   refine hK.out _ _ (by exact HSS.out _ b5) (fun hHeld => ?_)
   clear hK K
   (try simp only [Act.put, p1, p2, p3, p4, p5, p6])
   refine wpAnyH_ready (rs := [10]) (by kernel_rfl) (by simp) ?_
   refine AllReadyH.cons rfl (fun K hK => ?_) AllReadyH.nil
   refine step_app rfl (.tmp 37) (.tmp 39) 52 rfl w3.heap.size 61 i0 (.agg #[.int .i64 0, .int .i64 0, .int .i64 0, .int .i64 0, .int .i64 0, .int .i64 0, .bool false]) 7 56 Tryz.underlying52 hi0 hz0 hz1 hz2 rfl (by decide) _ _ _ (by rfl) OV _ _ _ _ (by rfl) o5 (flatW_one _) (by unfold maxLen; have := HLN.out; simp; omega) (by have := HLN.out; simp; omega) b5.size ?_
   intro v7 w7 ho7 hg7
   have of7 := OwK.app (L := L) (M := [⟨id, par, x, y, a, e, false⟩]) ho7
   obtain ⟨p7, m7, c7, rfl⟩ := own_sl of7
   have OF := Lib.hid of7
   have b7 := below_only b5 hg7 b5.size (fun k hk => (World.ownsRow.lt OV k hk).1)
   have H7 := Lib.hid (H3.out.next b7)
   have B7 := Lib.hid b7
   refine hK.out _ _ (by exact HSS.out _ b7) (fun hHeld => ?_)
   clear hK K
   (try simp only [Act.put, p1, p2, p3, p4, p5, p6])
   clear b7 ho7 hg7 of7
   refine tk 11 ?ve11 rfl ?ye11 ?re11
   case ye11 => (intro q h; (try dsimp only at h); go_simp; (try with_reducible rfl))
   (try simp only [Act.put, p1, p2, p3, p4, p5, p6])
   obtain ⟨⟨z0, z1, z2, z3, z4, z5⟩, ⟨f0, f1, f2, f3, f4, f5⟩⟩ := H7.out.2.2.1.at6
   refine wpAnyH_ready (rs := [14]) (by kernel_rfl) (by simp) ?_
   refine AllReadyH.cons rfl (fun K hK => ?_) AllReadyH.nil
   go_simp
   refine hK.out _ _ (by exact HS6.out _ B7.out _ _ _ _ _ _) (fun hHeld => ?_)
   clear hK K
   (try simp only [Act.put, p1, p2, p3, p4, p5, p6])
   refine tk 15 ?ve15 rfl ?ye15 ?re15
   case ye15 => (intro q h; (try dsimp only at h); go_simp; (try with_reducible rfl))
   (try simp only [Act.put, p1, p2, p3, p4, p5, p6])
   refine tk 16 ?ve16 rfl ?ye16 ?re16
   case ye16 => (intro q h; (try dsimp only at h); go_simp; (try with_reducible rfl))
   (try simp only [Act.put, p1, p2, p3, p4, p5, p6])
   refine wpAnyH_done (by kernel_rfl) ?_ _
   refine NoPanic.normal ?_
   go_wp2_with fail
   refine bodyPost_ret (v := .tuple #[refV { R with last := id } (.slice p7 m7 c7), .int .i64 id, .int .i64 0]) (by simp [results, Tryz.results62, go_sem, z0, z1, z2, z3, z4, z5]) rfl ?_
   have hb := set6 (H7.out.2.2.2.on HB.out HB.out.size) (g := w.heap.size + 1 + 1) (by omega) (.int .i64 R.x) (.int .i64 R.y) (.int .i64 R.w) (.int .i64 R.h) (.int .i64 id) (.slice p7 m7 c7)
   exact ⟨_, rfl, row6 (OwK.less OF.out (Nat.zero_le _)) H7.out.2.2.1 (fun k hk => by have h1 := (World.ownsRow.lt OF.out k hk).1; have h2 := H3.out.2.2.1.lt; omega) _ _ _ _ _ _, hb⟩
end
end Go.Proofs.YtnhchpiafchdgaaGreat
end
