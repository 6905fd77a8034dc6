/- order.Owners, bands, Bands, walked. -/
import Derived.Test.YtgioeijdgoogkaaOdG
import Derived.Deep.LoopGhost
namespace Go.Proofs.Ytgioeijdgoogkaa.Od
open Go.RowKit Go.Maps
theorem bdo_nn (l : List It) : ∀ (k : Nat) (o : Option Int), 0 ≤ bdo l k o
  | 0, _ => Int.le_refl _
  | _ + 1, none => Int.le_refl _
  | k + 1, some c => Int.le_trans (bdo_nn l k (ow l c)) (Int.le_max_right ..)
theorem encp_of {l : List It} (hd : Dis l) {j : Nat} {x : It} (hx : l[j]? = some x) : encp l (some x.c) = (j : Int) := by show (((cl l).idxOf x.c : Nat) : Int) = j; rw [idx_at hd hx]
def OkI (l : List It) : Prop := ∀ (j : Nat) (t : It), l[j]? = some t → I64 t.c ∧ I64 t.o
set_option maxHeartbeats 4000000 in
set_option maxRecDepth 100000 in
theorem Owners_c (v0 : Value) (l : List It) (w : World) (hR : RdT w v0 l) (hs : OkI l) :
    Calls Try.prog 12 #[v0] w fun e w' => ∃ v zs, e = .returned v ∧ RdI w' v zs ∧ OwnR l zs ∧ Below w.heap.size w w' := by
  have HK := Lib.hid (Check_c v0 l w hR fun j t h => (hs j t h).1)
  have HOW := Lib.hid (fun (W : World) (h : Below w.heap.size w W) hd hn => owners_c v0 l W (hR.below h) hd hn hs)
  have hR0 := hR
  obtain ⟨p, c, rfl, -⟩ := hR
  have HR := Lib.hid hR0
  obtain ⟨n, hln⟩ : ∃ n, n = l.length := ⟨_, rfl⟩
  rw [← hln] at HK HOW HR ⊢
  have HN := Lib.hid hln
  clear hR0 hs hln
  go_enter Try.func12, Try.ntmps12
  go_wp2_with fail
  refine HK.out.mono ?_
  rintro e w1 ⟨z, rfl, hz, hb⟩
  have HZ := Lib.hid hz
  have HB1 := Lib.hid hb
  clear hz hb HK
  by_cases hz0 : z = 0
  rotate_left
  · have e1 : (z == 0) = false := by simpa using hz0
    have HO : Hid (OwnR l []) := ⟨z, HZ.out, .inl ⟨hz0, rfl⟩⟩
    go_wp2_with fail
    go_ret
    exact ⟨_, _, rfl, RdI.nil _ _, HO.out, HB1.out⟩
  · have HG := Lib.hid (HZ.out.good hz0)
    have HO : Hid (OwnR l (l.map (owI l))) := ⟨z, HZ.out, .inr ⟨hz0, rfl⟩⟩
    subst hz0
    have hn128 : n ≤ 128 := by have := HN.out; have := HG.out.1; omega
    have hmk := fun W => make_c n hn128 W
    obtain ⟨w2, hw2⟩ : ∃ w2, w2 = w1.alloc (.cells (arrI (List.replicate n 0)) 3) := ⟨_, rfl⟩
    have hQ2 : Blk w2 w1.heap.size 3 (arrI (List.replicate n 0)) := by rw [hw2]; exact Blk.new _ _ _
    have hB2 : Below w.heap.size w w2 := by rw [hw2]; exact HB1.out.alloc HB1.out.size _
    obtain ⟨g, hg⟩ : ∃ g, g = w1.heap.size := ⟨_, rfl⟩
    have HGW : Hid (w.heap.size ≤ g) := by rw [hg]; exact HB1.out.size
    rw [← hg] at hQ2
    have HQ2 := Lib.hid hQ2
    have HB2 := Lib.hid hB2
    have HW2 := Lib.hid hw2
    have HGG := Lib.hid hg
    have HCL := Lib.hid (HOW.out w2 hB2 HG.out.2.1 hn128)
    clear hQ2 hB2 hw2 hg HOW
    go_upto_region 4 with fail
    rewrite [← HW2.out, ← HGG.out]
    clear HW2 HGG hmk
    go_wp2_with fail
    with_reducible refine HCL.out.mono ?_
    rintro e w3 ⟨g2, rfl, hQo, hgo, hb3⟩
    go_upto_region 5 with fail
    have hQ3 := HQ2.out.next hb3
    have hB3 := HB2.out.trans (hb3.mono HB2.out.size)
    have hne : g ≠ g2 := by have := HQ2.out.lt; omega
    have HNE := Lib.hid hne
    clear hb3 hgo hne
    have hst := Half.start l (owI l)
    rw [← HN.out] at hst
    go_loopw [15] (fun z wr => ∃ (k : Nat) (zs : List Int), k ≤ n ∧ z = .int .i64 k ∧ Below w.heap.size w wr ∧ Blk wr g2 3 (arrI (ofL l (ow l))) ∧ Blk wr g 3 (arrI zs) ∧ Asd (Half l (owI l) k zs)) (fun z _ => n - (intOf z).toNat)
    case atStart => exact ⟨0, _, Nat.zero_le _, rfl, hB3, hQo, hQ3, hst⟩
    case round =>
      clear hB3 hQo hQ3 hst
      obtain ⟨k, zs, hk, rfl, hB, hQo, hQ, hA⟩ := hrel
      have HA := Lib.hid (show Half l (owI l) k zs from hA)
      clear hA
      by_cases hlt : k < n
      · obtain ⟨x, hx⟩ : ∃ x, l[k]? = some x := ⟨_, List.getElem?_eq_getElem (by rw [← HN.out]; exact hlt)⟩
        obtain ⟨bb, o, rfl, hRB⟩ := HR.out.open hx
        have hi0 : (0 : Int) ≤ (k : Int) := by omega
        have hi1 : (k : Int) < (n : Int) := by omega
        have c0 := hQo.at_ (arrI_at (ofL_at hx))
        have hz0 := HA.out.2.2 k (Nat.le_refl _) (by rw [← HN.out]; exact hlt)
        have c1 := hQ.at_ (arrI_at hz0)
        have f1 := hQ.frozen k
        have HX := Lib.hid hx
        have HBh := Lib.hid hB
        have HQh := Lib.hid hQ
        have HQoh := Lib.hid hQo
        cases ho : ow l x.c with
        | none =>
          rw [ho] at c0
          have c0 : wr.cell? ⟨g2, k, none⟩ = some (.int .i64 (-1)) := c0
          have HH := Lib.hid (HA.out.put hx (z := 0) (by unfold owI; rw [ho]; rfl))
          rw [HA.out.same (by rw [← HN.out]; exact hlt)] at HH
          clear hx hRB hB hQ hQo ho hz0
          go_wp2_with fail
          go_roundw
          case rel => exact ⟨k + 1, _, by omega, by go_num, HBh.out, HQoh.out, HQh.out, HH.out⟩
          case measure => simp [intOf]; omega
        | some d =>
          obtain ⟨j, y, hj, hyc, e1, hjn, -⟩ := cl_at HG.out.2.1 (ow_cl _ _ ho)
          rw [ho, e1] at c0
          obtain ⟨y0, y1, y2, y3, y4, y5⟩ := (hRB.below hB).get hj
          have HH := Lib.hid (HA.out.put hx (z := y.c) (by unfold owI; rw [ho, hyc]; rfl))
          have hj0 : (0 : Int) ≤ (j : Int) := by omega
          have hj1 : (j : Int) < (n : Int) := by have := HN.out; omega
          have e2 : ¬ ((j : Int) = -1) := by omega
          have e3 : ((j : Int) == -1) = false := by simp
          have HQ9 : Hid (Blk (wr.setCell ⟨g, k, none⟩ (.int .i64 y.c)) g 3 (arrI (zs.set k y.c))) := by rw [← arrI_set]; exact hQ.set_ k _
          have HQo9 := Lib.hid (hQo.far (p := ⟨g, k, none⟩) HNE.out.symm (.int .i64 y.c))
          have HB9 := Lib.hid (Below.setCell (p := ⟨g, k, none⟩) hB HGW.out (.int .i64 y.c))
          clear hx hRB hB hQ hQo ho hz0 hj hyc e1 hjn
          go_wp2_with fail
          go_roundw
          case rel => exact ⟨k + 1, _, by omega, by go_num, HB9.out, HQo9.out, HQ9.out, HH.out⟩
          case measure => simp [intOf]; omega
      · obtain rfl : k = n := by omega
        have hd : zs = l.map (owI l) := by have := HA.out; rw [HN.out] at this; exact this.done
        have HRD : Hid (RdI wr (.slice (some ⟨g, 0, none⟩) k k) zs) := RdI.blk hQ (by rw [HA.out.1, HN.out])
        have HO2 : Hid (OwnR l zs) := hd ▸ HO.out
        clear hd
        go_wp2_with fail
        go_ret
        exact ⟨_, _, rfl, HRD.out, HO2.out, hB⟩
set_option maxHeartbeats 4000000 in
set_option maxRecDepth 100000 in
theorem bands_c (v0 : Value) (l : List It) (g2 c2 : Nat) (w : World) (hR : RdT w v0 l) (hd : Dis l) (hn : l.length ≤ 128) (hQo : Blk w g2 3 (arrI (ofL l (ow l)))) :
    Calls Try.prog 27 #[v0, .slice (some ⟨g2, 0, none⟩) l.length c2] w fun e w' => ∃ g, e = .returned (.slice (some ⟨g, 0, none⟩) l.length l.length) ∧ Blk w' g 3 (arrI (l.map fun x => bd l x.c)) ∧ w.heap.size ≤ g ∧ Below w.heap.size w w' := by
  have hR0 := hR
  obtain ⟨p, c, rfl, -⟩ := hR
  have HR := Lib.hid hR0
  have HD := Lib.hid hd
  have hst := Half.start l (fun x => bd l x.c)
  obtain ⟨n, hln⟩ : ∃ n, n = l.length := ⟨_, rfl⟩
  rw [← hln] at HR hn hst ⊢
  have HN := Lib.hid hln
  have hmk := fun W => make_c n hn W
  obtain ⟨w2, hw2⟩ : ∃ w2, w2 = w.alloc (.cells (arrI (List.replicate n 0)) 3) := ⟨_, rfl⟩
  have hQ2 : Blk w2 w.heap.size 3 (arrI (List.replicate n 0)) := by rw [hw2]; exact Blk.new _ _ _
  have hQo2 : Blk w2 g2 3 (arrI (ofL l (ow l))) := by rw [hw2]; exact hQo.alloc _
  have hB2 : Below w.heap.size w w2 := by rw [hw2]; exact (Below.refl _ _).alloc (Nat.le_refl _) _
  have hne : w.heap.size ≠ g2 := by have := hQo.lt; omega
  have HNE := Lib.hid hne
  have HW2 := Lib.hid hw2
  clear hR0 hd hln hQo hw2 hne
  go_enter Try.func27, Try.ntmps27
  go_upto_region 3 with fail
  rewrite [← HW2.out]
  clear HW2 hmk
  go_loopw [13] (fun z wr => ∃ (k : Nat) (zs : List Int), k ≤ n ∧ z = .int .i64 k ∧ Below w.heap.size w wr ∧ Blk wr g2 3 (arrI (ofL l (ow l))) ∧ Blk wr w.heap.size 3 (arrI zs) ∧ Asd (Half l (fun x => bd l x.c) k zs)) (fun z _ => n - (intOf z).toNat)
  case atStart => exact ⟨0, _, Nat.zero_le _, rfl, hB2, hQo2, hQ2, hst⟩
  case round =>
    clear hB2 hQo2 hQ2 hst
    obtain ⟨k, zs, hk, rfl, hB, hQo, hQ, hA⟩ := hrel
    have HA := Lib.hid (show Half l (fun x => bd l x.c) k zs from hA)
    clear hA
    by_cases hlt : k < n
    · obtain ⟨x, hx⟩ : ∃ x, l[k]? = some x := ⟨_, List.getElem?_eq_getElem (by rw [← HN.out]; exact hlt)⟩
      obtain ⟨bb, o, rfl, hRB⟩ := HR.out.open hx
      have hi0 : (0 : Int) ≤ (k : Int) := by omega
      have hi1 : (k : Int) < (n : Int) := by omega
      have hkl : k < l.length := by rw [← HN.out]; exact hlt
      have hQ' : Blk wr w.heap.size 3 (arrI (zs.set k 0)) := by rw [HA.out.same hkl]; exact hQ
      have hxc : x.c ∈ cl l := List.mem_map.2 ⟨x, List.mem_of_getElem? hx, rfl⟩
      have he := encp_of HD.out hx
      have h0 : max 0 (bdo l l.length (some x.c)) = bd l x.c := Int.max_eq_right (bdo_nn l _ _)
      have h1 : (some x.c).bind (itr (ow l) l.length) = none := ow_ends hxc
      have HX := Lib.hid hx
      have HRB := Lib.hid hRB
      have HXC := Lib.hid hxc
      have HKL := Lib.hid (show k < zs.length by rw [HA.out.1]; exact hkl)
      have HB := Lib.hid hB
      have HQo := Lib.hid hQo
      have HQ' := Lib.hid hQ'
      have H0 := Lib.hid h0
      have H1 := Lib.hid h1
      have HE := Lib.hid he
      clear hx hRB hQ hQ' hxc he h0 h1 hB hQo hkl
      obtain ⟨wo, hwo⟩ : ∃ wo, wo = wr := ⟨_, rfl⟩
      subst hwo
      go_upto_region 6 with fail
      go_loopg [7] l.length (fun m z wr => ∃ (oo : Option Int) (acc : Int), z = .int .i64 (encp l oo) ∧ Below w.heap.size w wr ∧ Blk wr g2 3 (arrI (ofL l (ow l))) ∧ Blk wr w.heap.size 3 (arrI (zs.set k acc)) ∧ Asd (∀ a, oo = some a → a ∈ cl l) ∧ Asd (oo.bind (itr (ow l) m) = none) ∧ Asd (max acc (bdo l m oo) = bd l x.c) ∧ 0 ≤ acc)
      case atStart => exact ⟨some x.c, 0, by rw [HE.out], HB.out, HQo.out, HQ'.out, fun a h => (Option.some.inj h) ▸ HXC.out, H1.out, H0.out, Int.le_refl _⟩
      case round =>
        clear HB HQo HQ' HE H0 H1
        obtain ⟨oo, acc, rfl, hB, hQo, hQ, hA1, hA2, hA3, hacc⟩ := hrel
        have HA1 := Lib.hid (show ∀ a, oo = some a → a ∈ cl l from hA1)
        have HA2 := Lib.hid (show oo.bind (itr (ow l) gk) = none from hA2)
        have HA3 := Lib.hid (show max acc (bdo l gk oo) = bd l x.c from hA3)
        clear hA1 hA2 hA3
        cases oo with
        | none =>
          have e1 : encp l none = -1 := rfl
          rw [e1]
          have HH := Lib.hid (HA.out.put HX.out (z := acc) (by
            have := HA3.out
            rw [bdo_none, Int.max_eq_left hacc] at this
            exact this))
          go_wp2_with fail
          go_roundw
          case rel => exact ⟨k + 1, _, by omega, by go_num, hB, hQo, hQ, HH.out⟩
          case measure => simp [intOf]; omega
        | some c =>
          obtain ⟨m, hm⟩ : ∃ m, gk = m + 1 := by
            cases gk with
            | zero => have := HA2.out; simp [itr] at this
            | succ m => exact ⟨m, rfl⟩
          subst hm
          obtain ⟨j, y, hj, hyc, e1, hjn, -⟩ := cl_at HD.out (HA1.out c rfl)
          rw [e1]
          have hj0 : (0 : Int) ≤ (j : Int) := by omega
          have hj1 : (j : Int) < (n : Int) := by have := HN.out; omega
          have e2 : ¬ ((j : Int) = -1) := by omega
          have e3 : ((j : Int) == -1) = false := by simp
          have hyb : (it l c).b = y.b := by rw [← hyc, HD.out.it (List.mem_of_getElem? hj)]
          have HN2 : Hid ((ow l c).bind (itr (ow l) m) = none) := HA2.out
          have HN3 : Hid (max (max acc y.b) (bdo l m (ow l c)) = bd l x.c) := by
            have h := HA3.out
            simp only [bdo, hyb] at h
            rw [← h]
            show max (max acc y.b) _ = max acc (max y.b _)
            omega
          have HN1 : Hid (∀ a, ow l c = some a → a ∈ cl l) := fun a h => ow_cl _ _ h
          have c1 := hQo.at_ (arrI_at (ofL_at hj))
          rw [hyc] at c1
          have c2 := hQ.at_ (arrI_at (List.getElem?_set_self HKL.out (a := acc)))
          have f2 := hQ.frozen k
          have HSS : Hid (∀ W, Below w.heap.size w W → W.cell? ⟨bb, o + j * 6 + 1, none⟩ = some (.int .i64 y.b)) := fun W h => ((HRB.out.below h).get hj).2.1
          obtain ⟨wd, hwd⟩ : ∃ wd, wd = wr.drew := ⟨_, rfl⟩
          have HBd := Lib.hid (show Below w.heap.size w wd from hwd ▸ hB.drew)
          have hQod : Blk wd g2 3 (arrI (ofL l (ow l))) := hwd ▸ hQo
          have hQd : Blk wd w.heap.size 3 (arrI (zs.set k acc)) := hwd ▸ hQ
          have d1 : wd.cell? ⟨w.heap.size, k, none⟩ = some (.int .i64 acc) := hwd ▸ c2
          have d2 : wd.frozen? ⟨w.heap.size, k, none⟩ = false := hwd ▸ f2
          obtain ⟨we, hwe⟩ : ∃ we, we = wd.setCell ⟨w.heap.size, k, none⟩ (.int .i64 (max acc y.b)) := ⟨_, rfl⟩
          have HBe := Lib.hid (show Below w.heap.size w we from hwe ▸ Below.setCell (p := ⟨w.heap.size, k, none⟩) HBd.out (Nat.le_refl _) _)
          have hQoe : Blk we g2 3 (arrI (ofL l (ow l))) := hwe ▸ hQod.far (p := ⟨w.heap.size, k, none⟩) HNE.out.symm _
          have hQe : Blk we w.heap.size 3 (arrI (zs.set k (max acc y.b))) := by
            have := hQd.set_ k (.int .i64 (max acc y.b))
            rw [arrI_set, List.set_set] at this
            rw [hwe]; exact this
          have ce := hQoe.at_ (arrI_at (ofL_at hj))
          rw [hyc] at ce
          have HQoe := Lib.hid hQoe
          have HQe := Lib.hid hQe
          have HWD := Lib.hid hwd
          have HWE := Lib.hid hwe
          have hacc2 : 0 ≤ max acc y.b := by omega
          clear hj hyc e1 hjn hyb hQod hQd hQoe hQe hwd hwe c1 c2 f2 hB hQo hQ
          go_upto_region 8 with fail
          refine wp_region_noPanic ?_
          refine wp_region_held_drew (S := fun wx => wx.cell? ⟨bb, o + j * 6 + 1, none⟩ = some (.int .i64 y.b)) (by kernel_rfl) (by rewrite [← HWD.out]; exact HSS.out _ HBd.out) (fun hHeld => ?_)
          refine wpAnyH_take (i := 0) (v := ?v0) rfl (by kernel_rfl) (by kernel_rfl) (by kernel_rfl) (fun _ _ _ h => h) (Or.inl ⟨by kernel_rfl, ?y0⟩) (by assumption) ?r0
          case y0 => (intro wq hSw; (try dsimp only at hSw); go_simp; (try with_reducible rfl))
          (try simp only [Act.put, List.getElem_toArray, List.getElem_cons_zero, List.setIfInBounds_toArray, List.set_cons_zero, List.set_cons_succ])
          refine wpAnyH_take (i := 1) (v := ?v1) rfl (by kernel_rfl) (by kernel_rfl) (by kernel_rfl) (fun _ _ _ h => h) (Or.inl ⟨by kernel_rfl, ?y1⟩) (by assumption) ?r1
          case y1 => (intro wq hSw; (try dsimp only at hSw); go_simp; (try with_reducible rfl))
          (try simp only [Act.put, List.getElem_toArray, List.getElem_cons_succ, List.getElem_cons_zero, List.setIfInBounds_toArray, List.set_cons_zero, List.set_cons_succ])
          refine wpAnyH_take (i := 2) (v := ?v2) rfl (by kernel_rfl) (by kernel_rfl) (by kernel_rfl) (fun _ _ _ h => h) (Or.inl ⟨by kernel_rfl, ?y2⟩) (by assumption) ?r2
          case y2 => (intro wq hSw; (try dsimp only at hSw); go_simp; (try with_reducible rfl))
          (try simp only [Act.put, List.getElem_toArray, List.getElem_cons_succ, List.getElem_cons_zero, List.setIfInBounds_toArray, List.set_cons_zero, List.set_cons_succ])
          refine wpAnyH_take (i := 3) (v := ?v3) rfl (by kernel_rfl) (by kernel_rfl) (by kernel_rfl) (fun _ _ _ h => h) (Or.inl ⟨by kernel_rfl, ?y3⟩) (by assumption) ?r3
          case y3 => (intro wq hSw; (try dsimp only at hSw); go_simp; (try with_reducible rfl))
          (try simp only [Act.put, List.getElem_toArray, List.getElem_cons_succ, List.getElem_cons_zero, List.setIfInBounds_toArray, List.set_cons_zero, List.set_cons_succ])
          refine wpAnyH_take (i := 4) (v := ?v4) rfl (by kernel_rfl) (by kernel_rfl) (by kernel_rfl) (fun _ _ _ h => h) (Or.inl ⟨by kernel_rfl, ?y4⟩) (by assumption) ?r4
          case y4 => (intro wq hSw; (try dsimp only at hSw); go_simp; (try with_reducible rfl))
          (try simp only [Act.put, List.getElem_toArray, List.getElem_cons_succ, List.getElem_cons_zero, List.setIfInBounds_toArray, List.set_cons_zero, List.set_cons_succ])
          refine wpAnyH_take (i := 6) (v := ?v6) rfl (by kernel_rfl) (by kernel_rfl) (by kernel_rfl) (fun _ _ _ h => h) (Or.inl ⟨by kernel_rfl, ?y6⟩) (by assumption) ?r6
          case y6 => (intro wq hSw; (try dsimp only at hSw); go_simp; (try with_reducible rfl))
          (try simp only [Act.put, List.getElem_toArray, List.getElem_cons_succ, List.getElem_cons_zero, List.setIfInBounds_toArray, List.set_cons_zero, List.set_cons_succ])
          refine wpAnyH_take (i := 7) (v := ?v7) rfl (by kernel_rfl) (by kernel_rfl) (by kernel_rfl) (fun _ _ _ h => h) (Or.inl ⟨by kernel_rfl, ?y7⟩) (by assumption) ?r7
          case y7 => (intro wq hSw; (try dsimp only at hSw); go_simp; (try with_reducible rfl))
          (try simp only [Act.put, List.getElem_toArray, List.getElem_cons_succ, List.getElem_cons_zero, List.setIfInBounds_toArray, List.set_cons_zero, List.set_cons_succ])
          refine wpAnyH_take (i := 8) (v := ?v8) rfl (by kernel_rfl) (by kernel_rfl) (by kernel_rfl) (fun _ _ _ h => h) (Or.inl ⟨by kernel_rfl, ?y8⟩) (by assumption) ?r8
          case y8 => (intro wq hSw; (try dsimp only at hSw); go_simp; (try with_reducible rfl))
          (try simp only [Act.put, List.getElem_toArray, List.getElem_cons_succ, List.getElem_cons_zero, List.setIfInBounds_toArray, List.set_cons_zero, List.set_cons_succ])
          refine wpAnyH_take (i := 9) (v := ?v9) rfl (by kernel_rfl) (by kernel_rfl) (by kernel_rfl) (fun _ _ _ h => h) (Or.inl ⟨by kernel_rfl, ?y9⟩) (by assumption) ?r9
          case y9 => (intro wq hSw; (try dsimp only at hSw); go_simp; (try with_reducible rfl))
          (try simp only [Act.put, List.getElem_toArray, List.getElem_cons_succ, List.getElem_cons_zero, List.setIfInBounds_toArray, List.set_cons_zero, List.set_cons_succ])
          refine wpAnyH_take (i := 10) (v := ?v10) rfl (by kernel_rfl) (by kernel_rfl) (by kernel_rfl) (fun _ _ _ h => h) (Or.inl ⟨by kernel_rfl, ?y10⟩) (by assumption) ?r10
          case y10 => (intro wq hSw; (try dsimp only at hSw); go_simp; (try with_reducible rfl))
          (try simp only [Act.put, List.getElem_toArray, List.getElem_cons_succ, List.getElem_cons_zero, List.setIfInBounds_toArray, List.set_cons_zero, List.set_cons_succ])
          refine wpAnyH_ready (rs := [5]) (by kernel_rfl) (by simp) ?_
          refine AllReadyH.cons rfl (fun K hK => ?_) AllReadyH.nil
          rewrite [← HWD.out]; go_simp
          refine hK.out _ _ (by exact HSS.out _ HBd.out) (fun hHeld => ?_)
          clear hK K
          (try simp only [Act.put, List.getElem_toArray, List.getElem_cons_succ, List.getElem_cons_zero, List.setIfInBounds_toArray, List.set_cons_zero, List.set_cons_succ])
          refine wpAnyH_take (i := 11) (v := ?v11) rfl (by kernel_rfl) (by kernel_rfl) (by kernel_rfl) (fun _ _ _ h => h) (Or.inl ⟨by kernel_rfl, ?y11⟩) (by assumption) ?r11
          case y11 => (intro wq hSw; (try dsimp only at hSw); go_simp; (try with_reducible rfl))
          (try simp only [Act.put, List.getElem_toArray, List.getElem_cons_succ, List.getElem_cons_zero, List.setIfInBounds_toArray, List.set_cons_zero, List.set_cons_succ])
          refine wpAnyH_take (i := 12) (v := ?v12) rfl (by kernel_rfl) (by kernel_rfl) (by kernel_rfl) (fun _ _ _ h => h) (Or.inl ⟨by kernel_rfl, ?y12⟩) (by assumption) ?r12
          case y12 => (intro wq hSw; (try dsimp only at hSw); go_simp; (try with_reducible rfl))
          (try simp only [Act.put, List.getElem_toArray, List.getElem_cons_succ, List.getElem_cons_zero, List.setIfInBounds_toArray, List.set_cons_zero, List.set_cons_succ])
          refine wpAnyH_ready (rs := [13]) (by kernel_rfl) (by simp) ?_
          refine AllReadyH.cons rfl (fun K hK => ?_) AllReadyH.nil
          go_simp; rewrite [← HWE.out]
          refine hK.out _ _ (by exact HSS.out _ HBe.out) (fun hHeld => ?_)
          clear hK K
          (try simp only [Act.put, List.getElem_toArray, List.getElem_cons_succ, List.getElem_cons_zero, List.setIfInBounds_toArray, List.set_cons_zero, List.set_cons_succ])
          refine wpAnyH_done (by kernel_rfl) ?_ _
          refine NoPanic.normal ?_
          clear hHeld HSS d1 d2
          go_wp2_with fail
          go_roundg m
          case rel => exact ⟨_, _, rfl, HBe.out, HQoe.out, HQe.out, HN1.out, HN2.out, HN3.out, hacc2⟩
          case measure => omega
    · obtain rfl : k = n := by omega
      have hd : zs = l.map (fun x => bd l x.c) := by have := HA.out; rw [HN.out] at this; exact this.done
      have HQ : Hid (Blk wr w.heap.size 3 (arrI (l.map fun x => bd l x.c))) := hd ▸ hQ
      clear hd
      go_wp2_with fail
      go_ret
      exact ⟨_, rfl, HQ.out, Nat.le_refl _, hB⟩
end Go.Proofs.Ytgioeijdgoogkaa.Od
