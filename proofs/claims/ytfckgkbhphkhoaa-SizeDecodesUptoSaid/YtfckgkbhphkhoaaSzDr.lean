/- Decode of the document, walked: a cut around each if (wip/gensr.py). -/
import Derived.Test.YtfckgkbhphkhoaaSzP
import Derived.Test.YtfckgkbhphkhoaaSzX
import Derived.Deep.RegionLaw
namespace Go.Proofs.Ytfckgkbhphkhoaa
open Go.RowKit
namespace Sz
/-- The memory of the document's Decode: the result's box, the hints' box, the row. -/
structure Dd (w : World) (h : Hn) (p o : Nat) (z : Nat → Int) (W : World) : Prop where
  r : HB W w.heap.size zeroH
  b : HB W (w.heap.size + 1) h
  z : Zs W p o z
  be : Below w.heap.size w W
section
variable {w : World} {h h' : Hn} {p o : Nat} {z : Nat → Int} {W W' : World}
theorem cell_far {w : World} {g r i j : Nat} (u : Value) (hne : g ≠ r) : (w.setCell ⟨r, i, none⟩ u).cell? ⟨g, j, none⟩ = w.cell? ⟨g, j, none⟩ := by
  unfold World.cell?
  dsimp only
  rw [Below.heap_setCell w _ u g hne]
theorem Dd.pn (a : Dd w h p o z W) : p ≠ w.heap.size + 1 := by
  rintro rfl
  have h1 := a.z.2 16 (by omega)
  rw [Blk.cell a.b.raw (o + 16)] at h1
  rw [Array.getElem?_eq_none (by simp)] at h1
  cases h1
theorem Dd.drew (a : Dd w h p o z W) : Dd w h p o z W.drew := ⟨a.r, a.b, a.z, Below.drew a.be⟩
theorem Dd.set (a : Dd w h p o z W) (i : Nat) (x : Int) (hb : HB (W.setCell ⟨w.heap.size + 1, i, none⟩ (.int .i64 x)) (w.heap.size + 1) h') : Dd w h' p o z (W.setCell ⟨w.heap.size + 1, i, none⟩ (.int .i64 x)) :=
  ⟨a.r.far (by show _ ≠ _; simp only []; omega) _, hb, ⟨by simpa [World.setCell] using a.z.1, fun j hj => (cell_far (i := i) _ a.pn).trans (a.z.2 j hj)⟩, a.be.setCell (Nat.le_succ _) _⟩
theorem Dd.drewN (a : Dd w h p o z W) (n : Nat) : Dd w h p o z (W.drewN n) := ⟨a.r, a.b, a.z, below_drewN a.be n⟩
theorem Dd.q (a : Dd w h p o z W) {j : Nat} (hj : j < 17) : W.cell? ⟨p, o + j, none⟩ = some (.int .i64 (z j)) := a.z.2 j hj
end
set_option maxRecDepth 100000 in
set_option maxHeartbeats 8000000 in
theorem rdecode_yes (s : ByteArray) (w : World) (hs : s.size ≤ 1048576) (h4 : s.size % 4 = 0) (h17 : 17 ≤ s.size / 4) : Calls Try.prog 11 #[.string s] w fun e w' => e = .returned (.agg #[.int .i64 (decH (fun j => (numsL s).getD j 0)).minW, .int .i64 (decH (fun j => (numsL s).getD j 0)).minH, .int .i64 (decH (fun j => (numsL s).getD j 0)).maxW, .int .i64 (decH (fun j => (numsL s).getD j 0)).maxH, .int .i64 (decH (fun j => (numsL s).getD j 0)).baseW, .int .i64 (decH (fun j => (numsL s).getD j 0)).baseH, .int .i64 (decH (fun j => (numsL s).getD j 0)).incW, .int .i64 (decH (fun j => (numsL s).getD j 0)).incH, .int .i64 (decH (fun j => (numsL s).getD j 0)).lowX, .int .i64 (decH (fun j => (numsL s).getD j 0)).lowY, .int .i64 (decH (fun j => (numsL s).getD j 0)).highX, .int .i64 (decH (fun j => (numsL s).getD j 0)).highY]) ∧ Below w.heap.size w w' := by
  have A0 := HB.zero w
  have A1 := HB.new (w.alloc (.cells (#[.int .i64 zeroH.minW, .int .i64 zeroH.minH, .int .i64 zeroH.maxW, .int .i64 zeroH.maxH, .int .i64 zeroH.baseW, .int .i64 zeroH.baseH, .int .i64 zeroH.incW, .int .i64 zeroH.incH, .int .i64 zeroH.lowX, .int .i64 zeroH.lowY, .int .i64 zeroH.highX, .int .i64 zeroH.highY]) 23)) ⟨1, 1, 0, 0, 0, 0, 1, 1, 0, 0, 0, 0⟩
  simp only [World.size_alloc] at A1
  have W0 : Below w.heap.size w ((w.alloc (.cells (#[.int .i64 zeroH.minW, .int .i64 zeroH.minH, .int .i64 zeroH.maxW, .int .i64 zeroH.maxH, .int .i64 zeroH.baseW, .int .i64 zeroH.baseH, .int .i64 zeroH.incW, .int .i64 zeroH.incH, .int .i64 zeroH.lowX, .int .i64 zeroH.lowY, .int .i64 zeroH.highX, .int .i64 zeroH.highY]) 23)).alloc (.cells #[.int .i64 1, .int .i64 1, .int .i64 0, .int .i64 0, .int .i64 0, .int .i64 0, .int .i64 1, .int .i64 1, .int .i64 0, .int .i64 0, .int .i64 0, .int .i64 0] 23)) := by repeat' (first | (with_reducible exact Below.refl _ _) | (with_reducible assumption) | (with_reducible refine Below.alloc ?_ ?_ _) | (with_reducible refine Below.drew ?_) | (with_reducible refine Below.setCell ?_ ?_ _) | (with_reducible refine Below.on (by with_reducible assumption) ?_ ?_) | go_size)
  have HNU := Lib.hid (fun W : World => rnumbers_yes s W hs h4)
  obtain ⟨len, hlen⟩ : ∃ n, s.size / 4 = n := ⟨_, rfl⟩
  rw [hlen] at h17
  have hnl : (numsL s).length = len := by rw [numsL_len, hlen]
  obtain ⟨z, hz⟩ : ∃ z : Nat → Int, z = fun j => (numsL s).getD j 0 := ⟨_, rfl⟩
  have hzl : ∀ j, j < 17 → (ints (numsL s))[j]? = some (.int .i64 (z j)) := by
    intro j hj
    rw [hz, List.getElem?_map, List.getElem?_eq_getElem (by omega)]
    simp [List.getD_eq_getElem?_getD, List.getElem?_eq_getElem (show j < (numsL s).length by omega)]
  have HNV := Lib.hid (show ∀ W : World, Calls Try.prog 23 #[.string s] W fun e w' => ∃ p o c, e = .returned (.tuple #[.slice (some ⟨p, o, none⟩) len c, .bool true]) ∧ Zs w' p o z ∧ Below W.heap.size W w' from fun W => (HNU.out W).mono (by
    rintro e w1 ⟨v, rfl, hRd, hb1⟩
    obtain ⟨p', c', hpe, hcl⟩ := hRd
    subst hpe
    have hl : (ints (numsL s)).length = len := by rw [List.length_map]; exact hnl
    rw [hl]
    obtain ⟨b, o, rfl, hlt, hc0⟩ := hcl 0 _ (hzl 0 (by omega))
    refine ⟨b, o, c', rfl, ⟨hlt, fun j hj => ?_⟩, hb1⟩
    obtain ⟨b', o', hbo, hlt', hc⟩ := hcl j _ (hzl j hj)
    cases hbo
    exact hc))
  rw [← hz]
  obtain ⟨t16, h16⟩ : ∃ a, bitI (z 0) 16 = a := ⟨_, rfl⟩
  obtain ⟨t32, h32⟩ : ∃ a, bitI (z 0) 32 = a := ⟨_, rfl⟩
  obtain ⟨t64, h64⟩ : ∃ a, bitI (z 0) 64 = a := ⟨_, rfl⟩
  obtain ⟨t128, h128⟩ : ∃ a, bitI (z 0) 128 = a := ⟨_, rfl⟩
  obtain ⟨t256, h256⟩ : ∃ a, bitI (z 0) 256 = a := ⟨_, rfl⟩
  have hdec : decH z = ⟨if t16 then z 5 else if t256 then z 15 else 1, if t16 then z 6 else if t256 then z 16 else 1, if t32 then z 7 else 0, if t32 then z 8 else 0, if t16 && !t256 then z 5 else if t256 then z 15 else 0, if t16 && !t256 then z 6 else if t256 then z 16 else 0, if t64 then z 9 else 1, if t64 then z 10 else 1, if t128 then z 11 else 0, if t128 then z 12 else 0, if t128 then z 13 else 0, if t128 then z 14 else 0⟩ := by unfold decH; rw [h16, h32, h64, h128, h256]; cases t16 <;> cases t256 <;> rfl
  rw [hdec]
  have HT : ∀ b, (b = 16 ∨ b = 32 ∨ b = 64 ∨ b = 128 ∨ b = 256) → ∀ W : World, Calls Try.prog 24 #[.int .i64 (z 0), .int .i64 b] W fun e w' => e = .returned (.bool (bitI (z 0) b)) ∧ W = w' := fun b hb W => rbit_c (z 0) b W hb
  have T16 := Lib.hid (HT 16 (by simp))
  have T32 := Lib.hid (HT 32 (by simp))
  have T64 := Lib.hid (HT 64 (by simp))
  have T128 := Lib.hid (HT 128 (by simp))
  have T256 := Lib.hid (HT 256 (by simp))
  rw [h16] at T16; rw [h32] at T32; rw [h64] at T64; rw [h128] at T128; rw [h256] at T256
  clear HT h16 h32 h64 h128 h256 hdec
  clear hz hzl hnl hlen HNU
  have hl17 : ¬ ((len : Int) < 17) := by omega
  have ll0 : ((0 : Int) < (len : Int)) := by omega
  have ll1 : ((1 : Int) < (len : Int)) := by omega
  have ll2 : ((2 : Int) < (len : Int)) := by omega
  have ll3 : ((3 : Int) < (len : Int)) := by omega
  have ll4 : ((4 : Int) < (len : Int)) := by omega
  have ll5 : ((5 : Int) < (len : Int)) := by omega
  have ll6 : ((6 : Int) < (len : Int)) := by omega
  have ll7 : ((7 : Int) < (len : Int)) := by omega
  have ll8 : ((8 : Int) < (len : Int)) := by omega
  have ll9 : ((9 : Int) < (len : Int)) := by omega
  have ll10 : ((10 : Int) < (len : Int)) := by omega
  have ll11 : ((11 : Int) < (len : Int)) := by omega
  have ll12 : ((12 : Int) < (len : Int)) := by omega
  have ll13 : ((13 : Int) < (len : Int)) := by omega
  have ll14 : ((14 : Int) < (len : Int)) := by omega
  have ll15 : ((15 : Int) < (len : Int)) := by omega
  have ll16 : ((16 : Int) < (len : Int)) := by omega
  go_enter Try.func11, Try.ntmps11
  go_upto_region 3 with (go_at_call 23; ((with_reducible refine (HNV.out _).mono ?_); rintro e w1 ⟨p, o, c, rfl, hZ, hb1⟩); skip)
  have hS : Dd w ⟨1, 1, 0, 0, 0, 0, 1, 1, 0, 0, 0, 0⟩ p o z w1 := by
    have B0 := (A0.alloc (.cells #[.int .i64 1, .int .i64 1, .int .i64 0, .int .i64 0, .int .i64 0, .int .i64 0, .int .i64 1, .int .i64 1, .int .i64 0, .int .i64 0, .int .i64 0, .int .i64 0] 23)).next hb1
    exact ⟨B0, A1.next hb1, hZ, bnext W0 hb1 W0.size⟩
  have DS := Lib.hid hS
  have z00 := hS.q (j := 0) (by omega)
  have z0 := z00
  simp only [Nat.add_zero] at z0
  clear hS hb1 A0 A1 W0 HNV hZ z00
  go_upto_region 6 with fail
  clear z0
  go_upto_if 25 with (go_at_call 24; ((with_reducible refine (T256.out _).mono ?_); rintro e w1 ⟨rfl, rfl⟩))
  go_cut [] (fun wx => Dd w ⟨(if t256 then z 15 else 1), (if t256 then z 16 else 1), 0, 0, (if t256 then z 15 else 0), (if t256 then z 16 else 0), 1, 1, 0, 0, 0, 0⟩ p o z wx)
  case first =>
    cases t256
    · go_wp2_with fail
      go_meet
      exact DS.out
    · go_upto_region 7 with fail
      have DD := Lib.hid DS.out.drew
      obtain ⟨⟨e0, e1, e2, e3, e4, e5, e6, e7, e8, e9, e10, e11⟩, ⟨ef0, ef1, ef2, ef3, ef4, ef5, ef6, ef7, ef8, ef9, ef10, ef11⟩⟩ := DS.out.b.out
      refine wp_region_noPanic ?_
      refine wp_region_held_drew (S := fun wx => wx.cell? ⟨p, o + 15, none⟩ = some (.int .i64 (z 15)) ∧ wx.cell? ⟨p, o + 16, none⟩ = some (.int .i64 (z 16))) (by kernel_rfl) (by exact ⟨DD.out.q (j := 15) (by omega), DD.out.q (j := 16) (by omega)⟩) (fun hHeld => ?_)
      refine wpAnyH_take (i := 0) (v := ?va0) rfl (by kernel_rfl) (by kernel_rfl) (by kernel_rfl) (fun _ _ _ h => h) (Or.inl ⟨by kernel_rfl, ?ya0⟩) (by assumption) ?ra0
      case ya0 => (intro wq hSw; (try dsimp only at hSw); go_simp; (try with_reducible rfl))
      (try simp only [Act.put, List.getElem_toArray, List.getElem_cons_zero, List.setIfInBounds_toArray, List.set_cons_zero, List.set_cons_succ])
      refine wpAnyH_take (i := 1) (v := ?va1) rfl (by kernel_rfl) (by kernel_rfl) (by kernel_rfl) (fun _ _ _ h => h) (Or.inl ⟨by kernel_rfl, ?ya1⟩) (by assumption) ?ra1
      case ya1 => (intro wq hSw; (try dsimp only at hSw); go_simp; (try with_reducible rfl))
      (try simp only [Act.put, List.getElem_toArray, List.getElem_cons_succ, List.getElem_cons_zero, List.setIfInBounds_toArray, List.set_cons_zero, List.set_cons_succ])
      refine wpAnyH_take (i := 2) (v := ?va2) rfl (by kernel_rfl) (by kernel_rfl) (by kernel_rfl) (fun _ _ _ h => h) (Or.inl ⟨by kernel_rfl, ?ya2⟩) (by assumption) ?ra2
      case ya2 => (intro wq hSw; (try dsimp only at hSw); go_simp; (try with_reducible rfl))
      (try simp only [Act.put, List.getElem_toArray, List.getElem_cons_succ, List.getElem_cons_zero, List.setIfInBounds_toArray, List.set_cons_zero, List.set_cons_succ])
      refine wpAnyH_take (i := 3) (v := ?va3) rfl (by kernel_rfl) (by kernel_rfl) (by kernel_rfl) (fun _ _ _ h => h) (Or.inl ⟨by kernel_rfl, ?ya3⟩) (by assumption) ?ra3
      case ya3 => (intro wq hSw; (try dsimp only at hSw); go_simp; (try with_reducible rfl))
      (try simp only [Act.put, List.getElem_toArray, List.getElem_cons_succ, List.getElem_cons_zero, List.setIfInBounds_toArray, List.set_cons_zero, List.set_cons_succ])
      refine wpAnyH_take (i := 4) (v := ?va4) rfl (by kernel_rfl) (by kernel_rfl) (by kernel_rfl) (fun _ _ _ h => h) (Or.inl ⟨by kernel_rfl, ?ya4⟩) (by assumption) ?ra4
      case ya4 => (intro wq hSw; (try dsimp only at hSw); go_simp; (try with_reducible rfl))
      (try simp only [Act.put, List.getElem_toArray, List.getElem_cons_succ, List.getElem_cons_zero, List.setIfInBounds_toArray, List.set_cons_zero, List.set_cons_succ])
      refine wpAnyH_take (i := 5) (v := ?va5) rfl (by kernel_rfl) (by kernel_rfl) (by kernel_rfl) (fun _ _ _ h => h) (Or.inl ⟨by kernel_rfl, ?ya5⟩) (by assumption) ?ra5
      case ya5 => (intro wq hSw; (try dsimp only at hSw); go_simp; (try with_reducible rfl))
      (try simp only [Act.put, List.getElem_toArray, List.getElem_cons_succ, List.getElem_cons_zero, List.setIfInBounds_toArray, List.set_cons_zero, List.set_cons_succ])
      refine wpAnyH_take (i := 6) (v := ?va6) rfl (by kernel_rfl) (by kernel_rfl) (by kernel_rfl) (fun _ _ _ h => h) (Or.inl ⟨by kernel_rfl, ?ya6⟩) (by assumption) ?ra6
      case ya6 => (intro wq hSw; (try dsimp only at hSw); go_simp; (try with_reducible rfl))
      (try simp only [Act.put, List.getElem_toArray, List.getElem_cons_succ, List.getElem_cons_zero, List.setIfInBounds_toArray, List.set_cons_zero, List.set_cons_succ])
      refine wpAnyH_take (i := 7) (v := ?va7) rfl (by kernel_rfl) (by kernel_rfl) (by kernel_rfl) (fun _ _ _ h => h) (Or.inl ⟨by kernel_rfl, ?ya7⟩) (by assumption) ?ra7
      case ya7 => (intro wq hSw; (try dsimp only at hSw); go_simp; (try with_reducible rfl))
      (try simp only [Act.put, List.getElem_toArray, List.getElem_cons_succ, List.getElem_cons_zero, List.setIfInBounds_toArray, List.set_cons_zero, List.set_cons_succ])
      refine wpAnyH_take (i := 8) (v := ?va8) rfl (by kernel_rfl) (by kernel_rfl) (by kernel_rfl) (fun _ _ _ h => h) (Or.inl ⟨by kernel_rfl, ?ya8⟩) (by assumption) ?ra8
      case ya8 => (intro wq hSw; (try dsimp only at hSw); go_simp; (try with_reducible rfl))
      (try simp only [Act.put, List.getElem_toArray, List.getElem_cons_succ, List.getElem_cons_zero, List.setIfInBounds_toArray, List.set_cons_zero, List.set_cons_succ])
      refine wpAnyH_take (i := 9) (v := ?va9) rfl (by kernel_rfl) (by kernel_rfl) (by kernel_rfl) (fun _ _ _ h => h) (Or.inl ⟨by kernel_rfl, ?ya9⟩) (by assumption) ?ra9
      case ya9 => (intro wq hSw; (try dsimp only at hSw); go_simp; (try with_reducible rfl))
      (try simp only [Act.put, List.getElem_toArray, List.getElem_cons_succ, List.getElem_cons_zero, List.setIfInBounds_toArray, List.set_cons_zero, List.set_cons_succ])
      refine wpAnyH_take (i := 10) (v := ?va10) rfl (by kernel_rfl) (by kernel_rfl) (by kernel_rfl) (fun _ _ _ h => h) (Or.inl ⟨by kernel_rfl, ?ya10⟩) (by assumption) ?ra10
      case ya10 => (intro wq hSw; (try dsimp only at hSw); go_simp; (try with_reducible rfl))
      (try simp only [Act.put, List.getElem_toArray, List.getElem_cons_succ, List.getElem_cons_zero, List.setIfInBounds_toArray, List.set_cons_zero, List.set_cons_succ])
      refine wpAnyH_take (i := 11) (v := ?va11) rfl (by kernel_rfl) (by kernel_rfl) (by kernel_rfl) (fun _ _ _ h => h) (Or.inl ⟨by kernel_rfl, ?ya11⟩) (by assumption) ?ra11
      case ya11 => (intro wq hSw; (try dsimp only at hSw); go_simp; (try with_reducible rfl))
      (try simp only [Act.put, List.getElem_toArray, List.getElem_cons_succ, List.getElem_cons_zero, List.setIfInBounds_toArray, List.set_cons_zero, List.set_cons_succ])
      refine wpAnyH_take (i := 12) (v := ?va12) rfl (by kernel_rfl) (by kernel_rfl) (by kernel_rfl) (fun _ _ _ h => h) (Or.inl ⟨by kernel_rfl, ?ya12⟩) (by assumption) ?ra12
      case ya12 => (intro wq hSw; (try dsimp only at hSw); go_simp; (try with_reducible rfl))
      (try simp only [Act.put, List.getElem_toArray, List.getElem_cons_succ, List.getElem_cons_zero, List.setIfInBounds_toArray, List.set_cons_zero, List.set_cons_succ])
      refine wpAnyH_ready (rs := [13]) (by kernel_rfl) (by simp) ?_
      refine AllReadyH.cons rfl (fun K hK => ?_) AllReadyH.nil
      go_simp; have Da0 := Lib.hid (DD.out.set (h' := ⟨1, 1, 0, 0, z 15, 0, 1, 1, 0, 0, 0, 0⟩) 4 (z 15) (Blk.set_ DD.out.b 4 (.int .i64 (z 15))))
      refine hK.out _ _ (by exact ⟨Da0.out.q (j := 15) (by omega), Da0.out.q (j := 16) (by omega)⟩) (fun hHeld => ?_)
      clear hK K
      (try simp only [Act.put, List.getElem_toArray, List.getElem_cons_succ, List.getElem_cons_zero, List.setIfInBounds_toArray, List.set_cons_zero, List.set_cons_succ])
      refine wpAnyH_take (i := 14) (v := ?va14) rfl (by kernel_rfl) (by kernel_rfl) (by kernel_rfl) (fun _ _ _ h => h) (Or.inl ⟨by kernel_rfl, ?ya14⟩) (by assumption) ?ra14
      case ya14 => (intro wq hSw; (try dsimp only at hSw); go_simp; (try with_reducible rfl))
      (try simp only [Act.put, List.getElem_toArray, List.getElem_cons_succ, List.getElem_cons_zero, List.setIfInBounds_toArray, List.set_cons_zero, List.set_cons_succ])
      refine wpAnyH_ready (rs := [15]) (by kernel_rfl) (by simp) ?_
      refine AllReadyH.cons rfl (fun K hK => ?_) AllReadyH.nil
      go_simp; have Da1 := Lib.hid (Da0.out.set (h' := ⟨1, 1, 0, 0, z 15, z 16, 1, 1, 0, 0, 0, 0⟩) 5 (z 16) (Blk.set_ Da0.out.b 5 (.int .i64 (z 16))))
      refine hK.out _ _ (by exact ⟨Da1.out.q (j := 15) (by omega), Da1.out.q (j := 16) (by omega)⟩) (fun hHeld => ?_)
      clear hK K
      (try simp only [Act.put, List.getElem_toArray, List.getElem_cons_succ, List.getElem_cons_zero, List.setIfInBounds_toArray, List.set_cons_zero, List.set_cons_succ])
      refine wpAnyH_take (i := 16) (v := ?va16) rfl (by kernel_rfl) (by kernel_rfl) (by kernel_rfl) (fun _ _ _ h => h) (Or.inl ⟨by kernel_rfl, ?ya16⟩) (by assumption) ?ra16
      case ya16 => (intro wq hSw; (try dsimp only at hSw); go_simp; (try with_reducible rfl))
      (try simp only [Act.put, List.getElem_toArray, List.getElem_cons_succ, List.getElem_cons_zero, List.setIfInBounds_toArray, List.set_cons_zero, List.set_cons_succ])
      refine wpAnyH_ready (rs := [17]) (by kernel_rfl) (by simp) ?_
      refine AllReadyH.cons rfl (fun K hK => ?_) AllReadyH.nil
      go_simp; have Da2 := Lib.hid (Da1.out.set (h' := ⟨z 15, 1, 0, 0, z 15, z 16, 1, 1, 0, 0, 0, 0⟩) 0 (z 15) (Blk.set_ Da1.out.b 0 (.int .i64 (z 15))))
      refine hK.out _ _ (by exact ⟨Da2.out.q (j := 15) (by omega), Da2.out.q (j := 16) (by omega)⟩) (fun hHeld => ?_)
      clear hK K
      (try simp only [Act.put, List.getElem_toArray, List.getElem_cons_succ, List.getElem_cons_zero, List.setIfInBounds_toArray, List.set_cons_zero, List.set_cons_succ])
      refine wpAnyH_take (i := 18) (v := ?va18) rfl (by kernel_rfl) (by kernel_rfl) (by kernel_rfl) (fun _ _ _ h => h) (Or.inl ⟨by kernel_rfl, ?ya18⟩) (by assumption) ?ra18
      case ya18 => (intro wq hSw; (try dsimp only at hSw); go_simp; (try with_reducible rfl))
      (try simp only [Act.put, List.getElem_toArray, List.getElem_cons_succ, List.getElem_cons_zero, List.setIfInBounds_toArray, List.set_cons_zero, List.set_cons_succ])
      refine wpAnyH_ready (rs := [19]) (by kernel_rfl) (by simp) ?_
      refine AllReadyH.cons rfl (fun K hK => ?_) AllReadyH.nil
      go_simp; have Da3 := Lib.hid (Da2.out.set (h' := ⟨z 15, z 16, 0, 0, z 15, z 16, 1, 1, 0, 0, 0, 0⟩) 1 (z 16) (Blk.set_ Da2.out.b 1 (.int .i64 (z 16))))
      refine hK.out _ _ (by exact ⟨Da3.out.q (j := 15) (by omega), Da3.out.q (j := 16) (by omega)⟩) (fun hHeld => ?_)
      clear hK K
      (try simp only [Act.put, List.getElem_toArray, List.getElem_cons_succ, List.getElem_cons_zero, List.setIfInBounds_toArray, List.set_cons_zero, List.set_cons_succ])
      refine wpAnyH_done (by kernel_rfl) ?_ _
      refine NoPanic.normal ?_
      clear e0 ef0 e1 ef1 e2 ef2 e3 ef3 e4 ef4 e5 ef5 e6 ef6 e7 ef7 e8 ef8 e9 ef9 e10 ef10 e11 ef11
      go_wp2_with fail
      go_meet
      exact Da3.out
  case rest =>
    obtain ⟨ha, hha⟩ : ∃ x : Hn, x = ⟨(if t256 then z 15 else 1), (if t256 then z 16 else 1), 0, 0, (if t256 then z 15 else 0), (if t256 then z 16 else 0), 1, 1, 0, 0, 0, 0⟩ := ⟨_, rfl⟩
    rw [← hha] at hcut
    have HHa := Lib.hid hha
    clear hha
    have A := Lib.hid hcut
    clear hcut
    obtain ⟨w1, hw1⟩ : ∃ w1, w1 = wc := ⟨_, rfl⟩
    subst hw1
    go_upto_if 43 with (go_at_call 24; ((with_reducible refine (T16.out _).mono ?_); rintro e w1 ⟨rfl, rfl⟩))
    go_cut [] (fun wx => Dd w ⟨(if t16 then z 5 else ha.minW), (if t16 then z 6 else ha.minH), ha.maxW, ha.maxH, ha.baseW, ha.baseH, ha.incW, ha.incH, ha.lowX, ha.lowY, ha.highX, ha.highY⟩ p o z wx)
    case first =>
      cases t16
      · go_wp2_with fail
        go_meet
        exact A.out
      · go_upto_region 9 with fail
        have DD := Lib.hid A.out.drew
        obtain ⟨⟨e0, e1, e2, e3, e4, e5, e6, e7, e8, e9, e10, e11⟩, ⟨ef0, ef1, ef2, ef3, ef4, ef5, ef6, ef7, ef8, ef9, ef10, ef11⟩⟩ := A.out.b.out
        refine wp_region_noPanic ?_
        refine wp_region_held_drew (S := fun wx => wx.cell? ⟨p, o + 5, none⟩ = some (.int .i64 (z 5)) ∧ wx.cell? ⟨p, o + 6, none⟩ = some (.int .i64 (z 6))) (by kernel_rfl) (by exact ⟨DD.out.q (j := 5) (by omega), DD.out.q (j := 6) (by omega)⟩) (fun hHeld => ?_)
        refine wpAnyH_take (i := 0) (v := ?vb0) rfl (by kernel_rfl) (by kernel_rfl) (by kernel_rfl) (fun _ _ _ h => h) (Or.inl ⟨by kernel_rfl, ?yb0⟩) (by assumption) ?rb0
        case yb0 => (intro wq hSw; (try dsimp only at hSw); go_simp; (try with_reducible rfl))
        (try simp only [Act.put, List.getElem_toArray, List.getElem_cons_zero, List.setIfInBounds_toArray, List.set_cons_zero, List.set_cons_succ])
        refine wpAnyH_take (i := 1) (v := ?vb1) rfl (by kernel_rfl) (by kernel_rfl) (by kernel_rfl) (fun _ _ _ h => h) (Or.inl ⟨by kernel_rfl, ?yb1⟩) (by assumption) ?rb1
        case yb1 => (intro wq hSw; (try dsimp only at hSw); go_simp; (try with_reducible rfl))
        (try simp only [Act.put, List.getElem_toArray, List.getElem_cons_succ, List.getElem_cons_zero, List.setIfInBounds_toArray, List.set_cons_zero, List.set_cons_succ])
        refine wpAnyH_take (i := 2) (v := ?vb2) rfl (by kernel_rfl) (by kernel_rfl) (by kernel_rfl) (fun _ _ _ h => h) (Or.inl ⟨by kernel_rfl, ?yb2⟩) (by assumption) ?rb2
        case yb2 => (intro wq hSw; (try dsimp only at hSw); go_simp; (try with_reducible rfl))
        (try simp only [Act.put, List.getElem_toArray, List.getElem_cons_succ, List.getElem_cons_zero, List.setIfInBounds_toArray, List.set_cons_zero, List.set_cons_succ])
        refine wpAnyH_take (i := 3) (v := ?vb3) rfl (by kernel_rfl) (by kernel_rfl) (by kernel_rfl) (fun _ _ _ h => h) (Or.inl ⟨by kernel_rfl, ?yb3⟩) (by assumption) ?rb3
        case yb3 => (intro wq hSw; (try dsimp only at hSw); go_simp; (try with_reducible rfl))
        (try simp only [Act.put, List.getElem_toArray, List.getElem_cons_succ, List.getElem_cons_zero, List.setIfInBounds_toArray, List.set_cons_zero, List.set_cons_succ])
        refine wpAnyH_take (i := 4) (v := ?vb4) rfl (by kernel_rfl) (by kernel_rfl) (by kernel_rfl) (fun _ _ _ h => h) (Or.inl ⟨by kernel_rfl, ?yb4⟩) (by assumption) ?rb4
        case yb4 => (intro wq hSw; (try dsimp only at hSw); go_simp; (try with_reducible rfl))
        (try simp only [Act.put, List.getElem_toArray, List.getElem_cons_succ, List.getElem_cons_zero, List.setIfInBounds_toArray, List.set_cons_zero, List.set_cons_succ])
        refine wpAnyH_take (i := 5) (v := ?vb5) rfl (by kernel_rfl) (by kernel_rfl) (by kernel_rfl) (fun _ _ _ h => h) (Or.inl ⟨by kernel_rfl, ?yb5⟩) (by assumption) ?rb5
        case yb5 => (intro wq hSw; (try dsimp only at hSw); go_simp; (try with_reducible rfl))
        (try simp only [Act.put, List.getElem_toArray, List.getElem_cons_succ, List.getElem_cons_zero, List.setIfInBounds_toArray, List.set_cons_zero, List.set_cons_succ])
        refine wpAnyH_take (i := 6) (v := ?vb6) rfl (by kernel_rfl) (by kernel_rfl) (by kernel_rfl) (fun _ _ _ h => h) (Or.inl ⟨by kernel_rfl, ?yb6⟩) (by assumption) ?rb6
        case yb6 => (intro wq hSw; (try dsimp only at hSw); go_simp; (try with_reducible rfl))
        (try simp only [Act.put, List.getElem_toArray, List.getElem_cons_succ, List.getElem_cons_zero, List.setIfInBounds_toArray, List.set_cons_zero, List.set_cons_succ])
        refine wpAnyH_ready (rs := [7]) (by kernel_rfl) (by simp) ?_
        refine AllReadyH.cons rfl (fun K hK => ?_) AllReadyH.nil
        go_simp; have Db0 := Lib.hid (DD.out.set (h' := ⟨z 5, ha.minH, ha.maxW, ha.maxH, ha.baseW, ha.baseH, ha.incW, ha.incH, ha.lowX, ha.lowY, ha.highX, ha.highY⟩) 0 (z 5) (Blk.set_ DD.out.b 0 (.int .i64 (z 5))))
        refine hK.out _ _ (by exact ⟨Db0.out.q (j := 5) (by omega), Db0.out.q (j := 6) (by omega)⟩) (fun hHeld => ?_)
        clear hK K
        (try simp only [Act.put, List.getElem_toArray, List.getElem_cons_succ, List.getElem_cons_zero, List.setIfInBounds_toArray, List.set_cons_zero, List.set_cons_succ])
        refine wpAnyH_take (i := 8) (v := ?vb8) rfl (by kernel_rfl) (by kernel_rfl) (by kernel_rfl) (fun _ _ _ h => h) (Or.inl ⟨by kernel_rfl, ?yb8⟩) (by assumption) ?rb8
        case yb8 => (intro wq hSw; (try dsimp only at hSw); go_simp; (try with_reducible rfl))
        (try simp only [Act.put, List.getElem_toArray, List.getElem_cons_succ, List.getElem_cons_zero, List.setIfInBounds_toArray, List.set_cons_zero, List.set_cons_succ])
        refine wpAnyH_ready (rs := [9]) (by kernel_rfl) (by simp) ?_
        refine AllReadyH.cons rfl (fun K hK => ?_) AllReadyH.nil
        go_simp; have Db1 := Lib.hid (Db0.out.set (h' := ⟨z 5, z 6, ha.maxW, ha.maxH, ha.baseW, ha.baseH, ha.incW, ha.incH, ha.lowX, ha.lowY, ha.highX, ha.highY⟩) 1 (z 6) (Blk.set_ Db0.out.b 1 (.int .i64 (z 6))))
        refine hK.out _ _ (by exact ⟨Db1.out.q (j := 5) (by omega), Db1.out.q (j := 6) (by omega)⟩) (fun hHeld => ?_)
        clear hK K
        (try simp only [Act.put, List.getElem_toArray, List.getElem_cons_succ, List.getElem_cons_zero, List.setIfInBounds_toArray, List.set_cons_zero, List.set_cons_succ])
        refine wpAnyH_done (by kernel_rfl) ?_ _
        refine NoPanic.normal ?_
        clear e0 ef0 e1 ef1 e2 ef2 e3 ef3 e4 ef4 e5 ef5 e6 ef6 e7 ef7 e8 ef8 e9 ef9 e10 ef10 e11 ef11
        go_wp2_with fail
        go_meet
        exact Db1.out
    case rest =>
      obtain ⟨hb, hhb⟩ : ∃ x : Hn, x = ⟨(if t16 then z 5 else ha.minW), (if t16 then z 6 else ha.minH), ha.maxW, ha.maxH, ha.baseW, ha.baseH, ha.incW, ha.incH, ha.lowX, ha.lowY, ha.highX, ha.highY⟩ := ⟨_, rfl⟩
      rw [← hhb] at hcut
      have HHb := Lib.hid hhb
      clear hhb
      have B := Lib.hid hcut
      clear hcut
      obtain ⟨w1, hw1⟩ : ∃ w1, w1 = wc := ⟨_, rfl⟩
      subst hw1
      go_upto_region 10 with fail
      go_cut [58] (fun c wx => c = .bool (t16 && !t256) ∧ Dd w hb p o z wx)
      case first =>
        cases t16
        · go_wp2_with (first | (go_at_call 24; ((with_reducible refine (T16.out _).mono ?_); rintro e w1 ⟨rfl, rfl⟩)) | (go_at_call 24; ((with_reducible refine (T256.out _).mono ?_); rintro e w1 ⟨rfl, rfl⟩)))
          go_meet
          exact ⟨by simp, B.out⟩
        · go_wp2_with (first | (go_at_call 24; ((with_reducible refine (T16.out _).mono ?_); rintro e w1 ⟨rfl, rfl⟩)) | (go_at_call 24; ((with_reducible refine (T256.out _).mono ?_); rintro e w1 ⟨rfl, rfl⟩)))
          go_meet
          exact ⟨by simp, B.out⟩
      case rest =>
        obtain ⟨rfl, hD⟩ := hcut
        clear B
        have B := Lib.hid hD
        clear hD
        obtain ⟨w1, hw1⟩ : ∃ w1, w1 = wc := ⟨_, rfl⟩
        subst hw1
        generalize htt : (t16 && !t256) = tt
        have HTT := Lib.hid htt
        clear htt
        go_upto_if 58 with fail
        go_cut [] (fun wx => Dd w ⟨hb.minW, hb.minH, hb.maxW, hb.maxH, (if tt then z 5 else hb.baseW), (if tt then z 6 else hb.baseH), hb.incW, hb.incH, hb.lowX, hb.lowY, hb.highX, hb.highY⟩ p o z wx)
        case first =>
          cases tt
          · go_wp2_with fail
            go_meet
            exact B.out
          · go_upto_region 11 with fail
            have DD := Lib.hid B.out.drew
            obtain ⟨⟨e0, e1, e2, e3, e4, e5, e6, e7, e8, e9, e10, e11⟩, ⟨ef0, ef1, ef2, ef3, ef4, ef5, ef6, ef7, ef8, ef9, ef10, ef11⟩⟩ := B.out.b.out
            refine wp_region_noPanic ?_
            refine wp_region_held_drew (S := fun wx => wx.cell? ⟨p, o + 5, none⟩ = some (.int .i64 (z 5)) ∧ wx.cell? ⟨p, o + 6, none⟩ = some (.int .i64 (z 6))) (by kernel_rfl) (by exact ⟨DD.out.q (j := 5) (by omega), DD.out.q (j := 6) (by omega)⟩) (fun hHeld => ?_)
            refine wpAnyH_take (i := 0) (v := ?vc0) rfl (by kernel_rfl) (by kernel_rfl) (by kernel_rfl) (fun _ _ _ h => h) (Or.inl ⟨by kernel_rfl, ?yc0⟩) (by assumption) ?rc0
            case yc0 => (intro wq hSw; (try dsimp only at hSw); go_simp; (try with_reducible rfl))
            (try simp only [Act.put, List.getElem_toArray, List.getElem_cons_zero, List.setIfInBounds_toArray, List.set_cons_zero, List.set_cons_succ])
            refine wpAnyH_take (i := 1) (v := ?vc1) rfl (by kernel_rfl) (by kernel_rfl) (by kernel_rfl) (fun _ _ _ h => h) (Or.inl ⟨by kernel_rfl, ?yc1⟩) (by assumption) ?rc1
            case yc1 => (intro wq hSw; (try dsimp only at hSw); go_simp; (try with_reducible rfl))
            (try simp only [Act.put, List.getElem_toArray, List.getElem_cons_succ, List.getElem_cons_zero, List.setIfInBounds_toArray, List.set_cons_zero, List.set_cons_succ])
            refine wpAnyH_take (i := 2) (v := ?vc2) rfl (by kernel_rfl) (by kernel_rfl) (by kernel_rfl) (fun _ _ _ h => h) (Or.inl ⟨by kernel_rfl, ?yc2⟩) (by assumption) ?rc2
            case yc2 => (intro wq hSw; (try dsimp only at hSw); go_simp; (try with_reducible rfl))
            (try simp only [Act.put, List.getElem_toArray, List.getElem_cons_succ, List.getElem_cons_zero, List.setIfInBounds_toArray, List.set_cons_zero, List.set_cons_succ])
            refine wpAnyH_take (i := 3) (v := ?vc3) rfl (by kernel_rfl) (by kernel_rfl) (by kernel_rfl) (fun _ _ _ h => h) (Or.inl ⟨by kernel_rfl, ?yc3⟩) (by assumption) ?rc3
            case yc3 => (intro wq hSw; (try dsimp only at hSw); go_simp; (try with_reducible rfl))
            (try simp only [Act.put, List.getElem_toArray, List.getElem_cons_succ, List.getElem_cons_zero, List.setIfInBounds_toArray, List.set_cons_zero, List.set_cons_succ])
            refine wpAnyH_take (i := 4) (v := ?vc4) rfl (by kernel_rfl) (by kernel_rfl) (by kernel_rfl) (fun _ _ _ h => h) (Or.inl ⟨by kernel_rfl, ?yc4⟩) (by assumption) ?rc4
            case yc4 => (intro wq hSw; (try dsimp only at hSw); go_simp; (try with_reducible rfl))
            (try simp only [Act.put, List.getElem_toArray, List.getElem_cons_succ, List.getElem_cons_zero, List.setIfInBounds_toArray, List.set_cons_zero, List.set_cons_succ])
            refine wpAnyH_take (i := 5) (v := ?vc5) rfl (by kernel_rfl) (by kernel_rfl) (by kernel_rfl) (fun _ _ _ h => h) (Or.inl ⟨by kernel_rfl, ?yc5⟩) (by assumption) ?rc5
            case yc5 => (intro wq hSw; (try dsimp only at hSw); go_simp; (try with_reducible rfl))
            (try simp only [Act.put, List.getElem_toArray, List.getElem_cons_succ, List.getElem_cons_zero, List.setIfInBounds_toArray, List.set_cons_zero, List.set_cons_succ])
            refine wpAnyH_take (i := 6) (v := ?vc6) rfl (by kernel_rfl) (by kernel_rfl) (by kernel_rfl) (fun _ _ _ h => h) (Or.inl ⟨by kernel_rfl, ?yc6⟩) (by assumption) ?rc6
            case yc6 => (intro wq hSw; (try dsimp only at hSw); go_simp; (try with_reducible rfl))
            (try simp only [Act.put, List.getElem_toArray, List.getElem_cons_succ, List.getElem_cons_zero, List.setIfInBounds_toArray, List.set_cons_zero, List.set_cons_succ])
            refine wpAnyH_ready (rs := [7]) (by kernel_rfl) (by simp) ?_
            refine AllReadyH.cons rfl (fun K hK => ?_) AllReadyH.nil
            go_simp; have Dc0 := Lib.hid (DD.out.set (h' := ⟨hb.minW, hb.minH, hb.maxW, hb.maxH, z 5, hb.baseH, hb.incW, hb.incH, hb.lowX, hb.lowY, hb.highX, hb.highY⟩) 4 (z 5) (Blk.set_ DD.out.b 4 (.int .i64 (z 5))))
            refine hK.out _ _ (by exact ⟨Dc0.out.q (j := 5) (by omega), Dc0.out.q (j := 6) (by omega)⟩) (fun hHeld => ?_)
            clear hK K
            (try simp only [Act.put, List.getElem_toArray, List.getElem_cons_succ, List.getElem_cons_zero, List.setIfInBounds_toArray, List.set_cons_zero, List.set_cons_succ])
            refine wpAnyH_take (i := 8) (v := ?vc8) rfl (by kernel_rfl) (by kernel_rfl) (by kernel_rfl) (fun _ _ _ h => h) (Or.inl ⟨by kernel_rfl, ?yc8⟩) (by assumption) ?rc8
            case yc8 => (intro wq hSw; (try dsimp only at hSw); go_simp; (try with_reducible rfl))
            (try simp only [Act.put, List.getElem_toArray, List.getElem_cons_succ, List.getElem_cons_zero, List.setIfInBounds_toArray, List.set_cons_zero, List.set_cons_succ])
            refine wpAnyH_ready (rs := [9]) (by kernel_rfl) (by simp) ?_
            refine AllReadyH.cons rfl (fun K hK => ?_) AllReadyH.nil
            go_simp; have Dc1 := Lib.hid (Dc0.out.set (h' := ⟨hb.minW, hb.minH, hb.maxW, hb.maxH, z 5, z 6, hb.incW, hb.incH, hb.lowX, hb.lowY, hb.highX, hb.highY⟩) 5 (z 6) (Blk.set_ Dc0.out.b 5 (.int .i64 (z 6))))
            refine hK.out _ _ (by exact ⟨Dc1.out.q (j := 5) (by omega), Dc1.out.q (j := 6) (by omega)⟩) (fun hHeld => ?_)
            clear hK K
            (try simp only [Act.put, List.getElem_toArray, List.getElem_cons_succ, List.getElem_cons_zero, List.setIfInBounds_toArray, List.set_cons_zero, List.set_cons_succ])
            refine wpAnyH_done (by kernel_rfl) ?_ _
            refine NoPanic.normal ?_
            clear e0 ef0 e1 ef1 e2 ef2 e3 ef3 e4 ef4 e5 ef5 e6 ef6 e7 ef7 e8 ef8 e9 ef9 e10 ef10 e11 ef11
            go_wp2_with fail
            go_meet
            exact Dc1.out
        case rest =>
          obtain ⟨hc, hhc⟩ : ∃ x : Hn, x = ⟨hb.minW, hb.minH, hb.maxW, hb.maxH, (if tt then z 5 else hb.baseW), (if tt then z 6 else hb.baseH), hb.incW, hb.incH, hb.lowX, hb.lowY, hb.highX, hb.highY⟩ := ⟨_, rfl⟩
          rw [← hhc] at hcut
          have HHc := Lib.hid hhc
          clear hhc
          have C := Lib.hid hcut
          clear hcut
          obtain ⟨w1, hw1⟩ : ∃ w1, w1 = wc := ⟨_, rfl⟩
          subst hw1
          go_upto_if 68 with (go_at_call 24; ((with_reducible refine (T32.out _).mono ?_); rintro e w1 ⟨rfl, rfl⟩))
          go_cut [] (fun wx => Dd w ⟨hc.minW, hc.minH, (if t32 then z 7 else hc.maxW), (if t32 then z 8 else hc.maxH), hc.baseW, hc.baseH, hc.incW, hc.incH, hc.lowX, hc.lowY, hc.highX, hc.highY⟩ p o z wx)
          case first =>
            cases t32
            · go_wp2_with fail
              go_meet
              exact C.out
            · go_upto_region 13 with fail
              have DD := Lib.hid C.out.drew
              obtain ⟨⟨e0, e1, e2, e3, e4, e5, e6, e7, e8, e9, e10, e11⟩, ⟨ef0, ef1, ef2, ef3, ef4, ef5, ef6, ef7, ef8, ef9, ef10, ef11⟩⟩ := C.out.b.out
              refine wp_region_noPanic ?_
              refine wp_region_held_drew (S := fun wx => wx.cell? ⟨p, o + 7, none⟩ = some (.int .i64 (z 7)) ∧ wx.cell? ⟨p, o + 8, none⟩ = some (.int .i64 (z 8))) (by kernel_rfl) (by exact ⟨DD.out.q (j := 7) (by omega), DD.out.q (j := 8) (by omega)⟩) (fun hHeld => ?_)
              refine wpAnyH_take (i := 0) (v := ?vd0) rfl (by kernel_rfl) (by kernel_rfl) (by kernel_rfl) (fun _ _ _ h => h) (Or.inl ⟨by kernel_rfl, ?yd0⟩) (by assumption) ?rd0
              case yd0 => (intro wq hSw; (try dsimp only at hSw); go_simp; (try with_reducible rfl))
              (try simp only [Act.put, List.getElem_toArray, List.getElem_cons_zero, List.setIfInBounds_toArray, List.set_cons_zero, List.set_cons_succ])
              refine wpAnyH_take (i := 1) (v := ?vd1) rfl (by kernel_rfl) (by kernel_rfl) (by kernel_rfl) (fun _ _ _ h => h) (Or.inl ⟨by kernel_rfl, ?yd1⟩) (by assumption) ?rd1
              case yd1 => (intro wq hSw; (try dsimp only at hSw); go_simp; (try with_reducible rfl))
              (try simp only [Act.put, List.getElem_toArray, List.getElem_cons_succ, List.getElem_cons_zero, List.setIfInBounds_toArray, List.set_cons_zero, List.set_cons_succ])
              refine wpAnyH_take (i := 2) (v := ?vd2) rfl (by kernel_rfl) (by kernel_rfl) (by kernel_rfl) (fun _ _ _ h => h) (Or.inl ⟨by kernel_rfl, ?yd2⟩) (by assumption) ?rd2
              case yd2 => (intro wq hSw; (try dsimp only at hSw); go_simp; (try with_reducible rfl))
              (try simp only [Act.put, List.getElem_toArray, List.getElem_cons_succ, List.getElem_cons_zero, List.setIfInBounds_toArray, List.set_cons_zero, List.set_cons_succ])
              refine wpAnyH_take (i := 3) (v := ?vd3) rfl (by kernel_rfl) (by kernel_rfl) (by kernel_rfl) (fun _ _ _ h => h) (Or.inl ⟨by kernel_rfl, ?yd3⟩) (by assumption) ?rd3
              case yd3 => (intro wq hSw; (try dsimp only at hSw); go_simp; (try with_reducible rfl))
              (try simp only [Act.put, List.getElem_toArray, List.getElem_cons_succ, List.getElem_cons_zero, List.setIfInBounds_toArray, List.set_cons_zero, List.set_cons_succ])
              refine wpAnyH_take (i := 4) (v := ?vd4) rfl (by kernel_rfl) (by kernel_rfl) (by kernel_rfl) (fun _ _ _ h => h) (Or.inl ⟨by kernel_rfl, ?yd4⟩) (by assumption) ?rd4
              case yd4 => (intro wq hSw; (try dsimp only at hSw); go_simp; (try with_reducible rfl))
              (try simp only [Act.put, List.getElem_toArray, List.getElem_cons_succ, List.getElem_cons_zero, List.setIfInBounds_toArray, List.set_cons_zero, List.set_cons_succ])
              refine wpAnyH_take (i := 5) (v := ?vd5) rfl (by kernel_rfl) (by kernel_rfl) (by kernel_rfl) (fun _ _ _ h => h) (Or.inl ⟨by kernel_rfl, ?yd5⟩) (by assumption) ?rd5
              case yd5 => (intro wq hSw; (try dsimp only at hSw); go_simp; (try with_reducible rfl))
              (try simp only [Act.put, List.getElem_toArray, List.getElem_cons_succ, List.getElem_cons_zero, List.setIfInBounds_toArray, List.set_cons_zero, List.set_cons_succ])
              refine wpAnyH_take (i := 6) (v := ?vd6) rfl (by kernel_rfl) (by kernel_rfl) (by kernel_rfl) (fun _ _ _ h => h) (Or.inl ⟨by kernel_rfl, ?yd6⟩) (by assumption) ?rd6
              case yd6 => (intro wq hSw; (try dsimp only at hSw); go_simp; (try with_reducible rfl))
              (try simp only [Act.put, List.getElem_toArray, List.getElem_cons_succ, List.getElem_cons_zero, List.setIfInBounds_toArray, List.set_cons_zero, List.set_cons_succ])
              refine wpAnyH_ready (rs := [7]) (by kernel_rfl) (by simp) ?_
              refine AllReadyH.cons rfl (fun K hK => ?_) AllReadyH.nil
              go_simp; have Dd0 := Lib.hid (DD.out.set (h' := ⟨hc.minW, hc.minH, z 7, hc.maxH, hc.baseW, hc.baseH, hc.incW, hc.incH, hc.lowX, hc.lowY, hc.highX, hc.highY⟩) 2 (z 7) (Blk.set_ DD.out.b 2 (.int .i64 (z 7))))
              refine hK.out _ _ (by exact ⟨Dd0.out.q (j := 7) (by omega), Dd0.out.q (j := 8) (by omega)⟩) (fun hHeld => ?_)
              clear hK K
              (try simp only [Act.put, List.getElem_toArray, List.getElem_cons_succ, List.getElem_cons_zero, List.setIfInBounds_toArray, List.set_cons_zero, List.set_cons_succ])
              refine wpAnyH_take (i := 8) (v := ?vd8) rfl (by kernel_rfl) (by kernel_rfl) (by kernel_rfl) (fun _ _ _ h => h) (Or.inl ⟨by kernel_rfl, ?yd8⟩) (by assumption) ?rd8
              case yd8 => (intro wq hSw; (try dsimp only at hSw); go_simp; (try with_reducible rfl))
              (try simp only [Act.put, List.getElem_toArray, List.getElem_cons_succ, List.getElem_cons_zero, List.setIfInBounds_toArray, List.set_cons_zero, List.set_cons_succ])
              refine wpAnyH_ready (rs := [9]) (by kernel_rfl) (by simp) ?_
              refine AllReadyH.cons rfl (fun K hK => ?_) AllReadyH.nil
              go_simp; have Dd1 := Lib.hid (Dd0.out.set (h' := ⟨hc.minW, hc.minH, z 7, z 8, hc.baseW, hc.baseH, hc.incW, hc.incH, hc.lowX, hc.lowY, hc.highX, hc.highY⟩) 3 (z 8) (Blk.set_ Dd0.out.b 3 (.int .i64 (z 8))))
              refine hK.out _ _ (by exact ⟨Dd1.out.q (j := 7) (by omega), Dd1.out.q (j := 8) (by omega)⟩) (fun hHeld => ?_)
              clear hK K
              (try simp only [Act.put, List.getElem_toArray, List.getElem_cons_succ, List.getElem_cons_zero, List.setIfInBounds_toArray, List.set_cons_zero, List.set_cons_succ])
              refine wpAnyH_done (by kernel_rfl) ?_ _
              refine NoPanic.normal ?_
              clear e0 ef0 e1 ef1 e2 ef2 e3 ef3 e4 ef4 e5 ef5 e6 ef6 e7 ef7 e8 ef8 e9 ef9 e10 ef10 e11 ef11
              go_wp2_with fail
              go_meet
              exact Dd1.out
          case rest =>
            obtain ⟨hd, hhd⟩ : ∃ x : Hn, x = ⟨hc.minW, hc.minH, (if t32 then z 7 else hc.maxW), (if t32 then z 8 else hc.maxH), hc.baseW, hc.baseH, hc.incW, hc.incH, hc.lowX, hc.lowY, hc.highX, hc.highY⟩ := ⟨_, rfl⟩
            rw [← hhd] at hcut
            have HHd := Lib.hid hhd
            clear hhd
            have D := Lib.hid hcut
            clear hcut
            obtain ⟨w1, hw1⟩ : ∃ w1, w1 = wc := ⟨_, rfl⟩
            subst hw1
            go_upto_if 78 with (go_at_call 24; ((with_reducible refine (T64.out _).mono ?_); rintro e w1 ⟨rfl, rfl⟩))
            go_cut [] (fun wx => Dd w ⟨hd.minW, hd.minH, hd.maxW, hd.maxH, hd.baseW, hd.baseH, (if t64 then z 9 else hd.incW), (if t64 then z 10 else hd.incH), hd.lowX, hd.lowY, hd.highX, hd.highY⟩ p o z wx)
            case first =>
              cases t64
              · go_wp2_with fail
                go_meet
                exact D.out
              · go_upto_region 15 with fail
                have DD := Lib.hid D.out.drew
                obtain ⟨⟨e0, e1, e2, e3, e4, e5, e6, e7, e8, e9, e10, e11⟩, ⟨ef0, ef1, ef2, ef3, ef4, ef5, ef6, ef7, ef8, ef9, ef10, ef11⟩⟩ := D.out.b.out
                refine wp_region_noPanic ?_
                refine wp_region_held_drew (S := fun wx => wx.cell? ⟨p, o + 9, none⟩ = some (.int .i64 (z 9)) ∧ wx.cell? ⟨p, o + 10, none⟩ = some (.int .i64 (z 10))) (by kernel_rfl) (by exact ⟨DD.out.q (j := 9) (by omega), DD.out.q (j := 10) (by omega)⟩) (fun hHeld => ?_)
                refine wpAnyH_take (i := 0) (v := ?vg0) rfl (by kernel_rfl) (by kernel_rfl) (by kernel_rfl) (fun _ _ _ h => h) (Or.inl ⟨by kernel_rfl, ?yg0⟩) (by assumption) ?rg0
                case yg0 => (intro wq hSw; (try dsimp only at hSw); go_simp; (try with_reducible rfl))
                (try simp only [Act.put, List.getElem_toArray, List.getElem_cons_zero, List.setIfInBounds_toArray, List.set_cons_zero, List.set_cons_succ])
                refine wpAnyH_take (i := 1) (v := ?vg1) rfl (by kernel_rfl) (by kernel_rfl) (by kernel_rfl) (fun _ _ _ h => h) (Or.inl ⟨by kernel_rfl, ?yg1⟩) (by assumption) ?rg1
                case yg1 => (intro wq hSw; (try dsimp only at hSw); go_simp; (try with_reducible rfl))
                (try simp only [Act.put, List.getElem_toArray, List.getElem_cons_succ, List.getElem_cons_zero, List.setIfInBounds_toArray, List.set_cons_zero, List.set_cons_succ])
                refine wpAnyH_take (i := 2) (v := ?vg2) rfl (by kernel_rfl) (by kernel_rfl) (by kernel_rfl) (fun _ _ _ h => h) (Or.inl ⟨by kernel_rfl, ?yg2⟩) (by assumption) ?rg2
                case yg2 => (intro wq hSw; (try dsimp only at hSw); go_simp; (try with_reducible rfl))
                (try simp only [Act.put, List.getElem_toArray, List.getElem_cons_succ, List.getElem_cons_zero, List.setIfInBounds_toArray, List.set_cons_zero, List.set_cons_succ])
                refine wpAnyH_take (i := 3) (v := ?vg3) rfl (by kernel_rfl) (by kernel_rfl) (by kernel_rfl) (fun _ _ _ h => h) (Or.inl ⟨by kernel_rfl, ?yg3⟩) (by assumption) ?rg3
                case yg3 => (intro wq hSw; (try dsimp only at hSw); go_simp; (try with_reducible rfl))
                (try simp only [Act.put, List.getElem_toArray, List.getElem_cons_succ, List.getElem_cons_zero, List.setIfInBounds_toArray, List.set_cons_zero, List.set_cons_succ])
                refine wpAnyH_take (i := 4) (v := ?vg4) rfl (by kernel_rfl) (by kernel_rfl) (by kernel_rfl) (fun _ _ _ h => h) (Or.inl ⟨by kernel_rfl, ?yg4⟩) (by assumption) ?rg4
                case yg4 => (intro wq hSw; (try dsimp only at hSw); go_simp; (try with_reducible rfl))
                (try simp only [Act.put, List.getElem_toArray, List.getElem_cons_succ, List.getElem_cons_zero, List.setIfInBounds_toArray, List.set_cons_zero, List.set_cons_succ])
                refine wpAnyH_take (i := 5) (v := ?vg5) rfl (by kernel_rfl) (by kernel_rfl) (by kernel_rfl) (fun _ _ _ h => h) (Or.inl ⟨by kernel_rfl, ?yg5⟩) (by assumption) ?rg5
                case yg5 => (intro wq hSw; (try dsimp only at hSw); go_simp; (try with_reducible rfl))
                (try simp only [Act.put, List.getElem_toArray, List.getElem_cons_succ, List.getElem_cons_zero, List.setIfInBounds_toArray, List.set_cons_zero, List.set_cons_succ])
                refine wpAnyH_take (i := 6) (v := ?vg6) rfl (by kernel_rfl) (by kernel_rfl) (by kernel_rfl) (fun _ _ _ h => h) (Or.inl ⟨by kernel_rfl, ?yg6⟩) (by assumption) ?rg6
                case yg6 => (intro wq hSw; (try dsimp only at hSw); go_simp; (try with_reducible rfl))
                (try simp only [Act.put, List.getElem_toArray, List.getElem_cons_succ, List.getElem_cons_zero, List.setIfInBounds_toArray, List.set_cons_zero, List.set_cons_succ])
                refine wpAnyH_ready (rs := [7]) (by kernel_rfl) (by simp) ?_
                refine AllReadyH.cons rfl (fun K hK => ?_) AllReadyH.nil
                go_simp; have Dg0 := Lib.hid (DD.out.set (h' := ⟨hd.minW, hd.minH, hd.maxW, hd.maxH, hd.baseW, hd.baseH, z 9, hd.incH, hd.lowX, hd.lowY, hd.highX, hd.highY⟩) 6 (z 9) (Blk.set_ DD.out.b 6 (.int .i64 (z 9))))
                refine hK.out _ _ (by exact ⟨Dg0.out.q (j := 9) (by omega), Dg0.out.q (j := 10) (by omega)⟩) (fun hHeld => ?_)
                clear hK K
                (try simp only [Act.put, List.getElem_toArray, List.getElem_cons_succ, List.getElem_cons_zero, List.setIfInBounds_toArray, List.set_cons_zero, List.set_cons_succ])
                refine wpAnyH_take (i := 8) (v := ?vg8) rfl (by kernel_rfl) (by kernel_rfl) (by kernel_rfl) (fun _ _ _ h => h) (Or.inl ⟨by kernel_rfl, ?yg8⟩) (by assumption) ?rg8
                case yg8 => (intro wq hSw; (try dsimp only at hSw); go_simp; (try with_reducible rfl))
                (try simp only [Act.put, List.getElem_toArray, List.getElem_cons_succ, List.getElem_cons_zero, List.setIfInBounds_toArray, List.set_cons_zero, List.set_cons_succ])
                refine wpAnyH_ready (rs := [9]) (by kernel_rfl) (by simp) ?_
                refine AllReadyH.cons rfl (fun K hK => ?_) AllReadyH.nil
                go_simp; have Dg1 := Lib.hid (Dg0.out.set (h' := ⟨hd.minW, hd.minH, hd.maxW, hd.maxH, hd.baseW, hd.baseH, z 9, z 10, hd.lowX, hd.lowY, hd.highX, hd.highY⟩) 7 (z 10) (Blk.set_ Dg0.out.b 7 (.int .i64 (z 10))))
                refine hK.out _ _ (by exact ⟨Dg1.out.q (j := 9) (by omega), Dg1.out.q (j := 10) (by omega)⟩) (fun hHeld => ?_)
                clear hK K
                (try simp only [Act.put, List.getElem_toArray, List.getElem_cons_succ, List.getElem_cons_zero, List.setIfInBounds_toArray, List.set_cons_zero, List.set_cons_succ])
                refine wpAnyH_done (by kernel_rfl) ?_ _
                refine NoPanic.normal ?_
                clear e0 ef0 e1 ef1 e2 ef2 e3 ef3 e4 ef4 e5 ef5 e6 ef6 e7 ef7 e8 ef8 e9 ef9 e10 ef10 e11 ef11
                go_wp2_with fail
                go_meet
                exact Dg1.out
            case rest =>
              obtain ⟨hg, hhg⟩ : ∃ x : Hn, x = ⟨hd.minW, hd.minH, hd.maxW, hd.maxH, hd.baseW, hd.baseH, (if t64 then z 9 else hd.incW), (if t64 then z 10 else hd.incH), hd.lowX, hd.lowY, hd.highX, hd.highY⟩ := ⟨_, rfl⟩
              rw [← hhg] at hcut
              have HHg := Lib.hid hhg
              clear hhg
              have G := Lib.hid hcut
              clear hcut
              obtain ⟨w1, hw1⟩ : ∃ w1, w1 = wc := ⟨_, rfl⟩
              subst hw1
              go_upto_if 88 with (go_at_call 24; ((with_reducible refine (T128.out _).mono ?_); rintro e w1 ⟨rfl, rfl⟩))
              go_cut [] (fun wx => Dd w ⟨hg.minW, hg.minH, hg.maxW, hg.maxH, hg.baseW, hg.baseH, hg.incW, hg.incH, (if t128 then z 11 else hg.lowX), (if t128 then z 12 else hg.lowY), (if t128 then z 13 else hg.highX), (if t128 then z 14 else hg.highY)⟩ p o z wx)
              case first =>
                cases t128
                · go_wp2_with fail
                  go_meet
                  exact G.out
                · go_upto_region 17 with fail
                  have DD := Lib.hid G.out.drew
                  obtain ⟨⟨e0, e1, e2, e3, e4, e5, e6, e7, e8, e9, e10, e11⟩, ⟨ef0, ef1, ef2, ef3, ef4, ef5, ef6, ef7, ef8, ef9, ef10, ef11⟩⟩ := G.out.b.out
                  refine wp_region_noPanic ?_
                  refine wp_region_held_drew (S := fun wx => wx.cell? ⟨p, o + 11, none⟩ = some (.int .i64 (z 11)) ∧ wx.cell? ⟨p, o + 12, none⟩ = some (.int .i64 (z 12)) ∧ wx.cell? ⟨p, o + 13, none⟩ = some (.int .i64 (z 13)) ∧ wx.cell? ⟨p, o + 14, none⟩ = some (.int .i64 (z 14))) (by kernel_rfl) (by exact ⟨DD.out.q (j := 11) (by omega), DD.out.q (j := 12) (by omega), DD.out.q (j := 13) (by omega), DD.out.q (j := 14) (by omega)⟩) (fun hHeld => ?_)
                  refine wpAnyH_take (i := 0) (v := ?vi0) rfl (by kernel_rfl) (by kernel_rfl) (by kernel_rfl) (fun _ _ _ h => h) (Or.inl ⟨by kernel_rfl, ?yi0⟩) (by assumption) ?ri0
                  case yi0 => (intro wq hSw; (try dsimp only at hSw); go_simp; (try with_reducible rfl))
                  (try simp only [Act.put, List.getElem_toArray, List.getElem_cons_zero, List.setIfInBounds_toArray, List.set_cons_zero, List.set_cons_succ])
                  refine wpAnyH_take (i := 1) (v := ?vi1) rfl (by kernel_rfl) (by kernel_rfl) (by kernel_rfl) (fun _ _ _ h => h) (Or.inl ⟨by kernel_rfl, ?yi1⟩) (by assumption) ?ri1
                  case yi1 => (intro wq hSw; (try dsimp only at hSw); go_simp; (try with_reducible rfl))
                  (try simp only [Act.put, List.getElem_toArray, List.getElem_cons_succ, List.getElem_cons_zero, List.setIfInBounds_toArray, List.set_cons_zero, List.set_cons_succ])
                  refine wpAnyH_take (i := 2) (v := ?vi2) rfl (by kernel_rfl) (by kernel_rfl) (by kernel_rfl) (fun _ _ _ h => h) (Or.inl ⟨by kernel_rfl, ?yi2⟩) (by assumption) ?ri2
                  case yi2 => (intro wq hSw; (try dsimp only at hSw); go_simp; (try with_reducible rfl))
                  (try simp only [Act.put, List.getElem_toArray, List.getElem_cons_succ, List.getElem_cons_zero, List.setIfInBounds_toArray, List.set_cons_zero, List.set_cons_succ])
                  refine wpAnyH_take (i := 3) (v := ?vi3) rfl (by kernel_rfl) (by kernel_rfl) (by kernel_rfl) (fun _ _ _ h => h) (Or.inl ⟨by kernel_rfl, ?yi3⟩) (by assumption) ?ri3
                  case yi3 => (intro wq hSw; (try dsimp only at hSw); go_simp; (try with_reducible rfl))
                  (try simp only [Act.put, List.getElem_toArray, List.getElem_cons_succ, List.getElem_cons_zero, List.setIfInBounds_toArray, List.set_cons_zero, List.set_cons_succ])
                  refine wpAnyH_take (i := 4) (v := ?vi4) rfl (by kernel_rfl) (by kernel_rfl) (by kernel_rfl) (fun _ _ _ h => h) (Or.inl ⟨by kernel_rfl, ?yi4⟩) (by assumption) ?ri4
                  case yi4 => (intro wq hSw; (try dsimp only at hSw); go_simp; (try with_reducible rfl))
                  (try simp only [Act.put, List.getElem_toArray, List.getElem_cons_succ, List.getElem_cons_zero, List.setIfInBounds_toArray, List.set_cons_zero, List.set_cons_succ])
                  refine wpAnyH_take (i := 5) (v := ?vi5) rfl (by kernel_rfl) (by kernel_rfl) (by kernel_rfl) (fun _ _ _ h => h) (Or.inl ⟨by kernel_rfl, ?yi5⟩) (by assumption) ?ri5
                  case yi5 => (intro wq hSw; (try dsimp only at hSw); go_simp; (try with_reducible rfl))
                  (try simp only [Act.put, List.getElem_toArray, List.getElem_cons_succ, List.getElem_cons_zero, List.setIfInBounds_toArray, List.set_cons_zero, List.set_cons_succ])
                  refine wpAnyH_take (i := 6) (v := ?vi6) rfl (by kernel_rfl) (by kernel_rfl) (by kernel_rfl) (fun _ _ _ h => h) (Or.inl ⟨by kernel_rfl, ?yi6⟩) (by assumption) ?ri6
                  case yi6 => (intro wq hSw; (try dsimp only at hSw); go_simp; (try with_reducible rfl))
                  (try simp only [Act.put, List.getElem_toArray, List.getElem_cons_succ, List.getElem_cons_zero, List.setIfInBounds_toArray, List.set_cons_zero, List.set_cons_succ])
                  refine wpAnyH_take (i := 7) (v := ?vi7) rfl (by kernel_rfl) (by kernel_rfl) (by kernel_rfl) (fun _ _ _ h => h) (Or.inl ⟨by kernel_rfl, ?yi7⟩) (by assumption) ?ri7
                  case yi7 => (intro wq hSw; (try dsimp only at hSw); go_simp; (try with_reducible rfl))
                  (try simp only [Act.put, List.getElem_toArray, List.getElem_cons_succ, List.getElem_cons_zero, List.setIfInBounds_toArray, List.set_cons_zero, List.set_cons_succ])
                  refine wpAnyH_take (i := 8) (v := ?vi8) rfl (by kernel_rfl) (by kernel_rfl) (by kernel_rfl) (fun _ _ _ h => h) (Or.inl ⟨by kernel_rfl, ?yi8⟩) (by assumption) ?ri8
                  case yi8 => (intro wq hSw; (try dsimp only at hSw); go_simp; (try with_reducible rfl))
                  (try simp only [Act.put, List.getElem_toArray, List.getElem_cons_succ, List.getElem_cons_zero, List.setIfInBounds_toArray, List.set_cons_zero, List.set_cons_succ])
                  refine wpAnyH_take (i := 9) (v := ?vi9) rfl (by kernel_rfl) (by kernel_rfl) (by kernel_rfl) (fun _ _ _ h => h) (Or.inl ⟨by kernel_rfl, ?yi9⟩) (by assumption) ?ri9
                  case yi9 => (intro wq hSw; (try dsimp only at hSw); go_simp; (try with_reducible rfl))
                  (try simp only [Act.put, List.getElem_toArray, List.getElem_cons_succ, List.getElem_cons_zero, List.setIfInBounds_toArray, List.set_cons_zero, List.set_cons_succ])
                  refine wpAnyH_take (i := 10) (v := ?vi10) rfl (by kernel_rfl) (by kernel_rfl) (by kernel_rfl) (fun _ _ _ h => h) (Or.inl ⟨by kernel_rfl, ?yi10⟩) (by assumption) ?ri10
                  case yi10 => (intro wq hSw; (try dsimp only at hSw); go_simp; (try with_reducible rfl))
                  (try simp only [Act.put, List.getElem_toArray, List.getElem_cons_succ, List.getElem_cons_zero, List.setIfInBounds_toArray, List.set_cons_zero, List.set_cons_succ])
                  refine wpAnyH_take (i := 11) (v := ?vi11) rfl (by kernel_rfl) (by kernel_rfl) (by kernel_rfl) (fun _ _ _ h => h) (Or.inl ⟨by kernel_rfl, ?yi11⟩) (by assumption) ?ri11
                  case yi11 => (intro wq hSw; (try dsimp only at hSw); go_simp; (try with_reducible rfl))
                  (try simp only [Act.put, List.getElem_toArray, List.getElem_cons_succ, List.getElem_cons_zero, List.setIfInBounds_toArray, List.set_cons_zero, List.set_cons_succ])
                  refine wpAnyH_take (i := 12) (v := ?vi12) rfl (by kernel_rfl) (by kernel_rfl) (by kernel_rfl) (fun _ _ _ h => h) (Or.inl ⟨by kernel_rfl, ?yi12⟩) (by assumption) ?ri12
                  case yi12 => (intro wq hSw; (try dsimp only at hSw); go_simp; (try with_reducible rfl))
                  (try simp only [Act.put, List.getElem_toArray, List.getElem_cons_succ, List.getElem_cons_zero, List.setIfInBounds_toArray, List.set_cons_zero, List.set_cons_succ])
                  refine wpAnyH_ready (rs := [13]) (by kernel_rfl) (by simp) ?_
                  refine AllReadyH.cons rfl (fun K hK => ?_) AllReadyH.nil
                  go_simp; have Di0 := Lib.hid (DD.out.set (h' := ⟨hg.minW, hg.minH, hg.maxW, hg.maxH, hg.baseW, hg.baseH, hg.incW, hg.incH, z 11, hg.lowY, hg.highX, hg.highY⟩) 8 (z 11) (Blk.set_ DD.out.b 8 (.int .i64 (z 11))))
                  refine hK.out _ _ (by exact ⟨Di0.out.q (j := 11) (by omega), Di0.out.q (j := 12) (by omega), Di0.out.q (j := 13) (by omega), Di0.out.q (j := 14) (by omega)⟩) (fun hHeld => ?_)
                  clear hK K
                  (try simp only [Act.put, List.getElem_toArray, List.getElem_cons_succ, List.getElem_cons_zero, List.setIfInBounds_toArray, List.set_cons_zero, List.set_cons_succ])
                  refine wpAnyH_take (i := 14) (v := ?vi14) rfl (by kernel_rfl) (by kernel_rfl) (by kernel_rfl) (fun _ _ _ h => h) (Or.inl ⟨by kernel_rfl, ?yi14⟩) (by assumption) ?ri14
                  case yi14 => (intro wq hSw; (try dsimp only at hSw); go_simp; (try with_reducible rfl))
                  (try simp only [Act.put, List.getElem_toArray, List.getElem_cons_succ, List.getElem_cons_zero, List.setIfInBounds_toArray, List.set_cons_zero, List.set_cons_succ])
                  refine wpAnyH_ready (rs := [15]) (by kernel_rfl) (by simp) ?_
                  refine AllReadyH.cons rfl (fun K hK => ?_) AllReadyH.nil
                  go_simp; have Di1 := Lib.hid (Di0.out.set (h' := ⟨hg.minW, hg.minH, hg.maxW, hg.maxH, hg.baseW, hg.baseH, hg.incW, hg.incH, z 11, z 12, hg.highX, hg.highY⟩) 9 (z 12) (Blk.set_ Di0.out.b 9 (.int .i64 (z 12))))
                  refine hK.out _ _ (by exact ⟨Di1.out.q (j := 11) (by omega), Di1.out.q (j := 12) (by omega), Di1.out.q (j := 13) (by omega), Di1.out.q (j := 14) (by omega)⟩) (fun hHeld => ?_)
                  clear hK K
                  (try simp only [Act.put, List.getElem_toArray, List.getElem_cons_succ, List.getElem_cons_zero, List.setIfInBounds_toArray, List.set_cons_zero, List.set_cons_succ])
                  refine wpAnyH_take (i := 16) (v := ?vi16) rfl (by kernel_rfl) (by kernel_rfl) (by kernel_rfl) (fun _ _ _ h => h) (Or.inl ⟨by kernel_rfl, ?yi16⟩) (by assumption) ?ri16
                  case yi16 => (intro wq hSw; (try dsimp only at hSw); go_simp; (try with_reducible rfl))
                  (try simp only [Act.put, List.getElem_toArray, List.getElem_cons_succ, List.getElem_cons_zero, List.setIfInBounds_toArray, List.set_cons_zero, List.set_cons_succ])
                  refine wpAnyH_ready (rs := [17]) (by kernel_rfl) (by simp) ?_
                  refine AllReadyH.cons rfl (fun K hK => ?_) AllReadyH.nil
                  go_simp; have Di2 := Lib.hid (Di1.out.set (h' := ⟨hg.minW, hg.minH, hg.maxW, hg.maxH, hg.baseW, hg.baseH, hg.incW, hg.incH, z 11, z 12, z 13, hg.highY⟩) 10 (z 13) (Blk.set_ Di1.out.b 10 (.int .i64 (z 13))))
                  refine hK.out _ _ (by exact ⟨Di2.out.q (j := 11) (by omega), Di2.out.q (j := 12) (by omega), Di2.out.q (j := 13) (by omega), Di2.out.q (j := 14) (by omega)⟩) (fun hHeld => ?_)
                  clear hK K
                  (try simp only [Act.put, List.getElem_toArray, List.getElem_cons_succ, List.getElem_cons_zero, List.setIfInBounds_toArray, List.set_cons_zero, List.set_cons_succ])
                  refine wpAnyH_take (i := 18) (v := ?vi18) rfl (by kernel_rfl) (by kernel_rfl) (by kernel_rfl) (fun _ _ _ h => h) (Or.inl ⟨by kernel_rfl, ?yi18⟩) (by assumption) ?ri18
                  case yi18 => (intro wq hSw; (try dsimp only at hSw); go_simp; (try with_reducible rfl))
                  (try simp only [Act.put, List.getElem_toArray, List.getElem_cons_succ, List.getElem_cons_zero, List.setIfInBounds_toArray, List.set_cons_zero, List.set_cons_succ])
                  refine wpAnyH_ready (rs := [19]) (by kernel_rfl) (by simp) ?_
                  refine AllReadyH.cons rfl (fun K hK => ?_) AllReadyH.nil
                  go_simp; have Di3 := Lib.hid (Di2.out.set (h' := ⟨hg.minW, hg.minH, hg.maxW, hg.maxH, hg.baseW, hg.baseH, hg.incW, hg.incH, z 11, z 12, z 13, z 14⟩) 11 (z 14) (Blk.set_ Di2.out.b 11 (.int .i64 (z 14))))
                  refine hK.out _ _ (by exact ⟨Di3.out.q (j := 11) (by omega), Di3.out.q (j := 12) (by omega), Di3.out.q (j := 13) (by omega), Di3.out.q (j := 14) (by omega)⟩) (fun hHeld => ?_)
                  clear hK K
                  (try simp only [Act.put, List.getElem_toArray, List.getElem_cons_succ, List.getElem_cons_zero, List.setIfInBounds_toArray, List.set_cons_zero, List.set_cons_succ])
                  refine wpAnyH_done (by kernel_rfl) ?_ _
                  refine NoPanic.normal ?_
                  clear e0 ef0 e1 ef1 e2 ef2 e3 ef3 e4 ef4 e5 ef5 e6 ef6 e7 ef7 e8 ef8 e9 ef9 e10 ef10 e11 ef11
                  go_wp2_with fail
                  go_meet
                  exact Di3.out
              case rest =>
                obtain ⟨hi, hhi⟩ : ∃ x : Hn, x = ⟨hg.minW, hg.minH, hg.maxW, hg.maxH, hg.baseW, hg.baseH, hg.incW, hg.incH, (if t128 then z 11 else hg.lowX), (if t128 then z 12 else hg.lowY), (if t128 then z 13 else hg.highX), (if t128 then z 14 else hg.highY)⟩ := ⟨_, rfl⟩
                rw [← hhi] at hcut
                have HHi := Lib.hid hhi
                clear hhi
                have I := Lib.hid hcut
                clear hcut
                obtain ⟨w1, hw1⟩ : ∃ w1, w1 = wc := ⟨_, rfl⟩
                subst hw1
                obtain ⟨⟨k0, k1, k2, k3, k4, k5, k6, k7, k8, k9, k10, k11⟩, ⟨kf0, kf1, kf2, kf3, kf4, kf5, kf6, kf7, kf8, kf9, kf10, kf11⟩⟩ := I.out.b.out
                obtain ⟨⟨c0, c1, c2, c3, c4, c5, c6, c7, c8, c9, c10, c11⟩, ⟨cf0, cf1, cf2, cf3, cf4, cf5, cf6, cf7, cf8, cf9, cf10, cf11⟩⟩ := I.out.r.out
                go_upto_region 18 with fail
                go_cut [] (fun wx => HB wx w.heap.size hi ∧ Below w.heap.size w wx)
                case first =>
                  go_wp2_with fail
                  go_meet
                  exact ⟨I.out.r.put12 hi, below_set12 I.out.be (Nat.le_refl _) hi⟩
                case rest =>
                  obtain ⟨X1, X2⟩ := hcut
                  rename_i K2 aK2
                  refine aK2 _ _ ?_
                  refine wp_ret ?_
                  (try simp only [Exit.then])
                  rw [HHi.out, HHg.out, HHd.out, HHc.out, HHb.out, HHa.out, ← HTT.out] at X1
                  exact bodyPost_ret (res_hints rfl _ rfl X1) rfl ⟨rfl, X2⟩
end Sz
end Go.Proofs.Ytfckgkbhphkhoaa
