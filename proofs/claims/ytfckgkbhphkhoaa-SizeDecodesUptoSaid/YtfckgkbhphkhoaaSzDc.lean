/- Decode of the code, walked: a cut around each if (wip/gensd.py). -/
import Derived.Test.YtfckgkbhphkhoaaSzP
import Derived.Test.YtfckgkbhphkhoaaSzX
import Derived.Deep.RegionLaw
namespace Go.Proofs.Ytfckgkbhphkhoaa
open Go.RowKit
namespace Sz
/-- The memory of Decode: the result's box, the hints' box, the box that holds the row, the row. -/
structure Dc (w : World) (h : Hn) (g p o len cap : Nat) (z : Nat → Int) (W : World) : Prop where
  r : HB W w.heap.size zeroH
  b : HB W (w.heap.size + 1) h
  c : W.cell? ⟨g, 0, none⟩ = some (.slice (some ⟨p, o, none⟩) len cap)
  cg : g < W.heap.size
  gn : g ≠ w.heap.size + 1
  z : Zs W p o z
  be : Below w.heap.size w W
theorem cell_set {w : World} {g r i j : Nat} (u : Value) (hne : g ≠ r) : (w.setCell ⟨r, i, none⟩ u).cell? ⟨g, j, none⟩ = w.cell? ⟨g, j, none⟩ := by
  unfold World.cell?
  dsimp only
  rw [Below.heap_setCell w _ u g hne]
section
variable {w : World} {h h' : Hn} {g p o len cap : Nat} {z : Nat → Int} {W W' : World}
theorem Dc.pn (a : Dc w h g p o len cap z W) : p ≠ w.heap.size + 1 := by
  rintro rfl
  have h1 := a.z.2 16 (by omega)
  rw [Blk.cell a.b.raw (o + 16)] at h1
  rw [Array.getElem?_eq_none (by simp)] at h1
  cases h1
theorem Dc.drew (a : Dc w h g p o len cap z W) : Dc w h g p o len cap z W.drew := ⟨a.r, a.b, a.c, a.cg, a.gn, a.z, Below.drew a.be⟩
theorem Dc.set (a : Dc w h g p o len cap z W) (i : Nat) (x : Int) (hb : HB (W.setCell ⟨w.heap.size + 1, i, none⟩ (.int .i64 x)) (w.heap.size + 1) h') : Dc w h' g p o len cap z (W.setCell ⟨w.heap.size + 1, i, none⟩ (.int .i64 x)) :=
  ⟨a.r.far (by show _ ≠ _; simp only []; omega) _, hb, (cell_set (i := i) _ a.gn).trans a.c, by simpa [World.setCell] using a.cg, a.gn, ⟨by simpa [World.setCell] using a.z.1, fun j hj => (cell_set (i := i) _ a.pn).trans (a.z.2 j hj)⟩, a.be.setCell (Nat.le_succ _) _⟩
theorem Dc.q0 (a : Dc w h g p 0 len cap z W) {j : Nat} (hj : j < 17) : W.cell? ⟨p, j, none⟩ = some (.int .i64 (z j)) := by have := a.z.2 j hj; rwa [Nat.zero_add] at this
theorem Dc.drewN (a : Dc w h g p o len cap z W) (n : Nat) : Dc w h g p o len cap z (W.drewN n) := ⟨a.r, a.b, a.c, a.cg, a.gn, a.z, below_drewN a.be n⟩
theorem Dc.q (a : Dc w h g p o len cap z W) {j : Nat} (hj : j < 17) : W.cell? ⟨p, o + j, none⟩ = some (.int .i64 (z j)) := a.z.2 j hj
end
set_option maxRecDepth 100000 in
set_option maxHeartbeats 8000000 in
theorem decode_yes (s : ByteArray) (w : World) (hs : s.size ≤ 8388608) (h4 : s.size % 4 = 0) (h17 : 17 ≤ s.size / 4) : Calls Try.prog 10 #[.string s] w fun e w' => e = .returned (.agg #[.int .i64 (decH (fun j => (numsL s).getD j 0)).minW, .int .i64 (decH (fun j => (numsL s).getD j 0)).minH, .int .i64 (decH (fun j => (numsL s).getD j 0)).maxW, .int .i64 (decH (fun j => (numsL s).getD j 0)).maxH, .int .i64 (decH (fun j => (numsL s).getD j 0)).baseW, .int .i64 (decH (fun j => (numsL s).getD j 0)).baseH, .int .i64 (decH (fun j => (numsL s).getD j 0)).incW, .int .i64 (decH (fun j => (numsL s).getD j 0)).incH, .int .i64 (decH (fun j => (numsL s).getD j 0)).lowX, .int .i64 (decH (fun j => (numsL s).getD j 0)).lowY, .int .i64 (decH (fun j => (numsL s).getD j 0)).highX, .int .i64 (decH (fun j => (numsL s).getD j 0)).highY]) ∧ Below w.heap.size w w' := by
  have A0 := HB.zero w
  have A1 := HB.new (w.alloc (.cells (#[.int .i64 zeroH.minW, .int .i64 zeroH.minH, .int .i64 zeroH.maxW, .int .i64 zeroH.maxH, .int .i64 zeroH.baseW, .int .i64 zeroH.baseH, .int .i64 zeroH.incW, .int .i64 zeroH.incH, .int .i64 zeroH.lowX, .int .i64 zeroH.lowY, .int .i64 zeroH.highX, .int .i64 zeroH.highY]) 23)) ⟨1, 1, 0, 0, 0, 0, 1, 1, 0, 0, 0, 0⟩
  simp only [World.size_alloc] at A1
  have W0 : Below w.heap.size w ((w.alloc (.cells (#[.int .i64 zeroH.minW, .int .i64 zeroH.minH, .int .i64 zeroH.maxW, .int .i64 zeroH.maxH, .int .i64 zeroH.baseW, .int .i64 zeroH.baseH, .int .i64 zeroH.incW, .int .i64 zeroH.incH, .int .i64 zeroH.lowX, .int .i64 zeroH.lowY, .int .i64 zeroH.highX, .int .i64 zeroH.highY]) 23)).alloc (.cells #[.int .i64 1, .int .i64 1, .int .i64 0, .int .i64 0, .int .i64 0, .int .i64 0, .int .i64 1, .int .i64 1, .int .i64 0, .int .i64 0, .int .i64 0, .int .i64 0] 23)) := by repeat' (first | (with_reducible exact Below.refl _ _) | (with_reducible assumption) | (with_reducible refine Below.alloc ?_ ?_ _) | (with_reducible refine Below.drew ?_) | (with_reducible refine Below.setCell ?_ ?_ _) | (with_reducible refine Below.on (by with_reducible assumption) ?_ ?_) | go_size)
  have HNU := Lib.hid (fun W : World => numbers_at s W hs h4)
  obtain ⟨len, hlen⟩ : ∃ n, s.size / 4 = n := ⟨_, rfl⟩
  rw [hlen] at HNU h17
  have hnl : (numsL s).length = len := by rw [numsL_len, hlen]
  obtain ⟨z, hz⟩ : ∃ z : Nat → Int, z = fun j => (numsL s).getD j 0 := ⟨_, rfl⟩
  have hzl : ∀ j, j < 17 → (ints (numsL s))[j]? = some (.int .i64 (z j)) := by
    intro j hj
    rw [hz, List.getElem?_map, List.getElem?_eq_getElem (by omega)]
    simp [List.getD_eq_getElem?_getD, List.getElem?_eq_getElem (show j < (numsL s).length by omega)]
  rw [← hz]
  have HZL := Lib.hid hzl
  obtain ⟨t16, h16⟩ : ∃ a, bitI (z 0) 16 = a := ⟨_, rfl⟩
  obtain ⟨t32, h32⟩ : ∃ a, bitI (z 0) 32 = a := ⟨_, rfl⟩
  obtain ⟨t64, h64⟩ : ∃ a, bitI (z 0) 64 = a := ⟨_, rfl⟩
  obtain ⟨t128, h128⟩ : ∃ a, bitI (z 0) 128 = a := ⟨_, rfl⟩
  obtain ⟨t256, h256⟩ : ∃ a, bitI (z 0) 256 = a := ⟨_, rfl⟩
  have hdec : decH z = ⟨if t16 then z 5 else if t256 then z 15 else 1, if t16 then z 6 else if t256 then z 16 else 1, if t32 then z 7 else 0, if t32 then z 8 else 0, if t256 then z 15 else if t16 then z 5 else 0, if t256 then z 16 else if t16 then z 6 else 0, if t64 then z 9 else 1, if t64 then z 10 else 1, if t128 then z 11 else 0, if t128 then z 12 else 0, if t128 then z 13 else 0, if t128 then z 14 else 0⟩ := by unfold decH; rw [h16, h32, h64, h128, h256]
  rw [hdec]
  have H16 := Lib.hid h16
  have H32 := Lib.hid h32
  have H64 := Lib.hid h64
  have H128 := Lib.hid h128
  have H256 := Lib.hid h256
  clear h16 h32 h64 h128 h256 hdec
  clear hz hzl hnl hlen
  have hl17 : ¬ ((len : Int) < 17) := by omega
  go_enter Try.func10, Try.ntmps10
  go_upto_region 3 with (go_at_call 21; ((with_reducible refine (HNU.out _).mono ?_); rintro e w1 ⟨v, rfl, hRd, hb1, hv⟩); skip)
  subst hv
  have hS : Dc w ⟨1, 1, 0, 0, 0, 0, 1, 1, 0, 0, 0, 0⟩ w1.heap.size (w.heap.size + 1 + 1) 0 len len z (w1.alloc (.cells #[.slice (some ⟨w.heap.size + 1 + 1, 0, none⟩) len len] 34)) := by
    have B0 := (A0.alloc (.cells #[.int .i64 1, .int .i64 1, .int .i64 0, .int .i64 0, .int .i64 0, .int .i64 0, .int .i64 1, .int .i64 1, .int .i64 0, .int .i64 0, .int .i64 0, .int .i64 0] 23)).next hb1
    have B1 := A1.next hb1
    have W1 := bnext W0 hb1 W0.size
    have l1 := B1.raw.lt
    refine ⟨B0.alloc _, B1.alloc _, (Blk.new w1 34 #[.slice (some ⟨w.heap.size + 1 + 1, 0, none⟩) len len]).at_ (i := 0) rfl, by simp, by omega, ?_, W1.alloc W1.size _⟩
    obtain ⟨p', c', hpe, hcl⟩ := hRd
    simp only [World.size_alloc] at hpe
    injection hpe with hp1 hp2 hp3
    subst hp1
    have key : ∀ j, j < 17 → w.heap.size + 1 + 1 < w1.heap.size ∧ w1.cell? ⟨w.heap.size + 1 + 1, 0 + j, none⟩ = some (.int .i64 (z j)) := by
      intro j hj
      obtain ⟨b, o, hbo, hlt, hc⟩ := hcl j _ (HZL.out j hj)
      injection hbo with hbo
      injection hbo with hb hob
      subst hb hob
      exact ⟨hlt, hc⟩
    have hzs : Zs w1 (w.heap.size + 1 + 1) 0 z := ⟨(key 0 (by omega)).1, fun j hj => (key j hj).2⟩
    exact hzs.next ((Below.refl _ _).alloc (Nat.le_refl _) _)
  generalize w1.alloc (.cells #[.slice (some ⟨w.heap.size + 1 + 1, 0, none⟩) len len] 34) = w2 at *
  generalize w1.heap.size = g at *
  have DS := Lib.hid hS
  clear hS hRd hb1 A0 A1 W0 HZL
  generalize w.heap.size + 1 + 1 = p at *
  have HT : ∀ b, (b = 16 ∨ b = 32 ∨ b = 64 ∨ b = 128 ∨ b = 256) → ∀ W : World, W.cell? ⟨g, 0, none⟩ = some (.slice (some ⟨p, 0, none⟩) len len) → Zs W p 0 z → Calls Try.prog 22 #[.int .i64 b, .pointer (some ⟨g, 0, none⟩)] W fun e w' => e = .returned (.bool (bitI (z 0) b)) ∧ W = w' := fun b hb W c zz => tells_c b g p 0 len len z W h17 c zz hb
  have T16 := Lib.hid (HT 16 (by simp))
  have T32 := Lib.hid (HT 32 (by simp))
  have T64 := Lib.hid (HT 64 (by simp))
  have T128 := Lib.hid (HT 128 (by simp))
  have T256 := Lib.hid (HT 256 (by simp))
  rw [H16.out] at T16; rw [H32.out] at T32; rw [H64.out] at T64; rw [H128.out] at T128; rw [H256.out] at T256
  clear HT HNU
  have ll0 : ((0 : Int) < (len : Int)) := by omega
  have ll1 : ((1 : Int) < (len : Int)) := by omega
  have ll2 : ((2 : Int) < (len : Int)) := by omega
  have ll3 : ((3 : Int) < (len : Int)) := by omega
  have ll4 : ((4 : Int) < (len : Int)) := by omega
  have ll5 : ((5 : Int) < (len : Int)) := by omega
  have ll6 : ((6 : Int) < (len : Int)) := by omega
  have ll7 : ((7 : Int) < (len : Int)) := by omega
  have ll8 : ((8 : Int) < (len : Int)) := by omega
  have ll9 : ((9 : Int) < (len : Int)) := by omega
  have ll10 : ((10 : Int) < (len : Int)) := by omega
  have ll11 : ((11 : Int) < (len : Int)) := by omega
  have ll12 : ((12 : Int) < (len : Int)) := by omega
  have ll13 : ((13 : Int) < (len : Int)) := by omega
  have ll14 : ((14 : Int) < (len : Int)) := by omega
  have ll15 : ((15 : Int) < (len : Int)) := by omega
  have ll16 : ((16 : Int) < (len : Int)) := by omega
  have xc := DS.out.c
  go_upto_region 6 with fail
  go_cut [29] (fun c wx => c = .bool (t16 || t256) ∧ Dc w ⟨1, 1, 0, 0, 0, 0, 1, 1, 0, 0, 0, 0⟩ g p 0 len len z wx)
  case first =>
    cases t16
    · go_wp2_with (first | (go_at_call 22; ((with_reducible refine (T16.out _ DS.out.c DS.out.z).mono ?_); rintro e w1 ⟨rfl, rfl⟩)) | (go_at_call 22; ((with_reducible refine (T256.out _ DS.out.c DS.out.z).mono ?_); rintro e w1 ⟨rfl, rfl⟩)))
      go_meet
      exact ⟨by simp, DS.out⟩
    · go_wp2_with (first | (go_at_call 22; ((with_reducible refine (T16.out _ DS.out.c DS.out.z).mono ?_); rintro e w1 ⟨rfl, rfl⟩)) | (go_at_call 22; ((with_reducible refine (T256.out _ DS.out.c DS.out.z).mono ?_); rintro e w1 ⟨rfl, rfl⟩)))
      go_meet
      exact ⟨by simp, DS.out⟩
  case rest =>
    obtain ⟨rfl, hD⟩ := hcut
    clear DS xc
    have DS := Lib.hid hD
    clear hD
    obtain ⟨w1, hw1⟩ : ∃ w1, w1 = wc := ⟨_, rfl⟩
    subst hw1
    go_upto_if 29 with fail
    go_cut [] (fun wx => Dc w ⟨(if t16 then z 5 else if t256 then z 15 else 1), (if t16 then z 6 else if t256 then z 16 else 1), 0, 0, (if t256 then z 15 else if t16 then z 5 else 0), (if t256 then z 16 else if t16 then z 6 else 0), 1, 1, 0, 0, 0, 0⟩ g p 0 len len z wx)
    case first =>
      cases t16
      · cases t256
        · skip
          go_wp2_with fail
          go_meet
          exact DS.out
        · skip
          have xc := DS.out.c
          go_upto_region 7 with (first | (go_at_call 22; ((with_reducible refine (T16.out _ DS.out.c DS.out.z).mono ?_); rintro e w1 ⟨rfl, rfl⟩)) | (go_at_call 22; ((with_reducible refine (T256.out _ DS.out.c DS.out.z).mono ?_); rintro e w1 ⟨rfl, rfl⟩)))
          go_cut [7, 8] (fun s7 s8 wx => s7 = .slice (some ⟨p, 5, none⟩) 2 (len - 5) ∧ s8 = .slice (some ⟨p, 15, none⟩) 2 (len - 15) ∧ Dc w ⟨1, 1, 0, 0, 0, 0, 1, 1, 0, 0, 0, 0⟩ g p 0 len len z wx)
          case first =>
            go_quiet (fail)
            go_wp2_with fail
            go_meet
            exact ⟨rfl, rfl, DS.out.drewN _⟩
          case rest =>
            obtain ⟨rfl, rfl, hD⟩ := hcut
            have DA := Lib.hid hD
            clear hD xc DS
            obtain ⟨w1, hw1⟩ : ∃ w1, w1 = wc := ⟨_, rfl⟩
            subst hw1
            have xc := DA.out.c
            go_upto_region 12 with (first | (go_at_call 22; ((with_reducible refine (T16.out _ DA.out.c DA.out.z).mono ?_); rintro e w1 ⟨rfl, rfl⟩)) | (go_at_call 22; ((with_reducible refine (T256.out _ DA.out.c DA.out.z).mono ?_); rintro e w1 ⟨rfl, rfl⟩)))
            clear xc
            go_cut [] (fun wx => Dc w ⟨z 15, z 16, 0, 0, z 15, z 16, 1, 1, 0, 0, 0, 0⟩ g p 0 len len z wx)
            case first =>
              have DD := Lib.hid DA.out.drew
              obtain ⟨⟨e0, e1, e2, e3, e4, e5, e6, e7, e8, e9, e10, e11⟩, ⟨ef0, ef1, ef2, ef3, ef4, ef5, ef6, ef7, ef8, ef9, ef10, ef11⟩⟩ := DA.out.b.out
              refine wp_region_noPanic ?_
              refine wp_region_held_drew (S := fun wx => wx.cell? ⟨p, 15, none⟩ = some (.int .i64 (z 15)) ∧ wx.cell? ⟨p, 16, none⟩ = some (.int .i64 (z 16))) (by kernel_rfl) (by exact ⟨DD.out.q0 (j := 15) (by omega), DD.out.q0 (j := 16) (by omega)⟩) (fun hHeld => ?_)
              refine wpAnyH_take (i := 0) (v := ?vq0) rfl (by kernel_rfl) (by kernel_rfl) (by kernel_rfl) (fun _ _ _ h => h) (Or.inl ⟨by kernel_rfl, ?yq0⟩) (by assumption) ?rq0
              case yq0 => (intro wq hSw; (try dsimp only at hSw); go_simp; (try with_reducible rfl))
              (try simp only [Act.put, List.getElem_toArray, List.getElem_cons_zero, List.setIfInBounds_toArray, List.set_cons_zero, List.set_cons_succ])
              refine wpAnyH_take (i := 1) (v := ?vq1) rfl (by kernel_rfl) (by kernel_rfl) (by kernel_rfl) (fun _ _ _ h => h) (Or.inl ⟨by kernel_rfl, ?yq1⟩) (by assumption) ?rq1
              case yq1 => (intro wq hSw; (try dsimp only at hSw); go_simp; (try with_reducible rfl))
              (try simp only [Act.put, List.getElem_toArray, List.getElem_cons_succ, List.getElem_cons_zero, List.setIfInBounds_toArray, List.set_cons_zero, List.set_cons_succ])
              refine wpAnyH_take (i := 2) (v := ?vq2) rfl (by kernel_rfl) (by kernel_rfl) (by kernel_rfl) (fun _ _ _ h => h) (Or.inl ⟨by kernel_rfl, ?yq2⟩) (by assumption) ?rq2
              case yq2 => (intro wq hSw; (try dsimp only at hSw); go_simp; (try with_reducible rfl))
              (try simp only [Act.put, List.getElem_toArray, List.getElem_cons_succ, List.getElem_cons_zero, List.setIfInBounds_toArray, List.set_cons_zero, List.set_cons_succ])
              refine wpAnyH_take (i := 3) (v := ?vq3) rfl (by kernel_rfl) (by kernel_rfl) (by kernel_rfl) (fun _ _ _ h => h) (Or.inl ⟨by kernel_rfl, ?yq3⟩) (by assumption) ?rq3
              case yq3 => (intro wq hSw; (try dsimp only at hSw); go_simp; (try with_reducible rfl))
              (try simp only [Act.put, List.getElem_toArray, List.getElem_cons_succ, List.getElem_cons_zero, List.setIfInBounds_toArray, List.set_cons_zero, List.set_cons_succ])
              refine wpAnyH_take (i := 4) (v := ?vq4) rfl (by kernel_rfl) (by kernel_rfl) (by kernel_rfl) (fun _ _ _ h => h) (Or.inl ⟨by kernel_rfl, ?yq4⟩) (by assumption) ?rq4
              case yq4 => (intro wq hSw; (try dsimp only at hSw); go_simp; (try with_reducible rfl))
              (try simp only [Act.put, List.getElem_toArray, List.getElem_cons_succ, List.getElem_cons_zero, List.setIfInBounds_toArray, List.set_cons_zero, List.set_cons_succ])
              refine wpAnyH_take (i := 5) (v := ?vq5) rfl (by kernel_rfl) (by kernel_rfl) (by kernel_rfl) (fun _ _ _ h => h) (Or.inl ⟨by kernel_rfl, ?yq5⟩) (by assumption) ?rq5
              case yq5 => (intro wq hSw; (try dsimp only at hSw); go_simp; (try with_reducible rfl))
              (try simp only [Act.put, List.getElem_toArray, List.getElem_cons_succ, List.getElem_cons_zero, List.setIfInBounds_toArray, List.set_cons_zero, List.set_cons_succ])
              refine wpAnyH_take (i := 6) (v := ?vq6) rfl (by kernel_rfl) (by kernel_rfl) (by kernel_rfl) (fun _ _ _ h => h) (Or.inl ⟨by kernel_rfl, ?yq6⟩) (by assumption) ?rq6
              case yq6 => (intro wq hSw; (try dsimp only at hSw); go_simp; (try with_reducible rfl))
              (try simp only [Act.put, List.getElem_toArray, List.getElem_cons_succ, List.getElem_cons_zero, List.setIfInBounds_toArray, List.set_cons_zero, List.set_cons_succ])
              refine wpAnyH_take (i := 7) (v := ?vq7) rfl (by kernel_rfl) (by kernel_rfl) (by kernel_rfl) (fun _ _ _ h => h) (Or.inl ⟨by kernel_rfl, ?yq7⟩) (by assumption) ?rq7
              case yq7 => (intro wq hSw; (try dsimp only at hSw); go_simp; (try with_reducible rfl))
              (try simp only [Act.put, List.getElem_toArray, List.getElem_cons_succ, List.getElem_cons_zero, List.setIfInBounds_toArray, List.set_cons_zero, List.set_cons_succ])
              refine wpAnyH_take (i := 8) (v := ?vq8) rfl (by kernel_rfl) (by kernel_rfl) (by kernel_rfl) (fun _ _ _ h => h) (Or.inl ⟨by kernel_rfl, ?yq8⟩) (by assumption) ?rq8
              case yq8 => (intro wq hSw; (try dsimp only at hSw); go_simp; (try with_reducible rfl))
              (try simp only [Act.put, List.getElem_toArray, List.getElem_cons_succ, List.getElem_cons_zero, List.setIfInBounds_toArray, List.set_cons_zero, List.set_cons_succ])
              refine wpAnyH_take (i := 9) (v := ?vq9) rfl (by kernel_rfl) (by kernel_rfl) (by kernel_rfl) (fun _ _ _ h => h) (Or.inl ⟨by kernel_rfl, ?yq9⟩) (by assumption) ?rq9
              case yq9 => (intro wq hSw; (try dsimp only at hSw); go_simp; (try with_reducible rfl))
              (try simp only [Act.put, List.getElem_toArray, List.getElem_cons_succ, List.getElem_cons_zero, List.setIfInBounds_toArray, List.set_cons_zero, List.set_cons_succ])
              refine wpAnyH_take (i := 10) (v := ?vq10) rfl (by kernel_rfl) (by kernel_rfl) (by kernel_rfl) (fun _ _ _ h => h) (Or.inl ⟨by kernel_rfl, ?yq10⟩) (by assumption) ?rq10
              case yq10 => (intro wq hSw; (try dsimp only at hSw); go_simp; (try with_reducible rfl))
              (try simp only [Act.put, List.getElem_toArray, List.getElem_cons_succ, List.getElem_cons_zero, List.setIfInBounds_toArray, List.set_cons_zero, List.set_cons_succ])
              refine wpAnyH_take (i := 11) (v := ?vq11) rfl (by kernel_rfl) (by kernel_rfl) (by kernel_rfl) (fun _ _ _ h => h) (Or.inl ⟨by kernel_rfl, ?yq11⟩) (by assumption) ?rq11
              case yq11 => (intro wq hSw; (try dsimp only at hSw); go_simp; (try with_reducible rfl))
              (try simp only [Act.put, List.getElem_toArray, List.getElem_cons_succ, List.getElem_cons_zero, List.setIfInBounds_toArray, List.set_cons_zero, List.set_cons_succ])
              refine wpAnyH_take (i := 12) (v := ?vq12) rfl (by kernel_rfl) (by kernel_rfl) (by kernel_rfl) (fun _ _ _ h => h) (Or.inl ⟨by kernel_rfl, ?yq12⟩) (by assumption) ?rq12
              case yq12 => (intro wq hSw; (try dsimp only at hSw); go_simp; (try with_reducible rfl))
              (try simp only [Act.put, List.getElem_toArray, List.getElem_cons_succ, List.getElem_cons_zero, List.setIfInBounds_toArray, List.set_cons_zero, List.set_cons_succ])
              refine wpAnyH_ready (rs := [13]) (by kernel_rfl) (by simp) ?_
              refine AllReadyH.cons rfl (fun K hK => ?_) AllReadyH.nil
              go_simp; have Dq0 := Lib.hid (DD.out.set (h' := ⟨z 15, 1, 0, 0, 0, 0, 1, 1, 0, 0, 0, 0⟩) 0 (z 15) (Blk.set_ DD.out.b 0 (.int .i64 (z 15))))
              refine hK.out _ _ (by exact ⟨Dq0.out.q0 (j := 15) (by omega), Dq0.out.q0 (j := 16) (by omega)⟩) (fun hHeld => ?_)
              clear hK K
              (try simp only [Act.put, List.getElem_toArray, List.getElem_cons_succ, List.getElem_cons_zero, List.setIfInBounds_toArray, List.set_cons_zero, List.set_cons_succ])
              refine wpAnyH_take (i := 14) (v := ?vq14) rfl (by kernel_rfl) (by kernel_rfl) (by kernel_rfl) (fun _ _ _ h => h) (Or.inl ⟨by kernel_rfl, ?yq14⟩) (by assumption) ?rq14
              case yq14 => (intro wq hSw; (try dsimp only at hSw); go_simp; (try with_reducible rfl))
              (try simp only [Act.put, List.getElem_toArray, List.getElem_cons_succ, List.getElem_cons_zero, List.setIfInBounds_toArray, List.set_cons_zero, List.set_cons_succ])
              refine wpAnyH_ready (rs := [15]) (by kernel_rfl) (by simp) ?_
              refine AllReadyH.cons rfl (fun K hK => ?_) AllReadyH.nil
              go_simp; have Dq1 := Lib.hid (Dq0.out.set (h' := ⟨z 15, z 16, 0, 0, 0, 0, 1, 1, 0, 0, 0, 0⟩) 1 (z 16) (Blk.set_ Dq0.out.b 1 (.int .i64 (z 16))))
              refine hK.out _ _ (by exact ⟨Dq1.out.q0 (j := 15) (by omega), Dq1.out.q0 (j := 16) (by omega)⟩) (fun hHeld => ?_)
              clear hK K
              (try simp only [Act.put, List.getElem_toArray, List.getElem_cons_succ, List.getElem_cons_zero, List.setIfInBounds_toArray, List.set_cons_zero, List.set_cons_succ])
              refine wpAnyH_take (i := 16) (v := ?vq16) rfl (by kernel_rfl) (by kernel_rfl) (by kernel_rfl) (fun _ _ _ h => h) (Or.inl ⟨by kernel_rfl, ?yq16⟩) (by assumption) ?rq16
              case yq16 => (intro wq hSw; (try dsimp only at hSw); go_simp; (try with_reducible rfl))
              (try simp only [Act.put, List.getElem_toArray, List.getElem_cons_succ, List.getElem_cons_zero, List.setIfInBounds_toArray, List.set_cons_zero, List.set_cons_succ])
              refine wpAnyH_ready (rs := [17]) (by kernel_rfl) (by simp) ?_
              refine AllReadyH.cons rfl (fun K hK => ?_) AllReadyH.nil
              go_simp; have Dq2 := Lib.hid (Dq1.out.set (h' := ⟨z 15, z 16, 0, 0, z 15, 0, 1, 1, 0, 0, 0, 0⟩) 4 (z 15) (Blk.set_ Dq1.out.b 4 (.int .i64 (z 15))))
              refine hK.out _ _ (by exact ⟨Dq2.out.q0 (j := 15) (by omega), Dq2.out.q0 (j := 16) (by omega)⟩) (fun hHeld => ?_)
              clear hK K
              (try simp only [Act.put, List.getElem_toArray, List.getElem_cons_succ, List.getElem_cons_zero, List.setIfInBounds_toArray, List.set_cons_zero, List.set_cons_succ])
              refine wpAnyH_take (i := 18) (v := ?vq18) rfl (by kernel_rfl) (by kernel_rfl) (by kernel_rfl) (fun _ _ _ h => h) (Or.inl ⟨by kernel_rfl, ?yq18⟩) (by assumption) ?rq18
              case yq18 => (intro wq hSw; (try dsimp only at hSw); go_simp; (try with_reducible rfl))
              (try simp only [Act.put, List.getElem_toArray, List.getElem_cons_succ, List.getElem_cons_zero, List.setIfInBounds_toArray, List.set_cons_zero, List.set_cons_succ])
              refine wpAnyH_ready (rs := [19]) (by kernel_rfl) (by simp) ?_
              refine AllReadyH.cons rfl (fun K hK => ?_) AllReadyH.nil
              go_simp; have Dq3 := Lib.hid (Dq2.out.set (h' := ⟨z 15, z 16, 0, 0, z 15, z 16, 1, 1, 0, 0, 0, 0⟩) 5 (z 16) (Blk.set_ Dq2.out.b 5 (.int .i64 (z 16))))
              refine hK.out _ _ (by exact ⟨Dq3.out.q0 (j := 15) (by omega), Dq3.out.q0 (j := 16) (by omega)⟩) (fun hHeld => ?_)
              clear hK K
              (try simp only [Act.put, List.getElem_toArray, List.getElem_cons_succ, List.getElem_cons_zero, List.setIfInBounds_toArray, List.set_cons_zero, List.set_cons_succ])
              refine wpAnyH_done (by kernel_rfl) ?_ _
              refine NoPanic.normal ?_
              clear e0 ef0 e1 ef1 e2 ef2 e3 ef3 e4 ef4 e5 ef5 e6 ef6 e7 ef7 e8 ef8 e9 ef9 e10 ef10 e11 ef11
              go_wp2_with fail
              go_meet
              exact Dq3.out
            case rest =>
              have DB := Lib.hid hcut
              clear hcut DA
              obtain ⟨w1, hw1⟩ : ∃ w1, w1 = wc := ⟨_, rfl⟩
              subst hw1
              have xc := DB.out.c
              go_wp2_with fail
              go_meet
              exact DB.out
      · cases t256
        · skip
          have xc := DS.out.c
          go_upto_region 7 with (first | (go_at_call 22; ((with_reducible refine (T16.out _ DS.out.c DS.out.z).mono ?_); rintro e w1 ⟨rfl, rfl⟩)) | (go_at_call 22; ((with_reducible refine (T256.out _ DS.out.c DS.out.z).mono ?_); rintro e w1 ⟨rfl, rfl⟩)))
          go_cut [7, 8] (fun s7 s8 wx => s7 = .slice (some ⟨p, 5, none⟩) 2 (len - 5) ∧ s8 = .slice (some ⟨p, 15, none⟩) 2 (len - 15) ∧ Dc w ⟨1, 1, 0, 0, 0, 0, 1, 1, 0, 0, 0, 0⟩ g p 0 len len z wx)
          case first =>
            go_quiet (fail)
            go_wp2_with fail
            go_meet
            exact ⟨rfl, rfl, DS.out.drewN _⟩
          case rest =>
            obtain ⟨rfl, rfl, hD⟩ := hcut
            have DA := Lib.hid hD
            clear hD xc DS
            obtain ⟨w1, hw1⟩ : ∃ w1, w1 = wc := ⟨_, rfl⟩
            subst hw1
            have xc := DA.out.c
            go_upto_region 12 with (first | (go_at_call 22; ((with_reducible refine (T16.out _ DA.out.c DA.out.z).mono ?_); rintro e w1 ⟨rfl, rfl⟩)) | (go_at_call 22; ((with_reducible refine (T256.out _ DA.out.c DA.out.z).mono ?_); rintro e w1 ⟨rfl, rfl⟩)))
            clear xc
            go_cut [] (fun wx => Dc w ⟨z 5, z 6, 0, 0, z 5, z 6, 1, 1, 0, 0, 0, 0⟩ g p 0 len len z wx)
            case first =>
              have DD := Lib.hid DA.out.drew
              obtain ⟨⟨e0, e1, e2, e3, e4, e5, e6, e7, e8, e9, e10, e11⟩, ⟨ef0, ef1, ef2, ef3, ef4, ef5, ef6, ef7, ef8, ef9, ef10, ef11⟩⟩ := DA.out.b.out
              refine wp_region_noPanic ?_
              refine wp_region_held_drew (S := fun wx => wx.cell? ⟨p, 5, none⟩ = some (.int .i64 (z 5)) ∧ wx.cell? ⟨p, 6, none⟩ = some (.int .i64 (z 6))) (by kernel_rfl) (by exact ⟨DD.out.q0 (j := 5) (by omega), DD.out.q0 (j := 6) (by omega)⟩) (fun hHeld => ?_)
              refine wpAnyH_take (i := 0) (v := ?vr0) rfl (by kernel_rfl) (by kernel_rfl) (by kernel_rfl) (fun _ _ _ h => h) (Or.inl ⟨by kernel_rfl, ?yr0⟩) (by assumption) ?rr0
              case yr0 => (intro wq hSw; (try dsimp only at hSw); go_simp; (try with_reducible rfl))
              (try simp only [Act.put, List.getElem_toArray, List.getElem_cons_zero, List.setIfInBounds_toArray, List.set_cons_zero, List.set_cons_succ])
              refine wpAnyH_take (i := 1) (v := ?vr1) rfl (by kernel_rfl) (by kernel_rfl) (by kernel_rfl) (fun _ _ _ h => h) (Or.inl ⟨by kernel_rfl, ?yr1⟩) (by assumption) ?rr1
              case yr1 => (intro wq hSw; (try dsimp only at hSw); go_simp; (try with_reducible rfl))
              (try simp only [Act.put, List.getElem_toArray, List.getElem_cons_succ, List.getElem_cons_zero, List.setIfInBounds_toArray, List.set_cons_zero, List.set_cons_succ])
              refine wpAnyH_take (i := 2) (v := ?vr2) rfl (by kernel_rfl) (by kernel_rfl) (by kernel_rfl) (fun _ _ _ h => h) (Or.inl ⟨by kernel_rfl, ?yr2⟩) (by assumption) ?rr2
              case yr2 => (intro wq hSw; (try dsimp only at hSw); go_simp; (try with_reducible rfl))
              (try simp only [Act.put, List.getElem_toArray, List.getElem_cons_succ, List.getElem_cons_zero, List.setIfInBounds_toArray, List.set_cons_zero, List.set_cons_succ])
              refine wpAnyH_take (i := 3) (v := ?vr3) rfl (by kernel_rfl) (by kernel_rfl) (by kernel_rfl) (fun _ _ _ h => h) (Or.inl ⟨by kernel_rfl, ?yr3⟩) (by assumption) ?rr3
              case yr3 => (intro wq hSw; (try dsimp only at hSw); go_simp; (try with_reducible rfl))
              (try simp only [Act.put, List.getElem_toArray, List.getElem_cons_succ, List.getElem_cons_zero, List.setIfInBounds_toArray, List.set_cons_zero, List.set_cons_succ])
              refine wpAnyH_take (i := 4) (v := ?vr4) rfl (by kernel_rfl) (by kernel_rfl) (by kernel_rfl) (fun _ _ _ h => h) (Or.inl ⟨by kernel_rfl, ?yr4⟩) (by assumption) ?rr4
              case yr4 => (intro wq hSw; (try dsimp only at hSw); go_simp; (try with_reducible rfl))
              (try simp only [Act.put, List.getElem_toArray, List.getElem_cons_succ, List.getElem_cons_zero, List.setIfInBounds_toArray, List.set_cons_zero, List.set_cons_succ])
              refine wpAnyH_take (i := 5) (v := ?vr5) rfl (by kernel_rfl) (by kernel_rfl) (by kernel_rfl) (fun _ _ _ h => h) (Or.inl ⟨by kernel_rfl, ?yr5⟩) (by assumption) ?rr5
              case yr5 => (intro wq hSw; (try dsimp only at hSw); go_simp; (try with_reducible rfl))
              (try simp only [Act.put, List.getElem_toArray, List.getElem_cons_succ, List.getElem_cons_zero, List.setIfInBounds_toArray, List.set_cons_zero, List.set_cons_succ])
              refine wpAnyH_take (i := 6) (v := ?vr6) rfl (by kernel_rfl) (by kernel_rfl) (by kernel_rfl) (fun _ _ _ h => h) (Or.inl ⟨by kernel_rfl, ?yr6⟩) (by assumption) ?rr6
              case yr6 => (intro wq hSw; (try dsimp only at hSw); go_simp; (try with_reducible rfl))
              (try simp only [Act.put, List.getElem_toArray, List.getElem_cons_succ, List.getElem_cons_zero, List.setIfInBounds_toArray, List.set_cons_zero, List.set_cons_succ])
              refine wpAnyH_take (i := 7) (v := ?vr7) rfl (by kernel_rfl) (by kernel_rfl) (by kernel_rfl) (fun _ _ _ h => h) (Or.inl ⟨by kernel_rfl, ?yr7⟩) (by assumption) ?rr7
              case yr7 => (intro wq hSw; (try dsimp only at hSw); go_simp; (try with_reducible rfl))
              (try simp only [Act.put, List.getElem_toArray, List.getElem_cons_succ, List.getElem_cons_zero, List.setIfInBounds_toArray, List.set_cons_zero, List.set_cons_succ])
              refine wpAnyH_take (i := 8) (v := ?vr8) rfl (by kernel_rfl) (by kernel_rfl) (by kernel_rfl) (fun _ _ _ h => h) (Or.inl ⟨by kernel_rfl, ?yr8⟩) (by assumption) ?rr8
              case yr8 => (intro wq hSw; (try dsimp only at hSw); go_simp; (try with_reducible rfl))
              (try simp only [Act.put, List.getElem_toArray, List.getElem_cons_succ, List.getElem_cons_zero, List.setIfInBounds_toArray, List.set_cons_zero, List.set_cons_succ])
              refine wpAnyH_take (i := 9) (v := ?vr9) rfl (by kernel_rfl) (by kernel_rfl) (by kernel_rfl) (fun _ _ _ h => h) (Or.inl ⟨by kernel_rfl, ?yr9⟩) (by assumption) ?rr9
              case yr9 => (intro wq hSw; (try dsimp only at hSw); go_simp; (try with_reducible rfl))
              (try simp only [Act.put, List.getElem_toArray, List.getElem_cons_succ, List.getElem_cons_zero, List.setIfInBounds_toArray, List.set_cons_zero, List.set_cons_succ])
              refine wpAnyH_take (i := 10) (v := ?vr10) rfl (by kernel_rfl) (by kernel_rfl) (by kernel_rfl) (fun _ _ _ h => h) (Or.inl ⟨by kernel_rfl, ?yr10⟩) (by assumption) ?rr10
              case yr10 => (intro wq hSw; (try dsimp only at hSw); go_simp; (try with_reducible rfl))
              (try simp only [Act.put, List.getElem_toArray, List.getElem_cons_succ, List.getElem_cons_zero, List.setIfInBounds_toArray, List.set_cons_zero, List.set_cons_succ])
              refine wpAnyH_take (i := 11) (v := ?vr11) rfl (by kernel_rfl) (by kernel_rfl) (by kernel_rfl) (fun _ _ _ h => h) (Or.inl ⟨by kernel_rfl, ?yr11⟩) (by assumption) ?rr11
              case yr11 => (intro wq hSw; (try dsimp only at hSw); go_simp; (try with_reducible rfl))
              (try simp only [Act.put, List.getElem_toArray, List.getElem_cons_succ, List.getElem_cons_zero, List.setIfInBounds_toArray, List.set_cons_zero, List.set_cons_succ])
              refine wpAnyH_take (i := 12) (v := ?vr12) rfl (by kernel_rfl) (by kernel_rfl) (by kernel_rfl) (fun _ _ _ h => h) (Or.inl ⟨by kernel_rfl, ?yr12⟩) (by assumption) ?rr12
              case yr12 => (intro wq hSw; (try dsimp only at hSw); go_simp; (try with_reducible rfl))
              (try simp only [Act.put, List.getElem_toArray, List.getElem_cons_succ, List.getElem_cons_zero, List.setIfInBounds_toArray, List.set_cons_zero, List.set_cons_succ])
              refine wpAnyH_ready (rs := [13]) (by kernel_rfl) (by simp) ?_
              refine AllReadyH.cons rfl (fun K hK => ?_) AllReadyH.nil
              go_simp; have Dr0 := Lib.hid (DD.out.set (h' := ⟨z 5, 1, 0, 0, 0, 0, 1, 1, 0, 0, 0, 0⟩) 0 (z 5) (Blk.set_ DD.out.b 0 (.int .i64 (z 5))))
              refine hK.out _ _ (by exact ⟨Dr0.out.q0 (j := 5) (by omega), Dr0.out.q0 (j := 6) (by omega)⟩) (fun hHeld => ?_)
              clear hK K
              (try simp only [Act.put, List.getElem_toArray, List.getElem_cons_succ, List.getElem_cons_zero, List.setIfInBounds_toArray, List.set_cons_zero, List.set_cons_succ])
              refine wpAnyH_take (i := 14) (v := ?vr14) rfl (by kernel_rfl) (by kernel_rfl) (by kernel_rfl) (fun _ _ _ h => h) (Or.inl ⟨by kernel_rfl, ?yr14⟩) (by assumption) ?rr14
              case yr14 => (intro wq hSw; (try dsimp only at hSw); go_simp; (try with_reducible rfl))
              (try simp only [Act.put, List.getElem_toArray, List.getElem_cons_succ, List.getElem_cons_zero, List.setIfInBounds_toArray, List.set_cons_zero, List.set_cons_succ])
              refine wpAnyH_ready (rs := [15]) (by kernel_rfl) (by simp) ?_
              refine AllReadyH.cons rfl (fun K hK => ?_) AllReadyH.nil
              go_simp; have Dr1 := Lib.hid (Dr0.out.set (h' := ⟨z 5, z 6, 0, 0, 0, 0, 1, 1, 0, 0, 0, 0⟩) 1 (z 6) (Blk.set_ Dr0.out.b 1 (.int .i64 (z 6))))
              refine hK.out _ _ (by exact ⟨Dr1.out.q0 (j := 5) (by omega), Dr1.out.q0 (j := 6) (by omega)⟩) (fun hHeld => ?_)
              clear hK K
              (try simp only [Act.put, List.getElem_toArray, List.getElem_cons_succ, List.getElem_cons_zero, List.setIfInBounds_toArray, List.set_cons_zero, List.set_cons_succ])
              refine wpAnyH_take (i := 16) (v := ?vr16) rfl (by kernel_rfl) (by kernel_rfl) (by kernel_rfl) (fun _ _ _ h => h) (Or.inl ⟨by kernel_rfl, ?yr16⟩) (by assumption) ?rr16
              case yr16 => (intro wq hSw; (try dsimp only at hSw); go_simp; (try with_reducible rfl))
              (try simp only [Act.put, List.getElem_toArray, List.getElem_cons_succ, List.getElem_cons_zero, List.setIfInBounds_toArray, List.set_cons_zero, List.set_cons_succ])
              refine wpAnyH_ready (rs := [17]) (by kernel_rfl) (by simp) ?_
              refine AllReadyH.cons rfl (fun K hK => ?_) AllReadyH.nil
              go_simp; have Dr2 := Lib.hid (Dr1.out.set (h' := ⟨z 5, z 6, 0, 0, z 5, 0, 1, 1, 0, 0, 0, 0⟩) 4 (z 5) (Blk.set_ Dr1.out.b 4 (.int .i64 (z 5))))
              refine hK.out _ _ (by exact ⟨Dr2.out.q0 (j := 5) (by omega), Dr2.out.q0 (j := 6) (by omega)⟩) (fun hHeld => ?_)
              clear hK K
              (try simp only [Act.put, List.getElem_toArray, List.getElem_cons_succ, List.getElem_cons_zero, List.setIfInBounds_toArray, List.set_cons_zero, List.set_cons_succ])
              refine wpAnyH_take (i := 18) (v := ?vr18) rfl (by kernel_rfl) (by kernel_rfl) (by kernel_rfl) (fun _ _ _ h => h) (Or.inl ⟨by kernel_rfl, ?yr18⟩) (by assumption) ?rr18
              case yr18 => (intro wq hSw; (try dsimp only at hSw); go_simp; (try with_reducible rfl))
              (try simp only [Act.put, List.getElem_toArray, List.getElem_cons_succ, List.getElem_cons_zero, List.setIfInBounds_toArray, List.set_cons_zero, List.set_cons_succ])
              refine wpAnyH_ready (rs := [19]) (by kernel_rfl) (by simp) ?_
              refine AllReadyH.cons rfl (fun K hK => ?_) AllReadyH.nil
              go_simp; have Dr3 := Lib.hid (Dr2.out.set (h' := ⟨z 5, z 6, 0, 0, z 5, z 6, 1, 1, 0, 0, 0, 0⟩) 5 (z 6) (Blk.set_ Dr2.out.b 5 (.int .i64 (z 6))))
              refine hK.out _ _ (by exact ⟨Dr3.out.q0 (j := 5) (by omega), Dr3.out.q0 (j := 6) (by omega)⟩) (fun hHeld => ?_)
              clear hK K
              (try simp only [Act.put, List.getElem_toArray, List.getElem_cons_succ, List.getElem_cons_zero, List.setIfInBounds_toArray, List.set_cons_zero, List.set_cons_succ])
              refine wpAnyH_done (by kernel_rfl) ?_ _
              refine NoPanic.normal ?_
              clear e0 ef0 e1 ef1 e2 ef2 e3 ef3 e4 ef4 e5 ef5 e6 ef6 e7 ef7 e8 ef8 e9 ef9 e10 ef10 e11 ef11
              go_wp2_with fail
              go_meet
              exact Dr3.out
            case rest =>
              have DB := Lib.hid hcut
              clear hcut DA
              obtain ⟨w1, hw1⟩ : ∃ w1, w1 = wc := ⟨_, rfl⟩
              subst hw1
              have xc := DB.out.c
              go_wp2_with fail
              go_meet
              exact DB.out
        · skip
          have xc := DS.out.c
          go_upto_region 7 with (first | (go_at_call 22; ((with_reducible refine (T16.out _ DS.out.c DS.out.z).mono ?_); rintro e w1 ⟨rfl, rfl⟩)) | (go_at_call 22; ((with_reducible refine (T256.out _ DS.out.c DS.out.z).mono ?_); rintro e w1 ⟨rfl, rfl⟩)))
          go_cut [7, 8] (fun s7 s8 wx => s7 = .slice (some ⟨p, 5, none⟩) 2 (len - 5) ∧ s8 = .slice (some ⟨p, 15, none⟩) 2 (len - 15) ∧ Dc w ⟨1, 1, 0, 0, 0, 0, 1, 1, 0, 0, 0, 0⟩ g p 0 len len z wx)
          case first =>
            go_quiet (fail)
            go_wp2_with fail
            go_meet
            exact ⟨rfl, rfl, DS.out.drewN _⟩
          case rest =>
            obtain ⟨rfl, rfl, hD⟩ := hcut
            have DA := Lib.hid hD
            clear hD xc DS
            obtain ⟨w1, hw1⟩ : ∃ w1, w1 = wc := ⟨_, rfl⟩
            subst hw1
            have xc := DA.out.c
            go_upto_region 12 with (first | (go_at_call 22; ((with_reducible refine (T16.out _ DA.out.c DA.out.z).mono ?_); rintro e w1 ⟨rfl, rfl⟩)) | (go_at_call 22; ((with_reducible refine (T256.out _ DA.out.c DA.out.z).mono ?_); rintro e w1 ⟨rfl, rfl⟩)))
            clear xc
            go_cut [] (fun wx => Dc w ⟨z 5, z 6, 0, 0, z 15, z 16, 1, 1, 0, 0, 0, 0⟩ g p 0 len len z wx)
            case first =>
              have DD := Lib.hid DA.out.drew
              obtain ⟨⟨e0, e1, e2, e3, e4, e5, e6, e7, e8, e9, e10, e11⟩, ⟨ef0, ef1, ef2, ef3, ef4, ef5, ef6, ef7, ef8, ef9, ef10, ef11⟩⟩ := DA.out.b.out
              refine wp_region_noPanic ?_
              refine wp_region_held_drew (S := fun wx => wx.cell? ⟨p, 5, none⟩ = some (.int .i64 (z 5)) ∧ wx.cell? ⟨p, 6, none⟩ = some (.int .i64 (z 6)) ∧ wx.cell? ⟨p, 15, none⟩ = some (.int .i64 (z 15)) ∧ wx.cell? ⟨p, 16, none⟩ = some (.int .i64 (z 16))) (by kernel_rfl) (by exact ⟨DD.out.q0 (j := 5) (by omega), DD.out.q0 (j := 6) (by omega), DD.out.q0 (j := 15) (by omega), DD.out.q0 (j := 16) (by omega)⟩) (fun hHeld => ?_)
              refine wpAnyH_take (i := 0) (v := ?vs0) rfl (by kernel_rfl) (by kernel_rfl) (by kernel_rfl) (fun _ _ _ h => h) (Or.inl ⟨by kernel_rfl, ?ys0⟩) (by assumption) ?rs0
              case ys0 => (intro wq hSw; (try dsimp only at hSw); go_simp; (try with_reducible rfl))
              (try simp only [Act.put, List.getElem_toArray, List.getElem_cons_zero, List.setIfInBounds_toArray, List.set_cons_zero, List.set_cons_succ])
              refine wpAnyH_take (i := 1) (v := ?vs1) rfl (by kernel_rfl) (by kernel_rfl) (by kernel_rfl) (fun _ _ _ h => h) (Or.inl ⟨by kernel_rfl, ?ys1⟩) (by assumption) ?rs1
              case ys1 => (intro wq hSw; (try dsimp only at hSw); go_simp; (try with_reducible rfl))
              (try simp only [Act.put, List.getElem_toArray, List.getElem_cons_succ, List.getElem_cons_zero, List.setIfInBounds_toArray, List.set_cons_zero, List.set_cons_succ])
              refine wpAnyH_take (i := 2) (v := ?vs2) rfl (by kernel_rfl) (by kernel_rfl) (by kernel_rfl) (fun _ _ _ h => h) (Or.inl ⟨by kernel_rfl, ?ys2⟩) (by assumption) ?rs2
              case ys2 => (intro wq hSw; (try dsimp only at hSw); go_simp; (try with_reducible rfl))
              (try simp only [Act.put, List.getElem_toArray, List.getElem_cons_succ, List.getElem_cons_zero, List.setIfInBounds_toArray, List.set_cons_zero, List.set_cons_succ])
              refine wpAnyH_take (i := 3) (v := ?vs3) rfl (by kernel_rfl) (by kernel_rfl) (by kernel_rfl) (fun _ _ _ h => h) (Or.inl ⟨by kernel_rfl, ?ys3⟩) (by assumption) ?rs3
              case ys3 => (intro wq hSw; (try dsimp only at hSw); go_simp; (try with_reducible rfl))
              (try simp only [Act.put, List.getElem_toArray, List.getElem_cons_succ, List.getElem_cons_zero, List.setIfInBounds_toArray, List.set_cons_zero, List.set_cons_succ])
              refine wpAnyH_take (i := 4) (v := ?vs4) rfl (by kernel_rfl) (by kernel_rfl) (by kernel_rfl) (fun _ _ _ h => h) (Or.inl ⟨by kernel_rfl, ?ys4⟩) (by assumption) ?rs4
              case ys4 => (intro wq hSw; (try dsimp only at hSw); go_simp; (try with_reducible rfl))
              (try simp only [Act.put, List.getElem_toArray, List.getElem_cons_succ, List.getElem_cons_zero, List.setIfInBounds_toArray, List.set_cons_zero, List.set_cons_succ])
              refine wpAnyH_take (i := 5) (v := ?vs5) rfl (by kernel_rfl) (by kernel_rfl) (by kernel_rfl) (fun _ _ _ h => h) (Or.inl ⟨by kernel_rfl, ?ys5⟩) (by assumption) ?rs5
              case ys5 => (intro wq hSw; (try dsimp only at hSw); go_simp; (try with_reducible rfl))
              (try simp only [Act.put, List.getElem_toArray, List.getElem_cons_succ, List.getElem_cons_zero, List.setIfInBounds_toArray, List.set_cons_zero, List.set_cons_succ])
              refine wpAnyH_take (i := 6) (v := ?vs6) rfl (by kernel_rfl) (by kernel_rfl) (by kernel_rfl) (fun _ _ _ h => h) (Or.inl ⟨by kernel_rfl, ?ys6⟩) (by assumption) ?rs6
              case ys6 => (intro wq hSw; (try dsimp only at hSw); go_simp; (try with_reducible rfl))
              (try simp only [Act.put, List.getElem_toArray, List.getElem_cons_succ, List.getElem_cons_zero, List.setIfInBounds_toArray, List.set_cons_zero, List.set_cons_succ])
              refine wpAnyH_take (i := 7) (v := ?vs7) rfl (by kernel_rfl) (by kernel_rfl) (by kernel_rfl) (fun _ _ _ h => h) (Or.inl ⟨by kernel_rfl, ?ys7⟩) (by assumption) ?rs7
              case ys7 => (intro wq hSw; (try dsimp only at hSw); go_simp; (try with_reducible rfl))
              (try simp only [Act.put, List.getElem_toArray, List.getElem_cons_succ, List.getElem_cons_zero, List.setIfInBounds_toArray, List.set_cons_zero, List.set_cons_succ])
              refine wpAnyH_take (i := 8) (v := ?vs8) rfl (by kernel_rfl) (by kernel_rfl) (by kernel_rfl) (fun _ _ _ h => h) (Or.inl ⟨by kernel_rfl, ?ys8⟩) (by assumption) ?rs8
              case ys8 => (intro wq hSw; (try dsimp only at hSw); go_simp; (try with_reducible rfl))
              (try simp only [Act.put, List.getElem_toArray, List.getElem_cons_succ, List.getElem_cons_zero, List.setIfInBounds_toArray, List.set_cons_zero, List.set_cons_succ])
              refine wpAnyH_take (i := 9) (v := ?vs9) rfl (by kernel_rfl) (by kernel_rfl) (by kernel_rfl) (fun _ _ _ h => h) (Or.inl ⟨by kernel_rfl, ?ys9⟩) (by assumption) ?rs9
              case ys9 => (intro wq hSw; (try dsimp only at hSw); go_simp; (try with_reducible rfl))
              (try simp only [Act.put, List.getElem_toArray, List.getElem_cons_succ, List.getElem_cons_zero, List.setIfInBounds_toArray, List.set_cons_zero, List.set_cons_succ])
              refine wpAnyH_take (i := 10) (v := ?vs10) rfl (by kernel_rfl) (by kernel_rfl) (by kernel_rfl) (fun _ _ _ h => h) (Or.inl ⟨by kernel_rfl, ?ys10⟩) (by assumption) ?rs10
              case ys10 => (intro wq hSw; (try dsimp only at hSw); go_simp; (try with_reducible rfl))
              (try simp only [Act.put, List.getElem_toArray, List.getElem_cons_succ, List.getElem_cons_zero, List.setIfInBounds_toArray, List.set_cons_zero, List.set_cons_succ])
              refine wpAnyH_take (i := 11) (v := ?vs11) rfl (by kernel_rfl) (by kernel_rfl) (by kernel_rfl) (fun _ _ _ h => h) (Or.inl ⟨by kernel_rfl, ?ys11⟩) (by assumption) ?rs11
              case ys11 => (intro wq hSw; (try dsimp only at hSw); go_simp; (try with_reducible rfl))
              (try simp only [Act.put, List.getElem_toArray, List.getElem_cons_succ, List.getElem_cons_zero, List.setIfInBounds_toArray, List.set_cons_zero, List.set_cons_succ])
              refine wpAnyH_take (i := 12) (v := ?vs12) rfl (by kernel_rfl) (by kernel_rfl) (by kernel_rfl) (fun _ _ _ h => h) (Or.inl ⟨by kernel_rfl, ?ys12⟩) (by assumption) ?rs12
              case ys12 => (intro wq hSw; (try dsimp only at hSw); go_simp; (try with_reducible rfl))
              (try simp only [Act.put, List.getElem_toArray, List.getElem_cons_succ, List.getElem_cons_zero, List.setIfInBounds_toArray, List.set_cons_zero, List.set_cons_succ])
              refine wpAnyH_ready (rs := [13]) (by kernel_rfl) (by simp) ?_
              refine AllReadyH.cons rfl (fun K hK => ?_) AllReadyH.nil
              go_simp; have Ds0 := Lib.hid (DD.out.set (h' := ⟨z 5, 1, 0, 0, 0, 0, 1, 1, 0, 0, 0, 0⟩) 0 (z 5) (Blk.set_ DD.out.b 0 (.int .i64 (z 5))))
              refine hK.out _ _ (by exact ⟨Ds0.out.q0 (j := 5) (by omega), Ds0.out.q0 (j := 6) (by omega), Ds0.out.q0 (j := 15) (by omega), Ds0.out.q0 (j := 16) (by omega)⟩) (fun hHeld => ?_)
              clear hK K
              (try simp only [Act.put, List.getElem_toArray, List.getElem_cons_succ, List.getElem_cons_zero, List.setIfInBounds_toArray, List.set_cons_zero, List.set_cons_succ])
              refine wpAnyH_take (i := 14) (v := ?vs14) rfl (by kernel_rfl) (by kernel_rfl) (by kernel_rfl) (fun _ _ _ h => h) (Or.inl ⟨by kernel_rfl, ?ys14⟩) (by assumption) ?rs14
              case ys14 => (intro wq hSw; (try dsimp only at hSw); go_simp; (try with_reducible rfl))
              (try simp only [Act.put, List.getElem_toArray, List.getElem_cons_succ, List.getElem_cons_zero, List.setIfInBounds_toArray, List.set_cons_zero, List.set_cons_succ])
              refine wpAnyH_ready (rs := [15]) (by kernel_rfl) (by simp) ?_
              refine AllReadyH.cons rfl (fun K hK => ?_) AllReadyH.nil
              go_simp; have Ds1 := Lib.hid (Ds0.out.set (h' := ⟨z 5, z 6, 0, 0, 0, 0, 1, 1, 0, 0, 0, 0⟩) 1 (z 6) (Blk.set_ Ds0.out.b 1 (.int .i64 (z 6))))
              refine hK.out _ _ (by exact ⟨Ds1.out.q0 (j := 5) (by omega), Ds1.out.q0 (j := 6) (by omega), Ds1.out.q0 (j := 15) (by omega), Ds1.out.q0 (j := 16) (by omega)⟩) (fun hHeld => ?_)
              clear hK K
              (try simp only [Act.put, List.getElem_toArray, List.getElem_cons_succ, List.getElem_cons_zero, List.setIfInBounds_toArray, List.set_cons_zero, List.set_cons_succ])
              refine wpAnyH_take (i := 16) (v := ?vs16) rfl (by kernel_rfl) (by kernel_rfl) (by kernel_rfl) (fun _ _ _ h => h) (Or.inl ⟨by kernel_rfl, ?ys16⟩) (by assumption) ?rs16
              case ys16 => (intro wq hSw; (try dsimp only at hSw); go_simp; (try with_reducible rfl))
              (try simp only [Act.put, List.getElem_toArray, List.getElem_cons_succ, List.getElem_cons_zero, List.setIfInBounds_toArray, List.set_cons_zero, List.set_cons_succ])
              refine wpAnyH_ready (rs := [17]) (by kernel_rfl) (by simp) ?_
              refine AllReadyH.cons rfl (fun K hK => ?_) AllReadyH.nil
              go_simp; have Ds2 := Lib.hid (Ds1.out.set (h' := ⟨z 5, z 6, 0, 0, z 15, 0, 1, 1, 0, 0, 0, 0⟩) 4 (z 15) (Blk.set_ Ds1.out.b 4 (.int .i64 (z 15))))
              refine hK.out _ _ (by exact ⟨Ds2.out.q0 (j := 5) (by omega), Ds2.out.q0 (j := 6) (by omega), Ds2.out.q0 (j := 15) (by omega), Ds2.out.q0 (j := 16) (by omega)⟩) (fun hHeld => ?_)
              clear hK K
              (try simp only [Act.put, List.getElem_toArray, List.getElem_cons_succ, List.getElem_cons_zero, List.setIfInBounds_toArray, List.set_cons_zero, List.set_cons_succ])
              refine wpAnyH_take (i := 18) (v := ?vs18) rfl (by kernel_rfl) (by kernel_rfl) (by kernel_rfl) (fun _ _ _ h => h) (Or.inl ⟨by kernel_rfl, ?ys18⟩) (by assumption) ?rs18
              case ys18 => (intro wq hSw; (try dsimp only at hSw); go_simp; (try with_reducible rfl))
              (try simp only [Act.put, List.getElem_toArray, List.getElem_cons_succ, List.getElem_cons_zero, List.setIfInBounds_toArray, List.set_cons_zero, List.set_cons_succ])
              refine wpAnyH_ready (rs := [19]) (by kernel_rfl) (by simp) ?_
              refine AllReadyH.cons rfl (fun K hK => ?_) AllReadyH.nil
              go_simp; have Ds3 := Lib.hid (Ds2.out.set (h' := ⟨z 5, z 6, 0, 0, z 15, z 16, 1, 1, 0, 0, 0, 0⟩) 5 (z 16) (Blk.set_ Ds2.out.b 5 (.int .i64 (z 16))))
              refine hK.out _ _ (by exact ⟨Ds3.out.q0 (j := 5) (by omega), Ds3.out.q0 (j := 6) (by omega), Ds3.out.q0 (j := 15) (by omega), Ds3.out.q0 (j := 16) (by omega)⟩) (fun hHeld => ?_)
              clear hK K
              (try simp only [Act.put, List.getElem_toArray, List.getElem_cons_succ, List.getElem_cons_zero, List.setIfInBounds_toArray, List.set_cons_zero, List.set_cons_succ])
              refine wpAnyH_done (by kernel_rfl) ?_ _
              refine NoPanic.normal ?_
              clear e0 ef0 e1 ef1 e2 ef2 e3 ef3 e4 ef4 e5 ef5 e6 ef6 e7 ef7 e8 ef8 e9 ef9 e10 ef10 e11 ef11
              go_wp2_with fail
              go_meet
              exact Ds3.out
            case rest =>
              have DB := Lib.hid hcut
              clear hcut DA
              obtain ⟨w1, hw1⟩ : ∃ w1, w1 = wc := ⟨_, rfl⟩
              subst hw1
              have xc := DB.out.c
              go_wp2_with fail
              go_meet
              exact DB.out
    case rest =>
      clear DS
      obtain ⟨ha, hha⟩ : ∃ x : Hn, x = ⟨(if t16 then z 5 else if t256 then z 15 else 1), (if t16 then z 6 else if t256 then z 16 else 1), 0, 0, (if t256 then z 15 else if t16 then z 5 else 0), (if t256 then z 16 else if t16 then z 6 else 0), 1, 1, 0, 0, 0, 0⟩ := ⟨_, rfl⟩
      rw [← hha] at hcut
      have HHa := Lib.hid hha
      clear hha
      have DA := Lib.hid hcut
      clear hcut
      obtain ⟨w1, hw1⟩ : ∃ w1, w1 = wc := ⟨_, rfl⟩
      subst hw1
      have xc := DA.out.c
      go_upto_if 59 with (go_at_call 22; ((with_reducible refine (T32.out _ DA.out.c DA.out.z).mono ?_); rintro e w1 ⟨rfl, rfl⟩))
      clear xc
      go_cut [] (fun wx => Dc w ⟨ha.minW, ha.minH, (if t32 then z 7 else ha.maxW), (if t32 then z 8 else ha.maxH), ha.baseW, ha.baseH, ha.incW, ha.incH, ha.lowX, ha.lowY, ha.highX, ha.highY⟩ g p 0 len len z wx)
      case first =>
        cases t32
        · go_wp2_with fail
          go_meet
          exact DA.out
        · go_upto_region 14 with fail
          have DD := Lib.hid DA.out.drew
          obtain ⟨⟨e0, e1, e2, e3, e4, e5, e6, e7, e8, e9, e10, e11⟩, ⟨ef0, ef1, ef2, ef3, ef4, ef5, ef6, ef7, ef8, ef9, ef10, ef11⟩⟩ := DA.out.b.out
          refine wp_region_noPanic ?_
          refine wp_region_held_drew (S := fun wx => wx.cell? ⟨g, 0, none⟩ = some (.slice (some ⟨p, 0, none⟩) len len) ∧ wx.cell? ⟨p, 7, none⟩ = some (.int .i64 (z 7)) ∧ wx.cell? ⟨p, 8, none⟩ = some (.int .i64 (z 8))) (by kernel_rfl) (by exact ⟨DD.out.c, DD.out.q0 (j := 7) (by omega), DD.out.q0 (j := 8) (by omega)⟩) (fun hHeld => ?_)
          refine wpAnyH_take (i := 0) (v := ?vb0) rfl (by kernel_rfl) (by kernel_rfl) (by kernel_rfl) (fun _ _ _ h => h) (Or.inl ⟨by kernel_rfl, ?yb0⟩) (by assumption) ?rb0
          case yb0 => (intro wq hSw; (try dsimp only at hSw); go_simp; (try with_reducible rfl))
          (try simp only [Act.put, List.getElem_toArray, List.getElem_cons_zero, List.setIfInBounds_toArray, List.set_cons_zero, List.set_cons_succ])
          refine wpAnyH_take (i := 1) (v := ?vb1) rfl (by kernel_rfl) (by kernel_rfl) (by kernel_rfl) (fun _ _ _ h => h) (Or.inl ⟨by kernel_rfl, ?yb1⟩) (by assumption) ?rb1
          case yb1 => (intro wq hSw; (try dsimp only at hSw); go_simp; (try with_reducible rfl))
          (try simp only [Act.put, List.getElem_toArray, List.getElem_cons_succ, List.getElem_cons_zero, List.setIfInBounds_toArray, List.set_cons_zero, List.set_cons_succ])
          refine wpAnyH_take (i := 2) (v := ?vb2) rfl (by kernel_rfl) (by kernel_rfl) (by kernel_rfl) (fun _ _ _ h => h) (Or.inl ⟨by kernel_rfl, ?yb2⟩) (by assumption) ?rb2
          case yb2 => (intro wq hSw; (try dsimp only at hSw); go_simp; (try with_reducible rfl))
          (try simp only [Act.put, List.getElem_toArray, List.getElem_cons_succ, List.getElem_cons_zero, List.setIfInBounds_toArray, List.set_cons_zero, List.set_cons_succ])
          refine wpAnyH_take (i := 3) (v := ?vb3) rfl (by kernel_rfl) (by kernel_rfl) (by kernel_rfl) (fun _ _ _ h => h) (Or.inl ⟨by kernel_rfl, ?yb3⟩) (by assumption) ?rb3
          case yb3 => (intro wq hSw; (try dsimp only at hSw); go_simp; (try with_reducible rfl))
          (try simp only [Act.put, List.getElem_toArray, List.getElem_cons_succ, List.getElem_cons_zero, List.setIfInBounds_toArray, List.set_cons_zero, List.set_cons_succ])
          refine wpAnyH_take (i := 4) (v := ?vb4) rfl (by kernel_rfl) (by kernel_rfl) (by kernel_rfl) (fun _ _ _ h => h) (Or.inl ⟨by kernel_rfl, ?yb4⟩) (by assumption) ?rb4
          case yb4 => (intro wq hSw; (try dsimp only at hSw); go_simp; (try with_reducible rfl))
          (try simp only [Act.put, List.getElem_toArray, List.getElem_cons_succ, List.getElem_cons_zero, List.setIfInBounds_toArray, List.set_cons_zero, List.set_cons_succ])
          refine wpAnyH_take (i := 5) (v := ?vb5) rfl (by kernel_rfl) (by kernel_rfl) (by kernel_rfl) (fun _ _ _ h => h) (Or.inl ⟨by kernel_rfl, ?yb5⟩) (by assumption) ?rb5
          case yb5 => (intro wq hSw; (try dsimp only at hSw); go_simp; (try with_reducible rfl))
          (try simp only [Act.put, List.getElem_toArray, List.getElem_cons_succ, List.getElem_cons_zero, List.setIfInBounds_toArray, List.set_cons_zero, List.set_cons_succ])
          refine wpAnyH_take (i := 6) (v := ?vb6) rfl (by kernel_rfl) (by kernel_rfl) (by kernel_rfl) (fun _ _ _ h => h) (Or.inl ⟨by kernel_rfl, ?yb6⟩) (by assumption) ?rb6
          case yb6 => (intro wq hSw; (try dsimp only at hSw); go_simp; (try with_reducible rfl))
          (try simp only [Act.put, List.getElem_toArray, List.getElem_cons_succ, List.getElem_cons_zero, List.setIfInBounds_toArray, List.set_cons_zero, List.set_cons_succ])
          refine wpAnyH_ready (rs := [7]) (by kernel_rfl) (by simp) ?_
          refine AllReadyH.cons rfl (fun K hK => ?_) AllReadyH.nil
          go_simp; have Db0 := Lib.hid (DD.out.set (h' := ⟨ha.minW, ha.minH, z 7, ha.maxH, ha.baseW, ha.baseH, ha.incW, ha.incH, ha.lowX, ha.lowY, ha.highX, ha.highY⟩) 2 (z 7) (Blk.set_ DD.out.b 2 (.int .i64 (z 7))))
          refine hK.out _ _ (by exact ⟨Db0.out.c, Db0.out.q0 (j := 7) (by omega), Db0.out.q0 (j := 8) (by omega)⟩) (fun hHeld => ?_)
          clear hK K
          (try simp only [Act.put, List.getElem_toArray, List.getElem_cons_succ, List.getElem_cons_zero, List.setIfInBounds_toArray, List.set_cons_zero, List.set_cons_succ])
          refine wpAnyH_take (i := 8) (v := ?vb8) rfl (by kernel_rfl) (by kernel_rfl) (by kernel_rfl) (fun _ _ _ h => h) (Or.inl ⟨by kernel_rfl, ?yb8⟩) (by assumption) ?rb8
          case yb8 => (intro wq hSw; (try dsimp only at hSw); go_simp; (try with_reducible rfl))
          (try simp only [Act.put, List.getElem_toArray, List.getElem_cons_succ, List.getElem_cons_zero, List.setIfInBounds_toArray, List.set_cons_zero, List.set_cons_succ])
          refine wpAnyH_ready (rs := [9]) (by kernel_rfl) (by simp) ?_
          refine AllReadyH.cons rfl (fun K hK => ?_) AllReadyH.nil
          go_simp; have Db1 := Lib.hid (Db0.out.set (h' := ⟨ha.minW, ha.minH, z 7, z 8, ha.baseW, ha.baseH, ha.incW, ha.incH, ha.lowX, ha.lowY, ha.highX, ha.highY⟩) 3 (z 8) (Blk.set_ Db0.out.b 3 (.int .i64 (z 8))))
          refine hK.out _ _ (by exact ⟨Db1.out.c, Db1.out.q0 (j := 7) (by omega), Db1.out.q0 (j := 8) (by omega)⟩) (fun hHeld => ?_)
          clear hK K
          (try simp only [Act.put, List.getElem_toArray, List.getElem_cons_succ, List.getElem_cons_zero, List.setIfInBounds_toArray, List.set_cons_zero, List.set_cons_succ])
          refine wpAnyH_done (by kernel_rfl) ?_ _
          refine NoPanic.normal ?_
          clear e0 ef0 e1 ef1 e2 ef2 e3 ef3 e4 ef4 e5 ef5 e6 ef6 e7 ef7 e8 ef8 e9 ef9 e10 ef10 e11 ef11
          go_wp2_with fail
          go_meet
          exact Db1.out
      case rest =>
        obtain ⟨hb, hhb⟩ : ∃ x : Hn, x = ⟨ha.minW, ha.minH, (if t32 then z 7 else ha.maxW), (if t32 then z 8 else ha.maxH), ha.baseW, ha.baseH, ha.incW, ha.incH, ha.lowX, ha.lowY, ha.highX, ha.highY⟩ := ⟨_, rfl⟩
        rw [← hhb] at hcut
        have HHb := Lib.hid hhb
        clear hhb
        have B := Lib.hid hcut
        clear hcut
        obtain ⟨w1, hw1⟩ : ∃ w1, w1 = wc := ⟨_, rfl⟩
        subst hw1
        have xc := B.out.c
        go_upto_if 69 with (go_at_call 22; ((with_reducible refine (T64.out _ B.out.c B.out.z).mono ?_); rintro e w1 ⟨rfl, rfl⟩))
        clear xc
        go_cut [] (fun wx => Dc w ⟨hb.minW, hb.minH, hb.maxW, hb.maxH, hb.baseW, hb.baseH, (if t64 then z 9 else hb.incW), (if t64 then z 10 else hb.incH), hb.lowX, hb.lowY, hb.highX, hb.highY⟩ g p 0 len len z wx)
        case first =>
          cases t64
          · go_wp2_with fail
            go_meet
            exact B.out
          · go_upto_region 16 with fail
            have DD := Lib.hid B.out.drew
            obtain ⟨⟨e0, e1, e2, e3, e4, e5, e6, e7, e8, e9, e10, e11⟩, ⟨ef0, ef1, ef2, ef3, ef4, ef5, ef6, ef7, ef8, ef9, ef10, ef11⟩⟩ := B.out.b.out
            refine wp_region_noPanic ?_
            refine wp_region_held_drew (S := fun wx => wx.cell? ⟨g, 0, none⟩ = some (.slice (some ⟨p, 0, none⟩) len len) ∧ wx.cell? ⟨p, 9, none⟩ = some (.int .i64 (z 9)) ∧ wx.cell? ⟨p, 10, none⟩ = some (.int .i64 (z 10))) (by kernel_rfl) (by exact ⟨DD.out.c, DD.out.q0 (j := 9) (by omega), DD.out.q0 (j := 10) (by omega)⟩) (fun hHeld => ?_)
            refine wpAnyH_take (i := 0) (v := ?vc0) rfl (by kernel_rfl) (by kernel_rfl) (by kernel_rfl) (fun _ _ _ h => h) (Or.inl ⟨by kernel_rfl, ?yc0⟩) (by assumption) ?rc0
            case yc0 => (intro wq hSw; (try dsimp only at hSw); go_simp; (try with_reducible rfl))
            (try simp only [Act.put, List.getElem_toArray, List.getElem_cons_zero, List.setIfInBounds_toArray, List.set_cons_zero, List.set_cons_succ])
            refine wpAnyH_take (i := 1) (v := ?vc1) rfl (by kernel_rfl) (by kernel_rfl) (by kernel_rfl) (fun _ _ _ h => h) (Or.inl ⟨by kernel_rfl, ?yc1⟩) (by assumption) ?rc1
            case yc1 => (intro wq hSw; (try dsimp only at hSw); go_simp; (try with_reducible rfl))
            (try simp only [Act.put, List.getElem_toArray, List.getElem_cons_succ, List.getElem_cons_zero, List.setIfInBounds_toArray, List.set_cons_zero, List.set_cons_succ])
            refine wpAnyH_take (i := 2) (v := ?vc2) rfl (by kernel_rfl) (by kernel_rfl) (by kernel_rfl) (fun _ _ _ h => h) (Or.inl ⟨by kernel_rfl, ?yc2⟩) (by assumption) ?rc2
            case yc2 => (intro wq hSw; (try dsimp only at hSw); go_simp; (try with_reducible rfl))
            (try simp only [Act.put, List.getElem_toArray, List.getElem_cons_succ, List.getElem_cons_zero, List.setIfInBounds_toArray, List.set_cons_zero, List.set_cons_succ])
            refine wpAnyH_take (i := 3) (v := ?vc3) rfl (by kernel_rfl) (by kernel_rfl) (by kernel_rfl) (fun _ _ _ h => h) (Or.inl ⟨by kernel_rfl, ?yc3⟩) (by assumption) ?rc3
            case yc3 => (intro wq hSw; (try dsimp only at hSw); go_simp; (try with_reducible rfl))
            (try simp only [Act.put, List.getElem_toArray, List.getElem_cons_succ, List.getElem_cons_zero, List.setIfInBounds_toArray, List.set_cons_zero, List.set_cons_succ])
            refine wpAnyH_take (i := 4) (v := ?vc4) rfl (by kernel_rfl) (by kernel_rfl) (by kernel_rfl) (fun _ _ _ h => h) (Or.inl ⟨by kernel_rfl, ?yc4⟩) (by assumption) ?rc4
            case yc4 => (intro wq hSw; (try dsimp only at hSw); go_simp; (try with_reducible rfl))
            (try simp only [Act.put, List.getElem_toArray, List.getElem_cons_succ, List.getElem_cons_zero, List.setIfInBounds_toArray, List.set_cons_zero, List.set_cons_succ])
            refine wpAnyH_take (i := 5) (v := ?vc5) rfl (by kernel_rfl) (by kernel_rfl) (by kernel_rfl) (fun _ _ _ h => h) (Or.inl ⟨by kernel_rfl, ?yc5⟩) (by assumption) ?rc5
            case yc5 => (intro wq hSw; (try dsimp only at hSw); go_simp; (try with_reducible rfl))
            (try simp only [Act.put, List.getElem_toArray, List.getElem_cons_succ, List.getElem_cons_zero, List.setIfInBounds_toArray, List.set_cons_zero, List.set_cons_succ])
            refine wpAnyH_take (i := 6) (v := ?vc6) rfl (by kernel_rfl) (by kernel_rfl) (by kernel_rfl) (fun _ _ _ h => h) (Or.inl ⟨by kernel_rfl, ?yc6⟩) (by assumption) ?rc6
            case yc6 => (intro wq hSw; (try dsimp only at hSw); go_simp; (try with_reducible rfl))
            (try simp only [Act.put, List.getElem_toArray, List.getElem_cons_succ, List.getElem_cons_zero, List.setIfInBounds_toArray, List.set_cons_zero, List.set_cons_succ])
            refine wpAnyH_ready (rs := [7]) (by kernel_rfl) (by simp) ?_
            refine AllReadyH.cons rfl (fun K hK => ?_) AllReadyH.nil
            go_simp; have Dc0 := Lib.hid (DD.out.set (h' := ⟨hb.minW, hb.minH, hb.maxW, hb.maxH, hb.baseW, hb.baseH, z 9, hb.incH, hb.lowX, hb.lowY, hb.highX, hb.highY⟩) 6 (z 9) (Blk.set_ DD.out.b 6 (.int .i64 (z 9))))
            refine hK.out _ _ (by exact ⟨Dc0.out.c, Dc0.out.q0 (j := 9) (by omega), Dc0.out.q0 (j := 10) (by omega)⟩) (fun hHeld => ?_)
            clear hK K
            (try simp only [Act.put, List.getElem_toArray, List.getElem_cons_succ, List.getElem_cons_zero, List.setIfInBounds_toArray, List.set_cons_zero, List.set_cons_succ])
            refine wpAnyH_take (i := 8) (v := ?vc8) rfl (by kernel_rfl) (by kernel_rfl) (by kernel_rfl) (fun _ _ _ h => h) (Or.inl ⟨by kernel_rfl, ?yc8⟩) (by assumption) ?rc8
            case yc8 => (intro wq hSw; (try dsimp only at hSw); go_simp; (try with_reducible rfl))
            (try simp only [Act.put, List.getElem_toArray, List.getElem_cons_succ, List.getElem_cons_zero, List.setIfInBounds_toArray, List.set_cons_zero, List.set_cons_succ])
            refine wpAnyH_ready (rs := [9]) (by kernel_rfl) (by simp) ?_
            refine AllReadyH.cons rfl (fun K hK => ?_) AllReadyH.nil
            go_simp; have Dc1 := Lib.hid (Dc0.out.set (h' := ⟨hb.minW, hb.minH, hb.maxW, hb.maxH, hb.baseW, hb.baseH, z 9, z 10, hb.lowX, hb.lowY, hb.highX, hb.highY⟩) 7 (z 10) (Blk.set_ Dc0.out.b 7 (.int .i64 (z 10))))
            refine hK.out _ _ (by exact ⟨Dc1.out.c, Dc1.out.q0 (j := 9) (by omega), Dc1.out.q0 (j := 10) (by omega)⟩) (fun hHeld => ?_)
            clear hK K
            (try simp only [Act.put, List.getElem_toArray, List.getElem_cons_succ, List.getElem_cons_zero, List.setIfInBounds_toArray, List.set_cons_zero, List.set_cons_succ])
            refine wpAnyH_done (by kernel_rfl) ?_ _
            refine NoPanic.normal ?_
            clear e0 ef0 e1 ef1 e2 ef2 e3 ef3 e4 ef4 e5 ef5 e6 ef6 e7 ef7 e8 ef8 e9 ef9 e10 ef10 e11 ef11
            go_wp2_with fail
            go_meet
            exact Dc1.out
        case rest =>
          obtain ⟨hc, hhc⟩ : ∃ x : Hn, x = ⟨hb.minW, hb.minH, hb.maxW, hb.maxH, hb.baseW, hb.baseH, (if t64 then z 9 else hb.incW), (if t64 then z 10 else hb.incH), hb.lowX, hb.lowY, hb.highX, hb.highY⟩ := ⟨_, rfl⟩
          rw [← hhc] at hcut
          have HHc := Lib.hid hhc
          clear hhc
          have C := Lib.hid hcut
          clear hcut
          obtain ⟨w1, hw1⟩ : ∃ w1, w1 = wc := ⟨_, rfl⟩
          subst hw1
          have xc := C.out.c
          go_upto_if 79 with (go_at_call 22; ((with_reducible refine (T128.out _ C.out.c C.out.z).mono ?_); rintro e w1 ⟨rfl, rfl⟩))
          clear xc
          go_cut [] (fun wx => Dc w ⟨hc.minW, hc.minH, hc.maxW, hc.maxH, hc.baseW, hc.baseH, hc.incW, hc.incH, (if t128 then z 11 else hc.lowX), (if t128 then z 12 else hc.lowY), (if t128 then z 13 else hc.highX), (if t128 then z 14 else hc.highY)⟩ g p 0 len len z wx)
          case first =>
            cases t128
            · go_wp2_with fail
              go_meet
              exact C.out
            · go_upto_region 18 with fail
              have DD := Lib.hid C.out.drew
              obtain ⟨⟨e0, e1, e2, e3, e4, e5, e6, e7, e8, e9, e10, e11⟩, ⟨ef0, ef1, ef2, ef3, ef4, ef5, ef6, ef7, ef8, ef9, ef10, ef11⟩⟩ := C.out.b.out
              refine wp_region_noPanic ?_
              refine wp_region_held_drew (S := fun wx => wx.cell? ⟨g, 0, none⟩ = some (.slice (some ⟨p, 0, none⟩) len len) ∧ wx.cell? ⟨p, 11, none⟩ = some (.int .i64 (z 11)) ∧ wx.cell? ⟨p, 12, none⟩ = some (.int .i64 (z 12)) ∧ wx.cell? ⟨p, 13, none⟩ = some (.int .i64 (z 13)) ∧ wx.cell? ⟨p, 14, none⟩ = some (.int .i64 (z 14))) (by kernel_rfl) (by exact ⟨DD.out.c, DD.out.q0 (j := 11) (by omega), DD.out.q0 (j := 12) (by omega), DD.out.q0 (j := 13) (by omega), DD.out.q0 (j := 14) (by omega)⟩) (fun hHeld => ?_)
              refine wpAnyH_take (i := 0) (v := ?vd0) rfl (by kernel_rfl) (by kernel_rfl) (by kernel_rfl) (fun _ _ _ h => h) (Or.inl ⟨by kernel_rfl, ?yd0⟩) (by assumption) ?rd0
              case yd0 => (intro wq hSw; (try dsimp only at hSw); go_simp; (try with_reducible rfl))
              (try simp only [Act.put, List.getElem_toArray, List.getElem_cons_zero, List.setIfInBounds_toArray, List.set_cons_zero, List.set_cons_succ])
              refine wpAnyH_take (i := 1) (v := ?vd1) rfl (by kernel_rfl) (by kernel_rfl) (by kernel_rfl) (fun _ _ _ h => h) (Or.inl ⟨by kernel_rfl, ?yd1⟩) (by assumption) ?rd1
              case yd1 => (intro wq hSw; (try dsimp only at hSw); go_simp; (try with_reducible rfl))
              (try simp only [Act.put, List.getElem_toArray, List.getElem_cons_succ, List.getElem_cons_zero, List.setIfInBounds_toArray, List.set_cons_zero, List.set_cons_succ])
              refine wpAnyH_take (i := 2) (v := ?vd2) rfl (by kernel_rfl) (by kernel_rfl) (by kernel_rfl) (fun _ _ _ h => h) (Or.inl ⟨by kernel_rfl, ?yd2⟩) (by assumption) ?rd2
              case yd2 => (intro wq hSw; (try dsimp only at hSw); go_simp; (try with_reducible rfl))
              (try simp only [Act.put, List.getElem_toArray, List.getElem_cons_succ, List.getElem_cons_zero, List.setIfInBounds_toArray, List.set_cons_zero, List.set_cons_succ])
              refine wpAnyH_take (i := 3) (v := ?vd3) rfl (by kernel_rfl) (by kernel_rfl) (by kernel_rfl) (fun _ _ _ h => h) (Or.inl ⟨by kernel_rfl, ?yd3⟩) (by assumption) ?rd3
              case yd3 => (intro wq hSw; (try dsimp only at hSw); go_simp; (try with_reducible rfl))
              (try simp only [Act.put, List.getElem_toArray, List.getElem_cons_succ, List.getElem_cons_zero, List.setIfInBounds_toArray, List.set_cons_zero, List.set_cons_succ])
              refine wpAnyH_take (i := 4) (v := ?vd4) rfl (by kernel_rfl) (by kernel_rfl) (by kernel_rfl) (fun _ _ _ h => h) (Or.inl ⟨by kernel_rfl, ?yd4⟩) (by assumption) ?rd4
              case yd4 => (intro wq hSw; (try dsimp only at hSw); go_simp; (try with_reducible rfl))
              (try simp only [Act.put, List.getElem_toArray, List.getElem_cons_succ, List.getElem_cons_zero, List.setIfInBounds_toArray, List.set_cons_zero, List.set_cons_succ])
              refine wpAnyH_take (i := 5) (v := ?vd5) rfl (by kernel_rfl) (by kernel_rfl) (by kernel_rfl) (fun _ _ _ h => h) (Or.inl ⟨by kernel_rfl, ?yd5⟩) (by assumption) ?rd5
              case yd5 => (intro wq hSw; (try dsimp only at hSw); go_simp; (try with_reducible rfl))
              (try simp only [Act.put, List.getElem_toArray, List.getElem_cons_succ, List.getElem_cons_zero, List.setIfInBounds_toArray, List.set_cons_zero, List.set_cons_succ])
              refine wpAnyH_take (i := 6) (v := ?vd6) rfl (by kernel_rfl) (by kernel_rfl) (by kernel_rfl) (fun _ _ _ h => h) (Or.inl ⟨by kernel_rfl, ?yd6⟩) (by assumption) ?rd6
              case yd6 => (intro wq hSw; (try dsimp only at hSw); go_simp; (try with_reducible rfl))
              (try simp only [Act.put, List.getElem_toArray, List.getElem_cons_succ, List.getElem_cons_zero, List.setIfInBounds_toArray, List.set_cons_zero, List.set_cons_succ])
              refine wpAnyH_take (i := 7) (v := ?vd7) rfl (by kernel_rfl) (by kernel_rfl) (by kernel_rfl) (fun _ _ _ h => h) (Or.inl ⟨by kernel_rfl, ?yd7⟩) (by assumption) ?rd7
              case yd7 => (intro wq hSw; (try dsimp only at hSw); go_simp; (try with_reducible rfl))
              (try simp only [Act.put, List.getElem_toArray, List.getElem_cons_succ, List.getElem_cons_zero, List.setIfInBounds_toArray, List.set_cons_zero, List.set_cons_succ])
              refine wpAnyH_take (i := 8) (v := ?vd8) rfl (by kernel_rfl) (by kernel_rfl) (by kernel_rfl) (fun _ _ _ h => h) (Or.inl ⟨by kernel_rfl, ?yd8⟩) (by assumption) ?rd8
              case yd8 => (intro wq hSw; (try dsimp only at hSw); go_simp; (try with_reducible rfl))
              (try simp only [Act.put, List.getElem_toArray, List.getElem_cons_succ, List.getElem_cons_zero, List.setIfInBounds_toArray, List.set_cons_zero, List.set_cons_succ])
              refine wpAnyH_take (i := 9) (v := ?vd9) rfl (by kernel_rfl) (by kernel_rfl) (by kernel_rfl) (fun _ _ _ h => h) (Or.inl ⟨by kernel_rfl, ?yd9⟩) (by assumption) ?rd9
              case yd9 => (intro wq hSw; (try dsimp only at hSw); go_simp; (try with_reducible rfl))
              (try simp only [Act.put, List.getElem_toArray, List.getElem_cons_succ, List.getElem_cons_zero, List.setIfInBounds_toArray, List.set_cons_zero, List.set_cons_succ])
              refine wpAnyH_take (i := 10) (v := ?vd10) rfl (by kernel_rfl) (by kernel_rfl) (by kernel_rfl) (fun _ _ _ h => h) (Or.inl ⟨by kernel_rfl, ?yd10⟩) (by assumption) ?rd10
              case yd10 => (intro wq hSw; (try dsimp only at hSw); go_simp; (try with_reducible rfl))
              (try simp only [Act.put, List.getElem_toArray, List.getElem_cons_succ, List.getElem_cons_zero, List.setIfInBounds_toArray, List.set_cons_zero, List.set_cons_succ])
              refine wpAnyH_take (i := 11) (v := ?vd11) rfl (by kernel_rfl) (by kernel_rfl) (by kernel_rfl) (fun _ _ _ h => h) (Or.inl ⟨by kernel_rfl, ?yd11⟩) (by assumption) ?rd11
              case yd11 => (intro wq hSw; (try dsimp only at hSw); go_simp; (try with_reducible rfl))
              (try simp only [Act.put, List.getElem_toArray, List.getElem_cons_succ, List.getElem_cons_zero, List.setIfInBounds_toArray, List.set_cons_zero, List.set_cons_succ])
              refine wpAnyH_take (i := 12) (v := ?vd12) rfl (by kernel_rfl) (by kernel_rfl) (by kernel_rfl) (fun _ _ _ h => h) (Or.inl ⟨by kernel_rfl, ?yd12⟩) (by assumption) ?rd12
              case yd12 => (intro wq hSw; (try dsimp only at hSw); go_simp; (try with_reducible rfl))
              (try simp only [Act.put, List.getElem_toArray, List.getElem_cons_succ, List.getElem_cons_zero, List.setIfInBounds_toArray, List.set_cons_zero, List.set_cons_succ])
              refine wpAnyH_ready (rs := [13]) (by kernel_rfl) (by simp) ?_
              refine AllReadyH.cons rfl (fun K hK => ?_) AllReadyH.nil
              go_simp; have Dd0 := Lib.hid (DD.out.set (h' := ⟨hc.minW, hc.minH, hc.maxW, hc.maxH, hc.baseW, hc.baseH, hc.incW, hc.incH, z 11, hc.lowY, hc.highX, hc.highY⟩) 8 (z 11) (Blk.set_ DD.out.b 8 (.int .i64 (z 11))))
              refine hK.out _ _ (by exact ⟨Dd0.out.c, Dd0.out.q0 (j := 11) (by omega), Dd0.out.q0 (j := 12) (by omega), Dd0.out.q0 (j := 13) (by omega), Dd0.out.q0 (j := 14) (by omega)⟩) (fun hHeld => ?_)
              clear hK K
              (try simp only [Act.put, List.getElem_toArray, List.getElem_cons_succ, List.getElem_cons_zero, List.setIfInBounds_toArray, List.set_cons_zero, List.set_cons_succ])
              refine wpAnyH_take (i := 14) (v := ?vd14) rfl (by kernel_rfl) (by kernel_rfl) (by kernel_rfl) (fun _ _ _ h => h) (Or.inl ⟨by kernel_rfl, ?yd14⟩) (by assumption) ?rd14
              case yd14 => (intro wq hSw; (try dsimp only at hSw); go_simp; (try with_reducible rfl))
              (try simp only [Act.put, List.getElem_toArray, List.getElem_cons_succ, List.getElem_cons_zero, List.setIfInBounds_toArray, List.set_cons_zero, List.set_cons_succ])
              refine wpAnyH_ready (rs := [15]) (by kernel_rfl) (by simp) ?_
              refine AllReadyH.cons rfl (fun K hK => ?_) AllReadyH.nil
              go_simp; have Dd1 := Lib.hid (Dd0.out.set (h' := ⟨hc.minW, hc.minH, hc.maxW, hc.maxH, hc.baseW, hc.baseH, hc.incW, hc.incH, z 11, z 12, hc.highX, hc.highY⟩) 9 (z 12) (Blk.set_ Dd0.out.b 9 (.int .i64 (z 12))))
              refine hK.out _ _ (by exact ⟨Dd1.out.c, Dd1.out.q0 (j := 11) (by omega), Dd1.out.q0 (j := 12) (by omega), Dd1.out.q0 (j := 13) (by omega), Dd1.out.q0 (j := 14) (by omega)⟩) (fun hHeld => ?_)
              clear hK K
              (try simp only [Act.put, List.getElem_toArray, List.getElem_cons_succ, List.getElem_cons_zero, List.setIfInBounds_toArray, List.set_cons_zero, List.set_cons_succ])
              refine wpAnyH_take (i := 16) (v := ?vd16) rfl (by kernel_rfl) (by kernel_rfl) (by kernel_rfl) (fun _ _ _ h => h) (Or.inl ⟨by kernel_rfl, ?yd16⟩) (by assumption) ?rd16
              case yd16 => (intro wq hSw; (try dsimp only at hSw); go_simp; (try with_reducible rfl))
              (try simp only [Act.put, List.getElem_toArray, List.getElem_cons_succ, List.getElem_cons_zero, List.setIfInBounds_toArray, List.set_cons_zero, List.set_cons_succ])
              refine wpAnyH_ready (rs := [17]) (by kernel_rfl) (by simp) ?_
              refine AllReadyH.cons rfl (fun K hK => ?_) AllReadyH.nil
              go_simp; have Dd2 := Lib.hid (Dd1.out.set (h' := ⟨hc.minW, hc.minH, hc.maxW, hc.maxH, hc.baseW, hc.baseH, hc.incW, hc.incH, z 11, z 12, z 13, hc.highY⟩) 10 (z 13) (Blk.set_ Dd1.out.b 10 (.int .i64 (z 13))))
              refine hK.out _ _ (by exact ⟨Dd2.out.c, Dd2.out.q0 (j := 11) (by omega), Dd2.out.q0 (j := 12) (by omega), Dd2.out.q0 (j := 13) (by omega), Dd2.out.q0 (j := 14) (by omega)⟩) (fun hHeld => ?_)
              clear hK K
              (try simp only [Act.put, List.getElem_toArray, List.getElem_cons_succ, List.getElem_cons_zero, List.setIfInBounds_toArray, List.set_cons_zero, List.set_cons_succ])
              refine wpAnyH_take (i := 18) (v := ?vd18) rfl (by kernel_rfl) (by kernel_rfl) (by kernel_rfl) (fun _ _ _ h => h) (Or.inl ⟨by kernel_rfl, ?yd18⟩) (by assumption) ?rd18
              case yd18 => (intro wq hSw; (try dsimp only at hSw); go_simp; (try with_reducible rfl))
              (try simp only [Act.put, List.getElem_toArray, List.getElem_cons_succ, List.getElem_cons_zero, List.setIfInBounds_toArray, List.set_cons_zero, List.set_cons_succ])
              refine wpAnyH_ready (rs := [19]) (by kernel_rfl) (by simp) ?_
              refine AllReadyH.cons rfl (fun K hK => ?_) AllReadyH.nil
              go_simp; have Dd3 := Lib.hid (Dd2.out.set (h' := ⟨hc.minW, hc.minH, hc.maxW, hc.maxH, hc.baseW, hc.baseH, hc.incW, hc.incH, z 11, z 12, z 13, z 14⟩) 11 (z 14) (Blk.set_ Dd2.out.b 11 (.int .i64 (z 14))))
              refine hK.out _ _ (by exact ⟨Dd3.out.c, Dd3.out.q0 (j := 11) (by omega), Dd3.out.q0 (j := 12) (by omega), Dd3.out.q0 (j := 13) (by omega), Dd3.out.q0 (j := 14) (by omega)⟩) (fun hHeld => ?_)
              clear hK K
              (try simp only [Act.put, List.getElem_toArray, List.getElem_cons_succ, List.getElem_cons_zero, List.setIfInBounds_toArray, List.set_cons_zero, List.set_cons_succ])
              refine wpAnyH_done (by kernel_rfl) ?_ _
              refine NoPanic.normal ?_
              clear e0 ef0 e1 ef1 e2 ef2 e3 ef3 e4 ef4 e5 ef5 e6 ef6 e7 ef7 e8 ef8 e9 ef9 e10 ef10 e11 ef11
              go_wp2_with fail
              go_meet
              exact Dd3.out
          case rest =>
            obtain ⟨hd, hhd⟩ : ∃ x : Hn, x = ⟨hc.minW, hc.minH, hc.maxW, hc.maxH, hc.baseW, hc.baseH, hc.incW, hc.incH, (if t128 then z 11 else hc.lowX), (if t128 then z 12 else hc.lowY), (if t128 then z 13 else hc.highX), (if t128 then z 14 else hc.highY)⟩ := ⟨_, rfl⟩
            rw [← hhd] at hcut
            have HHd := Lib.hid hhd
            clear hhd
            have D := Lib.hid hcut
            clear hcut
            obtain ⟨w1, hw1⟩ : ∃ w1, w1 = wc := ⟨_, rfl⟩
            subst hw1
            have xc := D.out.c
            obtain ⟨⟨k0, k1, k2, k3, k4, k5, k6, k7, k8, k9, k10, k11⟩, ⟨kf0, kf1, kf2, kf3, kf4, kf5, kf6, kf7, kf8, kf9, kf10, kf11⟩⟩ := D.out.b.out
            obtain ⟨⟨c0, c1, c2, c3, c4, c5, c6, c7, c8, c9, c10, c11⟩, ⟨cf0, cf1, cf2, cf3, cf4, cf5, cf6, cf7, cf8, cf9, cf10, cf11⟩⟩ := D.out.r.out
            go_upto_region 19 with fail
            go_cut [] (fun wx => HB wx w.heap.size hd ∧ Below w.heap.size w wx)
            case first =>
              go_wp2_with fail
              go_meet
              exact ⟨D.out.r.put12 hd, below_set12 D.out.be (Nat.le_refl _) hd⟩
            case rest =>
              obtain ⟨X1, X2⟩ := hcut
              rename_i K2 aK2
              refine aK2 _ _ ?_
              refine wp_ret ?_
              (try simp only [Exit.then])
              rw [HHd.out, HHc.out, HHb.out, HHa.out] at X1
              exact bodyPost_ret (res_hints rfl _ rfl X1) rfl ⟨rfl, X2⟩
end Sz
end Go.Proofs.Ytfckgkbhphkhoaa
