/- Texts SwE. -/
import Derived.Test.YtnhchpiafchdgaaGreatTbh
import Derived.Test.YtnhchpiafchdgaaGreatTaa
namespace Go.Proofs.YtnhchpiafchdgaaGreat
open Go.RowKit Go.Shelf Go.Maps
section
variable {w w' w0 w1 w2 w3 wA : World} {s r : Nat} {Y : Yl} {Z : Zl} {X X' X1 : Xs} {k k' kd : Nat} {Q : Nat → Prop}
theorem kids_lenE {X : Xs} {k : Nat} (h : Sane X.R X.L k) (i : Int) : (kidsL X.L i).length ≤ 1048576 := by
 have h1 := h.len
 have h2 := h.most
 have h3 : (kidsL X.L i).length ≤ X.L.length := by
  unfold kidsL
  rw [List.length_map]
  exact List.length_filter_le _ _
 omega
def KpQ (Q : Nat → Prop) (wA : World) (s : Nat) (Y : Yl) (W : World) : Prop := ∀ g, Q g → g < W.heap.size ∧ ¬ Y.foot s g ∧ W.heap[g]? = wA.heap[g]?
theorem KpQ.next (h : KpQ Q wA s Y w) (hb : Below w.heap.size w w') : KpQ Q wA s Y w' := fun g hg => by
 obtain ⟨h1, h2, h3⟩ := h g hg
 exact ⟨Nat.lt_of_lt_of_le h1 hb.size, h2, (hb.block g h1).trans h3⟩
theorem Bm.codek (h : Bm w0 s r Y Z X X' k w) (hK : KpQ Q wA s Y w) (hT : SrvTo w s Y X1 k' w') : ∃ Y', Bm w0 s r Y' Z X X1 k' w' ∧ KpQ Q wA s Y' w' := by
 obtain ⟨Y', h1, h2⟩ := hT
 refine ⟨Y', ⟨h1, ref_stays h.c h.d (fun b hb => (h.yf b hb).2) h2, ⟨h2.os.trans h.be.os, h2.tape.trans h.be.tape, h2.output.trans h.be.output, Nat.le_trans h.be.size h2.size, fun i hi => (h2.block i (Nat.lt_of_lt_of_le hi h.be.size) fun hf => by have := (h.yf i hf).1; omega).trans (h.be.block i hi)⟩, fun b hb => ?_, h.zf⟩, fun g hg => ?_⟩
 · rcases h2.foot b hb with h3 | h3
   · exact h.yf b h3
   · exact ⟨Nat.le_trans h.be.size h3, fun hf => by have := h.d.foot_lt hf; omega⟩
 · obtain ⟨k1, k2, k3⟩ := hK g hg
   refine ⟨Nat.lt_of_lt_of_le k1 h2.size, fun hf => ?_, (h2.block g k1 k2).trans k3⟩
   rcases h2.foot g hf with h3 | h3
   · exact k2 h3
   · omega
theorem owns_kept {T : TypeId} {n m B : Nat} {v : Value} {cs : List Value} (h : w.ownsRow B T m v n cs) (hs : ∀ b, v.ownBlock = some b → w'.heap[b]? = w.heap[b]?) : w'.ownsRow B T m v n cs := by
 obtain ⟨h0, h1⟩ := h
 refine ⟨h0, ?_⟩
 rcases h1 with h1 | ⟨g, cap, cur, rfl, h2, h3, h4⟩
 · exact .inl h1
 · exact .inr ⟨g, cap, cur, rfl, h2, (hs g rfl).trans h3, h4⟩
theorem blk_kept {g : Nat} {T : TypeId} {cs : Array Value} (h : Blk wA g T cs) (hK : KpQ Q wA s Y w) (hg : Q g) : Blk w g T cs := (hK g hg).2.2.trans h
theorem owns_lt {T : TypeId} {n m B : Nat} {v : Value} {cs : List Value} (h : w.ownsRow B T m v n cs) {b : Nat} (hb : v.ownBlock = some b) : B ≤ b ∧ b < w.heap.size := by
 obtain ⟨h0, h1⟩ := h
 rcases h1 with ⟨rfl, -⟩ | ⟨g, cap, cur, rfl, h2, h3, h4⟩
 · cases hb
 · obtain rfl : g = b := by simpa [Value.ownBlock] using hb
   exact ⟨h2, Blk.lt (show Blk w g _ _ from h3)⟩
theorem ask_call {id : Int} (hRT : Rt X id) (hV : V X 40) (hi : I64 id) {j : Nat} (hj : j < 4) {kind e : Int} {jm jm' : Nat} (hd : (X.at id jm).do (ownM id X.M) (rqA kind id) = (0, e, X.at id jm')) (h : Bm w0 s r Y Z X (X.at id jm) (40 + j) w) :
  Calls Tryz.prog 20 #[srvP s, .int .i64 (ownM id X.M), .agg #[.int .i64 kind, .int .i64 id, .int .i64 0, .int .i64 1, .int .i64 2, .int .i64 3, .int .i64 4, .string ⟨#[]⟩, .string ⟨#[]⟩, .string ⟨#[]⟩]] w fun ex w' => ex = .returned (.tuple #[.int .i64 0, .int .i64 e]) ∧ SrvTo w s Y (X.at id jm') (40 + (j + 1)) w' := by
 have hv := (hV.at id jm).le (Nat.le_add_right 40 j) (by omega)
 have ho : I64 (ownM id X.M) := by
  have h1 := hRT.o
  obtain ⟨v, hvm, rfl, -⟩ := hRT.v
  obtain ⟨m, hf, h3, h4⟩ := mfind_some ((hV.same v.id).1 ⟨v, hvm, rfl⟩)
  rw [own_of hf] at h1 ⊢
  have h5 := (hV.own m h3).2.1
  exact ⟨by omega, by omega⟩
 have h6 := do_c h.c hv (by omega) ho (rqA kind id) hi i64_zero (show 0 ≤ maxLen from Nat.zero_le _) (show 0 ≤ maxLen from Nat.zero_le _)
 rw [hd] at h6
 exact h6
theorem want_rd {W : World} {g : Nat} {id : Int} (h : Blk W g 71 #[.int .i64 1, .int .i64 id, .int .i64 0, .int .i64 0, .int .i64 0, .int .i64 0, .string ⟨#[]⟩, .int .i64 2, .int .i64 id, .int .i64 1, .int .i64 2, .int .i64 3, .int .i64 4, .string ⟨#[]⟩]) : RdE W (.slice (some ⟨g, 0, none⟩) 2 2) [evA id, evB id] := by
 refine ⟨some ⟨g, 0, none⟩, 2, rfl, fun j x hx => ⟨g, 0, rfl, h.lt, fun i u hu => ?_⟩⟩
 match j with
 | 0 =>
  obtain rfl : evA id = x := by simpa using hx
  match i with
  | 0 => exact (h.at_ (i := 0) rfl).trans hu
  | 1 => exact (h.at_ (i := 1) rfl).trans hu
  | 2 => exact (h.at_ (i := 2) rfl).trans hu
  | 3 => exact (h.at_ (i := 3) rfl).trans hu
  | 4 => exact (h.at_ (i := 4) rfl).trans hu
  | 5 => exact (h.at_ (i := 5) rfl).trans hu
  | 6 => exact (h.at_ (i := 6) rfl).trans hu
  | i + 7 => cases hu
 | 1 =>
  obtain rfl : evB id = x := by simpa using hx
  match i with
  | 0 => exact (h.at_ (i := 7) rfl).trans hu
  | 1 => exact (h.at_ (i := 8) rfl).trans hu
  | 2 => exact (h.at_ (i := 9) rfl).trans hu
  | 3 => exact (h.at_ (i := 10) rfl).trans hu
  | 4 => exact (h.at_ (i := 11) rfl).trans hu
  | 5 => exact (h.at_ (i := 12) rfl).trans hu
  | 6 => exact (h.at_ (i := 13) rfl).trans hu
  | i + 7 => cases hu
 | j + 2 => simp at hx
set_option maxRecDepth 100000 in
set_option maxHeartbeats 16000000 in
theorem asks_w (va : Value) (As : List A8) (t : A8) (wh : Int) (w : World) (hI : IsA8 w.heap.size w va As) (hw : (Lit.int .u64 wh).wf = true) : Calls Tryz.prog 6 #[va, .agg ⟨t.cells⟩, .int .u64 wh] w fun e w' => e = .returned (.bool true) ∧ Below w.heap.size w w' := by
 have wh1 : 0 ≤ wh := by
   have h := hw
   simp [Lit.wf] at h
   have h3 : IntKind.min .u64 = 0 := rfl
   omega
 obtain ⟨ac, ⟨ki, wi, ot, x, y, a, e, ⟨nm, ty, da⟩⟩⟩ := t
 obtain ⟨wb, hwb⟩ : ∃ wb, wb = w.alloc (.cells #[.int .i64 ac, .int .i64 ki, .int .i64 wi, .int .i64 ot, .int .i64 x, .int .i64 y, .int .i64 a, .int .i64 e, .string nm, .string ty, .string da] 39) := ⟨_, rfl⟩
 have hbel : Below w.heap.size w wb := by rw [hwb]; exact (Below.refl _ _).alloc (Nat.le_refl _) _
 have HW := Lib.hid hwb
 have HBW := Lib.hid hbel
 have HFI := Lib.hid (filled8_c wb va As ((hI.below hbel).wide hbel.size))
 have HAW := Lib.hid (fun W => awake8_c W)
 have HWH := Lib.hid wh1
 clear hbel hI hw wh1
 show Calls Tryz.prog 6 #[va, .agg #[.int .i64 ac, .int .i64 ki, .int .i64 wi, .int .i64 ot, .int .i64 x, .int .i64 y, .int .i64 a, .int .i64 e, .string nm, .string ty, .string da], .int .u64 wh] w _
 go_enter Tryz.func6, Tryz.ntmps6
 go_upto_region 1 with fail
 rw [← HW.out]
 clear hwb
 go_upto_region 4 with (go_at_call 19; ((with_reducible refine (HFI.out).mono ?_); rintro e w1 ⟨s, r, rfl, hst⟩); have HST := Lib.hid hst; clear hst)
 obtain ⟨X, Y, Z, hV, hB⟩ := HST.out
 have HV := Lib.hid hV
 have HB := Lib.hid hB
 have HWB := Lib.hid (hB.be.on HBW.out HBW.out.size)
 obtain ⟨b0, b1, b2, b3, b4, b5, -, -, -, b9, -⟩ := hB.d.blk.at11
 obtain ⟨pl, cl, hlv, hrow⟩ := RO.rd hB.d.l
 obtain ⟨m, hm⟩ : ∃ m, m = X.L.length := ⟨_, rfl⟩
 have hLL : X.L.length ≤ 1048576 := by have := HV.out.s.len; have := HV.out.s.most; omega
 have hkd := rkids_c (R := X.R) (RO.rd hB.d.l) hLL 0
 rw [hlv, ← hm] at hkd
 rw [hlv, ← hm] at b5
 have HKD := Lib.hid hkd
 have HKL := Lib.hid (kids_lenE HV.out.s 0)
 have f9 := hB.d.blk.frozen 9
 clear hV hB hlv hrow hm hkd
 obtain ⟨n, hn⟩ : ∃ n, n = (kidsL X.L 0).length := ⟨_, rfl⟩
 rw [← hn] at HKD HKL
 obtain ⟨ks, hks⟩ : ∃ ks, ks = kidsL X.L 0 := ⟨_, rfl⟩
 rw [← hks] at HKD hn
 have HKS := Lib.hid hks
 have HN := Lib.hid hn
 clear hks hn
 go_upto_region 5 with (go_at_call 23; ((with_reducible refine (HKD.out).mono ?_); rintro e w2 ⟨kv, rfl, hkr, hb2⟩); have HKR := Lib.hid hkr; have HB2 := Lib.hid hb2; clear hkr hb2)
 have hrd := RdI.of (xs := ks) (by rw [← HN.out]; exact HKR.out)
 obtain ⟨kp, kc, hkv, hkc⟩ := hrd
 rw [← HN.out] at hkv
 have HKV := Lib.hid hkv
 have HKC := Lib.hid hkc
 rw [hkv]
 clear hkv hkc
 have c9 : w2.cell? ⟨r, 9, none⟩ = some (.bool X.G) := by
   obtain ⟨-, -, -, -, -, -, -, -, -, b9, -⟩ := (HB.out.next HB2.out).d.blk.at11
   exact b9
 clear b0 b1 b2 b3 b4 b5 b9
 obtain ⟨g, hg⟩ : ∃ g, g = X.G := ⟨_, rfl⟩
 rw [← hg] at c9
 have HG := Lib.hid hg
 clear hg f9
 by_cases hn0 : n = 0
 · subst hn0
   go_wp2_with (go_at_call 10; ((with_reducible refine (HAW.out _).mono ?_); rintro e w3 ⟨rfl, hW⟩); have HW3 := Lib.hid hW; clear hW)
   go_ret
   exact ⟨rfl, (HW3.out.on HB2.out HB2.out.size).on HWB.out HWB.out.size⟩
 · have hn1 : ((n : Int) == 0) = false := by simpa using hn0
   cases g with
   | false =>
    go_wp2_with (go_at_call 10; ((with_reducible refine (HAW.out _).mono ?_); rintro e w3 ⟨rfl, hW⟩); have HW3 := Lib.hid hW; clear hW)
    go_ret
    exact ⟨rfl, (HW3.out.on HB2.out HB2.out.size).on HWB.out HWB.out.size⟩
   | true =>
    have hw0 : IntKind.u64.wrap (n : Int) = (n : Int) := IntWalk.u64_in _ (by have := HKL.out; omega)
    obtain ⟨kk, hkk⟩ : ∃ kk : Nat, wh.tmod (n : Int) = (kk : Int) := ⟨(wh.tmod (n : Int)).toNat, (Int.toNat_of_nonneg (Int.tmod_nonneg _ HWH.out)).symm⟩
    have hkn : kk < n := by have := Int.tmod_lt_of_pos wh (show (0 : Int) < (n : Int) by omega); omega
    have w1' : IntKind.u64.wrap (kk : Int) = (kk : Int) := IntWalk.u64_in _ (by have := HKL.out; omega)
    have k0 : (0 : Int) ≤ (kk : Int) := by omega
    have k1 : (kk : Int) < (n : Int) := by omega
    have z0 : ¬ (n : Int) = 0 := by omega
    obtain ⟨id, hid⟩ : ∃ id, ks[kk]? = some id := ⟨_, List.getElem?_eq_getElem (by rw [← HN.out]; exact hkn)⟩
    obtain ⟨gk, rfl, hc⟩ := HKC.out kk id hid
    have HID := Lib.hid hid
    have hidm : id ∈ kidsL X.L 0 := by rw [← HKS.out]; exact List.mem_of_getElem? HID.out
    have hML : X.M.length ≤ 1048576 := Nat.le_trans HV.out.toV0.mlen (by decide)
    have HOW := Lib.hid (fun (W : World) (Y : Yl) (X' : Xs) (k : Nat) (h : Bm wb s r Y Z X X' k W) => rowner_c h.d hML id)
    obtain ⟨ow, how⟩ : ∃ o, o = ownM id X.M := ⟨_, rfl⟩
    rw [← how] at HOW
    have HO := Lib.hid how
    have HM := Lib.hid hidm
    have HB2B := Lib.hid (HB.out.next HB2.out)
    clear hid hidm hML how hkn
    by_cases ho : ow = 0
    · subst ho
      go_wp2_with (first
       | (go_at_call 22; ((with_reducible refine (HOW.out _ _ _ _ HB2B.out).mono ?_); rintro ex w3 ⟨rfl, rfl⟩); skip)
       | (go_at_call 10; ((with_reducible refine (HAW.out _).mono ?_); rintro ex w3 ⟨rfl, hW⟩); have HW3 := Lib.hid hW; clear hW))
      go_ret
      exact ⟨rfl, (HW3.out.on HB2.out HB2.out.size).on HWB.out HWB.out.size⟩
    · have ho' : (ow == 0) = false := by simpa using ho
      have HRT := Lib.hid (rt_of HV.out HG.out.symm HM.out (by rw [← HO.out]; exact ho))
      have hidi : I64 id := by
       obtain ⟨v, hv, rfl, -⟩ := HRT.out.v
       have h3 := HV.out.s.pos v hv
       have h4 := HV.out.s.last
       exact ⟨by omega, by omega⟩
      have HII := Lib.hid hidi
      have HK0 := Lib.hid (show KpQ (fun g => (Value.slice (some ⟨gk, 0, none⟩) n kc).ownBlock = some g) w2 s Y w2 from fun g hg => by
       have hg' := hg
       rw [← HKV.out] at hg'
       have h5 := owns_lt HKR.out hg'
       refine ⟨h5.2, fun hf => ?_, rfl⟩
       have := HB.out.c.foot_lt hf
       omega)
      have HEV := Lib.hid (fun (W : World) (Y : Yl) (X' : Xs) (k : Nat) (h : Bm wb s r Y Z X X' k W) => events_c' h.c)
      have HGE := Lib.hid (fun (W : World) (Y : Yl) (j k : Nat) (h : Bm wb s r Y Z X (X.at id j) k W) => (show Calls Tryz.prog 21 #[srvP s, .int .i64 id] W fun e w' => e = .returned (.tuple #[winV (winL X.R X.L id), .bool (thereL X.R X.L id)]) ∧ Below W.heap.size W w' from sget_c h.c (HV.out.at id j).s HII.out))
      rw [(HRT.out.win HV.out).2.1] at HGE
      obtain ⟨v, hv⟩ : ∃ v, v = winL X.R X.L id := ⟨_, rfl⟩
      rw [← hv] at HGE
      clear hidi hv
      obtain ⟨vi, vp, vx, vy, vw, vh, vo⟩ := v
      go_upto_region 11 with (first
       | (go_at_call 22; ((with_reducible refine (HOW.out _ _ _ _ HB2B.out).mono ?_); rintro ex w3 ⟨rfl, rfl⟩); skip)
       | (go_at_call 24; ((with_reducible refine (HEV.out _ _ _ _ HB2B.out).mono ?_); rintro ex w3 ⟨p3, c3, rfl, -, -, hT⟩); have HT3 := Lib.hid (HB2B.out.codek HK0.out hT); clear hT))
      obtain ⟨Y3, hB3, hK3⟩ := HT3.out
      have HB3 := Lib.hid (show Bm wb s r Y3 Z X (X.at id 0) 40 w3 from hB3)
      have HK3 := Lib.hid hK3
      clear hB3 hK3
      go_upto_region 12 with (go_at_call 21; ((with_reducible refine (HGE.out _ _ _ _ HB3.out).mono ?_); rintro ex w4 ⟨rfl, hW⟩); have HB4 := Lib.hid hW; clear hW)
      obtain ⟨w5, hw5⟩ : ∃ w5, w5 = w4.alloc (.cells #[.int .i64 vi, .int .i64 vp, .int .i64 vx, .int .i64 vy, .int .i64 vw, .int .i64 vh, .bool vo] 61) := ⟨_, rfl⟩
      have hb5 : Below w4.heap.size w4 w5 := by rw [hw5]; exact (Below.refl _ _).alloc (Nat.le_refl _) _
      have hk5 : Blk w5 w4.heap.size 61 #[.int .i64 vi, .int .i64 vp, .int .i64 vx, .int .i64 vy, .int .i64 vw, .int .i64 vh, .bool vo] := by rw [hw5]; exact Blk.new w4 _ _
      rw [← hw5]
      have HK5 := Lib.hid hk5
      have HB5 := Lib.hid (hb5.on HB4.out HB4.out.size)
      have HS5 := Lib.hid hb5.size
      clear hw5 hb5 hk5
      go_upto_region 13 with fail
      obtain ⟨w6, hw6⟩ : ∃ w6, w6 = w5.alloc (.cells #[.int .i64 3, .int .i64 5, .int .i64 6, .int .i64 7] 3) := ⟨_, rfl⟩
      have hb6 : Below w5.heap.size w5 w6 := by rw [hw6]; exact (Below.refl _ _).alloc (Nat.le_refl _) _
      have hk6 : Blk w6 w5.heap.size 3 #[.int .i64 3, .int .i64 5, .int .i64 6, .int .i64 7] := by rw [hw6]; exact Blk.new w5 _ _
      rw [← hw6]
      have HB36 := Lib.hid (hb6.on HB5.out HB5.out.size)
      have hb36 := HB36.out
      have HK64 := Lib.hid hk6
      have HK11 := Lib.hid (HK5.out.next hb6)
      obtain ⟨g1, hg1⟩ : ∃ g, g = w4.heap.size := ⟨_, rfl⟩
      obtain ⟨g2, hg2⟩ : ∃ g, g = w5.heap.size := ⟨_, rfl⟩
      rw [← hg1] at HK11
      rw [← hg2] at HK64
      have HKR6 := Lib.hid (owns_kept (w' := w6) HKR.out fun b hb => by
       rw [HKV.out] at hb
       obtain ⟨q1, q2, q3⟩ := HK3.out b hb
       exact (hb36.block b q1).trans q3)
      have HQ6 := Lib.hid (show KpQ (fun g => g = g1 ∨ g = g2 ∨ (Value.slice (some ⟨gk, 0, none⟩) n kc).ownBlock = some g) w6 s Y3 w6 from fun g hg => by
       have s4 := HB4.out.size
       have s5 := HK5.out.lt
       have s6 := hk6.lt
       have s7 := hb6.size
       rcases hg with rfl | rfl | hg
       · refine ⟨by omega, fun hf => ?_, rfl⟩
         have := HB3.out.c.foot_lt hf
         omega
       · refine ⟨by omega, fun hf => ?_, rfl⟩
         have := HB3.out.c.foot_lt hf
         omega
       · obtain ⟨q1, q2, q3⟩ := HK3.out g hg
         exact ⟨Nat.lt_of_lt_of_le q1 hb36.size, q2, rfl⟩)
      have HB6 := Lib.hid (HB3.out.next hb36)
      rw [← hg1, ← hg2]
      clear hw6 hb6 hk6 hb36 hg1 hg2
      have HD0 := Lib.hid (fun (W : World) (Y : Yl) (h : Bm wb s r Y Z X (X.at id 0) (40 + 0) W) => ask_call (j := 0) HRT.out HV.out HII.out (by decide) (ask_map (HRT.out.at 0) (HV.out.at id 0) rfl) h)
      have HD1 := Lib.hid (fun (W : World) (Y : Yl) (h : Bm wb s r Y Z X (X.at id 1) (40 + 1) W) => ask_call (j := 1) HRT.out HV.out HII.out (by decide) (ask_move (HRT.out.at 1) (HV.out.at id 1) rfl) h)
      have HD2 := Lib.hid (fun (W : World) (Y : Yl) (h : Bm wb s r Y Z X (X.at id 2) (40 + 2) W) => ask_call (j := 2) HRT.out HV.out HII.out (by decide) (ask_no (HRT.out.at 2) (HV.out.at id 2) (kind := 6) (.inl rfl)) h)
      have HD3 := Lib.hid (fun (W : World) (Y : Yl) (h : Bm wb s r Y Z X (X.at id 2) (40 + 3) W) => ask_call (j := 3) HRT.out HV.out HII.out (by decide) (ask_no (HRT.out.at 2) (HV.out.at id 2) (kind := 7) (.inr rfl)) h)
      rw [← HO.out] at HD0 HD1 HD2 HD3
      have HRE := Lib.hid (fun W => rect8_c 1 2 3 4 W)
      go_loopw [66] (fun z wr => ∃ (j : Nat) (zz : Int), j ≤ 4 ∧ z = .int .i64 zz ∧ zz = (j : Int) ∧ ∃ Y, Bm wb s r Y Z X (X.at id (min j 2)) (40 + j) wr ∧ KpQ (fun g => g = g1 ∨ g = g2 ∨ (Value.slice (some ⟨gk, 0, none⟩) n kc).ownBlock = some g) w6 s Y wr) (fun z _ => 4 - (intOf z).toNat)
      case atStart => exact ⟨0, 0, by omega, rfl, rfl, Y3, HB6.out, HQ6.out⟩
      case round =>
       obtain ⟨j, zz, hj, rfl, hz, Y7, hB7, hK7⟩ := hrel
       have HQ7 := Lib.hid hK7
       obtain ⟨y0, y1, y2, y3⟩ := (blk_kept HK64.out hK7 (.inr (.inl rfl))).c4.1
       clear hK7
       have hcs : j = 0 ∨ j = 1 ∨ j = 2 ∨ j = 3 ∨ j = 4 := by omega
       rcases hcs with rfl | rfl | rfl | rfl | rfl
       · have hz0 : zz = 0 := hz
         subst hz0
         have HB7 := Lib.hid (show Bm wb s r Y7 Z X (X.at id 0) (40 + 0) wr from hB7)
         clear hB7 hz
         go_wp2_with (first
          | (go_at_call 22; ((with_reducible refine (HOW.out _ _ _ _ HB7.out).mono ?_); rintro ex w7 ⟨rfl, rfl⟩); skip)
          | (go_at_call 16; ((with_reducible refine (HRE.out _).mono ?_); rintro ex w7 ⟨rfl, hW⟩); have HW7 := Lib.hid hW; clear hW)
          | (go_at_call 20; ((with_reducible refine (HD0.out _ _ (HB7.out.next HW7.out)).mono ?_); rintro ex w8 ⟨rfl, hT⟩); have HT8 := Lib.hid (Bm.codek (HB7.out.next HW7.out) (HQ7.out.next HW7.out) hT); clear hT))
         go_roundw
         case rel =>
          obtain ⟨Y8, h8, k8⟩ := HT8.out
          exact ⟨1, 1, by omega, by go_num, rfl, Y8, h8, k8⟩
         case measure => simp [intOf]
       · have hz1 : zz = 1 := hz
         subst hz1
         have HB7 := Lib.hid (show Bm wb s r Y7 Z X (X.at id 1) (40 + 1) wr from hB7)
         clear hB7 hz
         go_wp2_with (first
          | (go_at_call 22; ((with_reducible refine (HOW.out _ _ _ _ HB7.out).mono ?_); rintro ex w7 ⟨rfl, rfl⟩); skip)
          | (go_at_call 16; ((with_reducible refine (HRE.out _).mono ?_); rintro ex w7 ⟨rfl, hW⟩); have HW7 := Lib.hid hW; clear hW)
          | (go_at_call 20; ((with_reducible refine (HD1.out _ _ (HB7.out.next HW7.out)).mono ?_); rintro ex w8 ⟨rfl, hT⟩); have HT8 := Lib.hid (Bm.codek (HB7.out.next HW7.out) (HQ7.out.next HW7.out) hT); clear hT))
         go_roundw
         case rel =>
          obtain ⟨Y8, h8, k8⟩ := HT8.out
          exact ⟨2, 2, by omega, by go_num, rfl, Y8, h8, k8⟩
         case measure => simp [intOf]
       · have hz2 : zz = 2 := hz
         subst hz2
         have HB7 := Lib.hid (show Bm wb s r Y7 Z X (X.at id 2) (40 + 2) wr from hB7)
         clear hB7 hz
         go_wp2_with (first
          | (go_at_call 22; ((with_reducible refine (HOW.out _ _ _ _ HB7.out).mono ?_); rintro ex w7 ⟨rfl, rfl⟩); skip)
          | (go_at_call 16; ((with_reducible refine (HRE.out _).mono ?_); rintro ex w7 ⟨rfl, hW⟩); have HW7 := Lib.hid hW; clear hW)
          | (go_at_call 20; ((with_reducible refine (HD2.out _ _ (HB7.out.next HW7.out)).mono ?_); rintro ex w8 ⟨rfl, hT⟩); have HT8 := Lib.hid (Bm.codek (HB7.out.next HW7.out) (HQ7.out.next HW7.out) hT); clear hT))
         go_roundw
         case rel =>
          obtain ⟨Y8, h8, k8⟩ := HT8.out
          exact ⟨3, 3, by omega, by go_num, rfl, Y8, h8, k8⟩
         case measure => simp [intOf]
       · have hz3 : zz = 3 := hz
         subst hz3
         have HB7 := Lib.hid (show Bm wb s r Y7 Z X (X.at id 2) (40 + 3) wr from hB7)
         clear hB7 hz
         go_wp2_with (first
          | (go_at_call 22; ((with_reducible refine (HOW.out _ _ _ _ HB7.out).mono ?_); rintro ex w7 ⟨rfl, rfl⟩); skip)
          | (go_at_call 16; ((with_reducible refine (HRE.out _).mono ?_); rintro ex w7 ⟨rfl, hW⟩); have HW7 := Lib.hid hW; clear hW)
          | (go_at_call 20; ((with_reducible refine (HD3.out _ _ (HB7.out.next HW7.out)).mono ?_); rintro ex w8 ⟨rfl, hT⟩); have HT8 := Lib.hid (Bm.codek (HB7.out.next HW7.out) (HQ7.out.next HW7.out) hT); clear hT))
         go_roundw
         case rel =>
          obtain ⟨Y8, h8, k8⟩ := HT8.out
          exact ⟨4, 4, by omega, by go_num, rfl, Y8, h8, k8⟩
         case measure => simp [intOf]
       · have hz4 : zz = 4 := hz
         subst hz4
         have HB7 := Lib.hid (show Bm wb s r Y7 Z X (X.at id 2) 44 wr from hB7)
         clear hB7 hz y0 y1 y2 y3
         go_upto_region 20 with (go_at_call 21; ((with_reducible refine (HGE.out _ _ _ _ HB7.out).mono ?_); rintro ex w8 ⟨rfl, hW⟩); have HB8 := Lib.hid hW; clear hW)
         obtain ⟨w9, hw9⟩ : ∃ w9, w9 = w8.alloc (.cells #[.int .i64 vi, .int .i64 vp, .int .i64 vx, .int .i64 vy, .int .i64 vw, .int .i64 vh, .bool vo] 61) := ⟨_, rfl⟩
         have hb9 : Below w8.heap.size w8 w9 := by rw [hw9]; exact (Below.refl _ _).alloc (Nat.le_refl _) _
         have hk9 : Blk w9 w8.heap.size 61 #[.int .i64 vi, .int .i64 vp, .int .i64 vx, .int .i64 vy, .int .i64 vw, .int .i64 vh, .bool vo] := by rw [hw9]; exact Blk.new w8 _ _
         rw [← hw9]
         have HK9 := Lib.hid hk9
         have HB9 := Lib.hid (hb9.on HB8.out HB8.out.size)
         clear hw9 hb9 hk9
         go_upto_region 21 with (go_at_call 16; ((with_reducible refine (HRE.out _).mono ?_); rintro ex w10 ⟨rfl, hW⟩); have HB10 := Lib.hid hW; clear hW)
         obtain ⟨wE, hwE⟩ : ∃ wE, wE = w10.alloc (.cells #[.int .i64 1, .int .i64 id, .int .i64 0, .int .i64 0, .int .i64 0, .int .i64 0, .string ⟨#[]⟩, .int .i64 2, .int .i64 id, .int .i64 1, .int .i64 2, .int .i64 3, .int .i64 4, .string ⟨#[]⟩] 71) := ⟨_, rfl⟩
         have hbE : Below w10.heap.size w10 wE := by rw [hwE]; exact (Below.refl _ _).alloc (Nat.le_refl _) _
         have hkE : Blk wE w10.heap.size 71 #[.int .i64 1, .int .i64 id, .int .i64 0, .int .i64 0, .int .i64 0, .int .i64 0, .string ⟨#[]⟩, .int .i64 2, .int .i64 id, .int .i64 1, .int .i64 2, .int .i64 3, .int .i64 4, .string ⟨#[]⟩] := by rw [hwE]; exact Blk.new w10 _ _
         rw [← hwE]
         have h910 := HB10.out.on HB9.out HB9.out.size
         have HrE := Lib.hid (hbE.on h910 h910.size)
         have HBE := Lib.hid (HB7.out.next HrE.out)
         have HQE := Lib.hid (HQ7.out.next HrE.out)
         have HK17 := Lib.hid ((HK9.out.next HB10.out).next hbE)
         have HK11E := Lib.hid (blk_kept HK11.out HQE.out (.inl rfl))
         have HRKE := Lib.hid (RdI.of (xs := ks) (by rw [← HN.out]; exact owns_kept (w' := wE) HKR6.out fun b hb => (HQE.out b (.inr (.inr (by rw [HKV.out] at hb; exact hb)))).2.2))
         rw [HKV.out] at HRKE
         obtain ⟨g3, hg3⟩ : ∃ g, g = w10.heap.size := ⟨_, rfl⟩
         have HQ3 := Lib.hid (show KpQ (fun g => g = g3) wE s Y7 wE from fun g hg => by
          subst hg
          rw [hg3]
          refine ⟨hkE.lt, fun hf => ?_, rfl⟩
          have := HB7.out.c.foot_lt hf
          have := h910.size
          omega)
         rw [← hg3] at hkE ⊢
         have HKE := Lib.hid hkE
         have c0 := HK17.out.at_ (i := 0) (v := .int .i64 vi) rfl
         have c1 := HK17.out.at_ (i := 1) (v := .int .i64 vp) rfl
         have c2 := HK17.out.at_ (i := 2) (v := .int .i64 vx) rfl
         have c3 := HK17.out.at_ (i := 3) (v := .int .i64 vy) rfl
         have c4 := HK17.out.at_ (i := 4) (v := .int .i64 vw) rfl
         have c5 := HK17.out.at_ (i := 5) (v := .int .i64 vh) rfl
         have c6 := HK17.out.at_ (i := 6) (v := .bool vo) rfl
         have d0 := HK11E.out.at_ (i := 0) (v := .int .i64 vi) rfl
         have d1 := HK11E.out.at_ (i := 1) (v := .int .i64 vp) rfl
         have d2 := HK11E.out.at_ (i := 2) (v := .int .i64 vx) rfl
         have d3 := HK11E.out.at_ (i := 3) (v := .int .i64 vy) rfl
         have d4 := HK11E.out.at_ (i := 4) (v := .int .i64 vw) rfl
         have d5 := HK11E.out.at_ (i := 5) (v := .int .i64 vh) rfl
         have d6 := HK11E.out.at_ (i := 6) (v := .bool vo) rfl
         clear hwE hbE hkE h910 hg3
         have e0 : (vi == vi) = true := by simp
         have e1 : (vp == vp) = true := by simp
         have e2 : (vx == vx) = true := by simp
         have e3 : (vy == vy) = true := by simp
         have e4 : (vw == vw) = true := by simp
         have e5 : (vh == vh) = true := by simp
         have e6 : (vo == vo) = true := by simp
         have hki := skids_c HBE.out.c (HV.out.at id 2).s i64_zero
         change Calls Tryz.prog 26 #[srvP s, .int .i64 0] wE fun e w' => ∃ v', e = .returned v' ∧ RdI w' v' (kidsL X.L 0) ∧ Below wE.heap.size wE w' at hki
         rw [← HKS.out] at hki
         have HKI := Lib.hid hki
         have HKN := Lib.hid (show ks.length ≤ 1048576 by rw [← HN.out]; exact HKL.out)
         have HE2 := Lib.hid (fun (W : World) (Y : Yl) (h : Bm wb s r Y Z X (X.at id 2) 44 W) => (show Calls Tryz.prog 24 #[srvP s] W fun ex w' => ∃ p c, ex = .returned (.slice p 2 c) ∧ RdE w' (.slice p 2 c) [evA id, evB id] ∧ SrvTo W s Y { X.at id 2 with E := [] } 44 w' from
          (events_c' h.c).mono fun ex w' ⟨p, c, h1, h2, h3, h4⟩ => ⟨p, c, h1, by rw [h2] at h3; exact OwK.reads (fun _ => rfl) h3, h4⟩))
         have HLE := Lib.hid (show [evA id, evB id].length ≤ 1048576 by simp)
         clear hki
         go_wp2_with (first
          | (go_at_call 26; ((with_reducible refine (HKI.out).mono ?_); rintro ex w11 ⟨v', rfl, hr, hW⟩); have HR11 := Lib.hid hr; have HRK := Lib.hid (RdI.next HRKE.out hW); have HB11 := Lib.hid hW; obtain ⟨p', c', hv', -⟩ := hr; subst hv'; clear hW)
          | (go_at_call 25; ((with_reducible refine (ints8_same _ _ _ _ HR11.out HRK.out HKN.out).mono ?_); rintro ex w12 ⟨rfl, hW⟩); have HB12 := Lib.hid (hW.on HB11.out HB11.out.size); clear hW)
          | (go_at_call 24; ((with_reducible refine (HE2.out _ _ (HBE.out.next HB12.out)).mono ?_); rintro ex w13 ⟨p3, c3, rfl, hr, hT⟩); have HR13 := Lib.hid hr; have HT13 := Lib.hid (Bm.codek (HBE.out.next HB12.out) (HQ3.out.next HB12.out) hT); have HRW := Lib.hid (show RdE w13 (.slice (some ⟨g3, 0, none⟩) 2 2) [evA id, evB id] by obtain ⟨Y', k1, k2⟩ := HT13.out; exact want_rd (blk_kept HKE.out k2 rfl)); clear hr hT)
          | (go_at_call 27; ((with_reducible refine (evs_same _ _ [evA id, evB id] _ HR13.out HRW.out HLE.out).mono ?_); rintro ex w14 ⟨rfl, hW⟩); have HB14 := Lib.hid hW; clear hW)
          | (go_at_call 10; ((with_reducible refine (HAW.out _).mono ?_); rintro ex w15 ⟨rfl, hW⟩); have HB15 := Lib.hid (hW.on HB14.out HB14.out.size); clear hW))
         go_ret
         obtain ⟨Y', k1, -⟩ := HT13.out
         exact ⟨rfl, (HB15.out.on k1.be k1.be.size).on HBW.out HBW.out.size⟩
theorem asks_l (va : Value) (As : List A8) (t : A8) (wh : Int) (w : World) (hI : IsA8 w.heap.size w va As) (_ht : t.ok) (hw : (Lit.int .u64 wh).wf = true) : Calls Tryz.prog 6 #[va, .agg ⟨t.cells⟩, .int .u64 wh] w fun e w' => e = .returned (.bool true) ∧ Below w.heap.size w w' := asks_w va As t wh w hI hw
end
end Go.Proofs.YtnhchpiafchdgaaGreat
