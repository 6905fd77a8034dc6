/- order.Order, whole. -/
import Derived.Test.YtgioeijdgoogkaaOdL
namespace Go.Proofs.Ytgioeijdgoogkaa.Od
open Go.RowKit Go.Maps Go.Shelf
set_option linter.unusedSimpArgs false
theorem int_info : ∃ i, Try.prog.info? 3 = some i ∧ i.zero = some (.int .i64 0) ∧ i.size = 1 ∧ i.bytes = 8 := by
  have h := intInfo
  cases hi : Try.prog.info? 3 with
  | none => rw [hi] at h; cases h
  | some i => rw [hi] at h; simp at h; exact ⟨i, rfl, h.1, h.2.1, h.2.2⟩
theorem makeC_c (n : Nat) (hn : n ≤ 128) (W : World) : (Instr.makeSlice 27 (.int .i64 0) (.int .i64 (n : Int))).run Try.prog W = .ok (.slice (some ⟨W.heap.size, 0, none⟩) 0 n) (W.alloc (.cells (arrI (List.replicate n 0)) 3)) := by
  obtain ⟨i, hi, hz, h1, h8⟩ := int_info
  have h := run_make (P := Try.prog) W 27 3 i (.int .i64 0) Try.underlying27 hi hz .i64 .i64 0 (n : Int) (Int.le_refl _) (by omega) (by rw [h8]; omega) (by omega)
  rw [h1, show (Value.int .i64 0).cells = #[.int .i64 0] from rfl, made_eq] at h
  rw [h]
  unfold arrI
  simp
/-- What Order tells. -/
def OrdR (l : List It) (zs : List Int) (z : Int) : Prop := ChkR l z ∧ ((z ≠ 0 ∧ zs = []) ∨ (z = 0 ∧ Ord l zs))
theorem left_del {l : List It} {S rest : List Int} {m n : Nat} (hm : m < S.length) (hn : (S.map (pl l) ++ rest).length = n) : (((S.map (pl l)).take m ++ (S.map (pl l)).drop (m + 1) ++ List.replicate (m + 1 - m) 0) ++ rest) = (S.take m ++ S.drop (m + 1)).map (pl l) ++ (0 :: rest) ∧ ((S.take m ++ S.drop (m + 1)).map (pl l) ++ (0 :: rest)).length = n ∧ (S.take m ++ S.drop (m + 1)).length = S.length - (m + 1 - m) := by
  have e : m + 1 - m = 1 := by omega
  refine ⟨?_, ?_, ?_⟩
  · rw [e, List.map_append, List.map_take, List.map_drop]; simp
  · rw [List.length_append] at hn ⊢
    simp at hn ⊢
    omega
  · simp; omega
theorem del_c (gL n m : Nat) (A B : List Int) (w : World) (hQ : Blk w gL 3 (arrI (A ++ B))) (hn : A.length ≤ n) (hn2 : n ≤ 128) (hm : m < A.length) :
    Calls Try.prog 31 #[.slice (some ⟨gL, 0, none⟩) A.length n, .int .i64 m, .int .i64 ((m : Int) + 1)] w fun e w' => e = .returned (.slice (some ⟨gL, 0, none⟩) (A.length - (m + 1 - m)) n) ∧ w.grownBy w' (some gL) ∧ Blk w' gL 3 (arrI ((A.take m ++ A.drop (m + 1) ++ List.replicate (m + 1 - m) 0) ++ B)) := by
  have hH : Sort.Holds (Value.int .i64) w gL 0 A.toArray := fun j hj => by
    have hj' : j < A.length := by simpa using hj
    refine ⟨?_, hQ.frozen _⟩
    rw [Nat.zero_add, hQ.at_ (arrI_at (x := A[j]) (by rw [List.getElem?_append_left hj']; exact List.getElem?_eq_getElem hj'))]
    simp [hj']
  have h := Any.slices_Delete_int delInt gL 0 n m (m + 1) A w hH hn (by omega) (by omega) (by omega)
  refine Calls.mono h ?_
  rintro e w' ⟨he, q, rfl⟩
  refine ⟨he, ?_, heap_put hQ (by simp; omega)⟩
  have := grownBy_sort (enc := Value.int .i64) (w := w) (g := gL) (n := q) (os := #[]) (A.take m ++ A.drop (m + 1) ++ List.replicate (m + 1 - m) 0).toArray
  rwa [Sort.grow_empty] at this
set_option maxHeartbeats 4000000 in
set_option maxRecDepth 100000 in
theorem Order_c (v0 : Value) (l : List It) (w : World) (hR : RdT w v0 l) (hs : OkI l) :
    Calls Try.prog 17 #[v0] w fun e w' => ∃ v zs z, e = .returned (.tuple #[v, .int .i64 z]) ∧ RdI w' v zs ∧ OrdR l zs z ∧ Below w.heap.size w w' := by
  have HK := Lib.hid (Check_c v0 l w hR fun j t h => (hs j t h).1)
  have HOW := Lib.hid (fun (W : World) (h : Below w.heap.size w W) hd hn => owners_c v0 l W (hR.below h) hd hn hs)
  have HBD := Lib.hid (fun g2 c2 (W : World) (h : Below w.heap.size w W) hd hn hq => bands_c v0 l g2 c2 W (hR.below h) hd hn hq)
  have HSO := Lib.hid (fun gB c2 (W : World) (h : Below w.heap.size w W) hd hn hq => sorted_c v0 l gB c2 W (hR.below h) hd hn hq)
  have hR0 := hR
  obtain ⟨p, c, rfl, -⟩ := hR
  have HR := Lib.hid hR0
  obtain ⟨n, hln⟩ : ∃ n, n = l.length := ⟨_, rfl⟩
  rw [← hln] at HK HOW HBD HSO HR ⊢
  have HN := Lib.hid hln
  clear hR0 hs hln
  go_enter Try.func17, Try.ntmps17
  go_wp2_with fail
  refine HK.out.mono ?_
  rintro e w1 ⟨z, rfl, hz, hb⟩
  have HZ := Lib.hid hz
  have HB1 := Lib.hid hb
  clear hz hb HK
  by_cases hz0 : z = 0
  rotate_left
  · have e1 : (z == 0) = false := by simpa using hz0
    have HO : Hid (OrdR l [] z) := ⟨HZ.out, .inl ⟨hz0, rfl⟩⟩
    go_wp2_with fail
    refine bodyPost_ret (results_tmp2 rfl _ _ _) rfl ?_
    exact ⟨_, _, z, rfl, RdI.nil _ _, HO.out, HB1.out⟩
  · have HG := Lib.hid (HZ.out.good hz0)
    have HO : Hid (∀ zs, Ord l zs → OrdR l zs 0) := fun zs h => ⟨hz0 ▸ HZ.out, .inr ⟨rfl, h⟩⟩
    subst hz0
    have hn128 : n ≤ 128 := by have := HN.out; have := HG.out.1; omega
    have HCL := Lib.hid (HOW.out w1 HB1.out HG.out.2.1 hn128)
    have HN128 := Lib.hid hn128
    clear hn128 HOW
    go_wp2_with fail
    with_reducible refine HCL.out.mono ?_
    rintro e w2 ⟨gO, rfl, hO, hgO, hb⟩
    have hB2 := HB1.out.trans (hb.mono HB1.out.size)
    obtain ⟨w3, hw3⟩ : ∃ u, u = w2.alloc (.cells #[.slice (some ⟨gO, 0, none⟩) n n] 27) := ⟨_, rfl⟩
    have hO3 : Blk w3 gO 3 (arrI (ofL l (ow l))) := by rw [hw3]; exact hO.alloc _
    have h53 : Blk w3 w2.heap.size 27 #[.slice (some ⟨gO, 0, none⟩) n n] := by rw [hw3]; exact Blk.new _ _ _
    have hB3 : Below w.heap.size w w3 := by rw [hw3]; exact hB2.alloc hB2.size _
    have hn51 : w2.heap.size < w3.heap.size := by rw [hw3]; simp
    obtain ⟨g5, hg5⟩ : ∃ g, g = w2.heap.size := ⟨_, rfl⟩
    rw [← hg5] at h53 hn51
    have HW3 := Lib.hid hw3
    have HG5 := Lib.hid hg5
    have c5 := h53.at_ (i := 0) rfl
    have HCB := Lib.hid (HBD.out gO n w3 hB3 HG.out.2.1 HN128.out hO3)
    have HO3 := Lib.hid hO3
    have H53 := Lib.hid h53
    have HB3 := Lib.hid hB3
    have HN51 := Lib.hid hn51
    clear hO hgO hb hB2 hw3 hg5 hO3 h53 hB3 hn51 HCL HBD
    go_upto_region 5 with fail
    rewrite [← HW3.out, ← HG5.out]
    clear HW3 HG5
    go_wp2_with fail
    with_reducible refine HCB.out.mono ?_
    rintro e w4 ⟨gB, rfl, hB, hgB, hb⟩
    have hB4 := HB3.out.trans (hb.mono HB3.out.size)
    have HCS := Lib.hid (HSO.out gB n w4 hB4 HG.out.2.1 HN128.out hB)
    have HO4 := Lib.hid (HO3.out.next hb)
    have H54 := Lib.hid (H53.out.next hb)
    have HB4 := Lib.hid hB4
    have HN54 := Lib.hid (Nat.lt_of_lt_of_le HN51.out hb.size)
    clear hB hgB hb hB4 c5 HO3 H53 HB3 HN51 HCB HSO
    go_wp2_with fail
    with_reducible refine HCS.out.mono ?_
    rintro e w5 ⟨gL, S0, rfl, hL, hS0, hgL, hb⟩
    have hB5 := HB4.out.trans (hb.mono HB4.out.size)
    have hO5 := HO4.out.next hb
    have h55 := H54.out.next hb
    have hneL : gO ≠ gL := by have := HO4.out.lt; omega
    have hwL : w.heap.size ≤ gL := by have := HB4.out.size; omega
    obtain ⟨w6, hw6⟩ : ∃ u, u = (w5.alloc (.cells (arrB l []) 4)).alloc (.cells #[.slice (some ⟨w5.heap.size, 0, none⟩) n n] 47) := ⟨_, rfl⟩
    obtain ⟨gT, hgT⟩ : ∃ g, g = w5.heap.size := ⟨_, rfl⟩
    obtain ⟨g7, hg7⟩ : ∃ g, g = w5.heap.size + 1 := ⟨_, rfl⟩
    have hO6 : Blk w6 gO 3 (arrI (ofL l (ow l))) := by rw [hw6]; exact (hO5.alloc _).alloc _
    have h56 : Blk w6 g5 27 #[.slice (some ⟨gO, 0, none⟩) n n] := by rw [hw6]; exact (h55.alloc _).alloc _
    have hL6 : Blk w6 gL 3 (arrI (S0.map (pl l))) := by rw [hw6]; exact (hL.alloc _).alloc _
    have hT6 : Blk w6 gT 4 (arrB l []) := by rw [hw6, hgT]; exact (Blk.new _ _ _).alloc _
    have h76 : Blk w6 g7 47 #[.slice (some ⟨gT, 0, none⟩) n n] := by
      rw [hw6, hg7, hgT]
      have := Blk.new (w5.alloc (.cells (arrB l []) 4)) 47 #[.slice (some ⟨w5.heap.size, 0, none⟩) n n]
      rwa [World.size_alloc] at this
    have hB6 : Below w.heap.size w w6 := by rw [hw6]; exact (hB5.alloc hB5.size _).alloc (by have := hB5.size; simp; omega) _
    obtain ⟨w7, hw7⟩ : ∃ u, u = w6.alloc (.cells (arrI (List.replicate n 0)) 3) := ⟨_, rfl⟩
    obtain ⟨gC, hgC⟩ : ∃ g, g = w6.heap.size := ⟨_, rfl⟩
    have hsx : Sx w n gO g5 gT g7 gL gC := ⟨hwL, by rw [hgT]; exact hB5.size, by rw [hgC]; exact hB6.size, by rw [hgC]; exact hO6.lt, by rw [hgC]; exact h56.lt, by rw [hgC]; exact hT6.lt, by rw [hgC]; exact h76.lt, by rw [hgC]; exact hL6.lt, hneL⟩
    have hC7 : Blk w7 gC 3 (arrI (List.replicate n 0)) := by rw [hw7, hgC]; exact Blk.new _ _ _
    have hOS : OS w l n gO g5 gT g7 gL gC w7 (S0.map (pl l) ++ []) [] [] (.slice (some ⟨gC, 0, none⟩) 0 n) := by
      refine ⟨by rw [hw7]; exact hB6.alloc hB6.size _, by rw [hgC, hw7]; simp, by rw [hw7]; exact hO6.alloc _, by rw [hw7]; exact h56.alloc _, by rw [hw7]; exact hT6.alloc _, by rw [hw7]; exact h76.alloc _, by rw [hw7, List.append_nil]; exact hL6.alloc _, ?_⟩
      exact ⟨rfl, .inr ⟨gC, n, arrI (List.replicate n 0), rfl, Nat.le_refl _, hC7, Nat.zero_le _, by have := HN128.out; unfold maxLen; omega, by unfold arrI; simp, by simp⟩⟩
    have hst := Stp.start HG.out.2.1 hS0
    have hSl : S0.length = n := by have := hst.1; simp at this; rw [this, HN.out]
    have hmkB := fun W => makeB_c l n HN.out HN128.out W
    have hmkC := fun W => makeC_c n HN128.out W
    have HSX := Lib.hid hsx
    have HST := Lib.hid hst
    have HSL := Lib.hid hSl
    have HOS := Lib.hid hOS
    have HW6 := Lib.hid hw6
    have HW7 := Lib.hid hw7
    have HGT := Lib.hid hgT
    have HG7 := Lib.hid hg7
    have HGC := Lib.hid hgC
    clear hL hS0 hgL hb hB5 hO5 h55 hneL hwL hw6 hgT hg7 hO6 h56 hL6 hT6 h76 hB6 hw7 hgC hsx hC7 hOS hst hSl HO4 H54 HB4 HN54 HCS
    go_upto_region 7 with fail
    rewrite [← HW6.out, ← HG7.out, ← HGT.out]
    go_upto_region 8 with fail
    rewrite [← HW7.out, ← HGC.out]
    clear HW6 HW7 HGT HG7 HGC hmkB hmkC
    go_upto_region 9 with fail
    have hOS := HOS.out
    go_loopw [6, 8, 31] (fun s6 s8 z wr => ∃ (k : Nat) (S out rest : List Int), k ≤ n ∧ s6 = .slice (some ⟨gL, 0, none⟩) S.length n ∧ z = .int .i64 k ∧ OS w l n gO g5 gT g7 gL gC wr (S.map (pl l) ++ rest) out out s8 ∧ Asd (Stp l S out) ∧ Asd (out.length = k) ∧ Asd ((S.map (pl l) ++ rest).length = n)) (fun _ _ z _ => n - (intOf z).toNat)
    case atStart => exact ⟨0, S0, [], [], Nat.zero_le _, by rw [HSL.out], rfl, hOS, HST.out, rfl, by rw [List.append_nil, List.length_map]; exact HSL.out⟩
    case round =>
      clear hOS HOS HST HSL
      obtain ⟨k, S, out, rest, hk, rfl, rfl, hM, hA1, hA2, hA3⟩ := hrel
      have HST := Lib.hid (show Stp l S out from hA1)
      have HOL := Lib.hid (show out.length = k from hA2)
      have HLN := Lib.hid (show (S.map (pl l) ++ rest).length = n from hA3)
      clear hA1 hA2 hA3
      by_cases hlt : k < n
      · have hSne : S ≠ [] := fun e => by
          have h1 := HST.out.1
          rw [e, HOL.out, ← HN.out] at h1
          simp at h1; omega
        obtain ⟨m, c, hm, hf, hno⟩ := HST.out.find hSne
        have hmS := (List.getElem?_eq_some_iff.1 hm).1
        have hcl : c ∈ cl l := ((HST.out.2.2.1 c).1 (List.mem_of_getElem? hm)).1
        obtain ⟨i, x, hx, rfl, -, hil, hidx⟩ := cl_at HG.out.2.1 hcl
        have hp : pl l x.c = (i : Int) := by unfold pl; rw [hidx]
        have hSn : S.length ≤ n := by have := HST.out.1; have := HN.out; omega
        have HIX := Lib.hid (index_s l 30 #[.pointer (some ⟨g5, 0, none⟩), .pointer (some ⟨g7, 0, none⟩)] (frB l out) gL n m S (S.map (pl l) ++ rest) x.c wr (fun args w => by kernel_rfl)
          (fun c hc W hW => (free_c l out gO g5 gT g7 n c W HG.out.2.1 HN.out (hM.next hW).hO (hM.next hW).h5 (hM.next hW).hT (hM.next hW).h7 ((HST.out.2.2.1 c).1 hc).1))
          hM.hL (fun j y hj => by rw [List.getElem?_append_left (by have := (List.getElem?_eq_some_iff.1 hj).1; simpa using this), List.getElem?_map, hj]; rfl) hm hf hno (by have := HN128.out; omega))
        have HNX := Lib.hid (HST.out.step hm hf hno)
        have hlm : (S.map (pl l) ++ rest)[m]? = some (i : Int) := by rw [List.getElem?_append_left (by simpa using hmS), List.getElem?_map, hm, ← hp]; rfl
        have HDL := Lib.hid (fun W (h : Blk W gL 3 (arrI (S.map (pl l) ++ rest))) => del_c gL n m (S.map (pl l)) rest W h (by simpa using hSn) HN128.out (by simpa using hmS))
        have HLD := Lib.hid (left_del (l := l) (rest := rest) hmS HLN.out)
        obtain ⟨q, hq⟩ : ∃ q, q = S.length := ⟨_, rfl⟩
        rw [show (S.map (pl l)).length = q by rw [List.length_map, hq]] at HDL
        rw [← hq] at HIX hmS HLD ⊢
        have hm0 : (0 : Int) ≤ (m : Int) := by omega
        have hm1 : (m : Int) < (q : Int) := by omega
        have hi0 : (0 : Int) ≤ (i : Int) := by omega
        have hi1 : (i : Int) < (n : Int) := by have := HN.out; omega
        have hn3 : n ≤ 128 := HN128.out
        have hwr : IntKind.i64.wrap ((m : Int) + 1) = (m : Int) + 1 := IntWalk.i64_in _ (by have := HST.out.1; have := HN.out; omega)
        have HX := Lib.hid hx
        have HM := Lib.hid hM
        have hk1 : (k : Int) < (n : Int) := by omega
        clear hSne hm hf hno hcl hx hil hidx hp hSn hq hM hmS
        go_wp2_with fail
        with_reducible refine HIX.out.mono ?_
        rintro e wa ⟨rfl, hb⟩
        have hMa := HM.out.next hb
        have cL := hMa.hL.at_ (arrI_at hlm)
        have HDD := Lib.hid (HDL.out wa hMa.hL)
        have HMa := Lib.hid hMa
        clear hb hMa HIX HDL HM hlm
        go_wp2_with fail
        with_reducible refine HDD.out.mono ?_
        rintro e wb ⟨rfl, hg, hL⟩
        rw [HLD.out.1] at hL
        have hMb := HMa.out.del HSX.out hg hL
        have c7 := hMb.h7.at_ (i := 0) rfl
        obtain ⟨tv, htv⟩ : ∃ tv, (arrB l out)[i]? = some tv := ⟨_, arrB_at HX.out⟩
        have cT := hMb.hT.at_ htv
        have fT := hMb.hT.frozen i
        obtain ⟨wc, hwc⟩ : ∃ u, u = wb.setCell ⟨gT, i, none⟩ (.bool true) := ⟨_, rfl⟩
        have hMc := hMb.mark HSX.out HG.out.2.1 HX.out
        rw [← hwc] at hMc
        obtain ⟨bb, o, rfl, hRB⟩ := HR.out.open HX.out
        obtain ⟨y0, y1, y2, y3, y4, y5⟩ := (hRB.below hMc.below).get HX.out
        obtain ⟨i0, hi0', hz0, hz1, hz2⟩ := int_info
        have HWC := Lib.hid hwc
        have HMc := Lib.hid hMc
        clear hg hL hMb htv hwc hMc hRB cL HMa HDD
        go_upto_region 14 with fail
        rewrite [← HWC.out]
        clear HWC c7 cT fT
        go_wp2_with (at_builtin; go_loud (refine wpList_append_own_at _ rfl (.tmp 48) (.tmp 54) 27 rfl gC 3 i0 (.int .i64 0) 1 8 Try.underlying27 hi0' hz0 hz1 hz2 rfl (by decide) _ _ _ rfl (World.ownsRow.alloc HMc.out.own _) ⟨_, 0, none⟩ 1 1 [.int .i64 x.c] rfl rfl (cell_list_at _ _ [.int .i64 x.c] _ rfl) (one_int x.c) (by unfold maxLen; have := HOL.out; have := HN128.out; omega) (by have := HOL.out; have := HN128.out; omega) (by have := HMc.out.hB; simp; omega) ?_; intro v3 w3 ho3 hg3 _ _; have HP := Lib.hid (HMc.out.app HSX.out ho3 hg3); clear ho3 hg3))
        go_roundw
        case rel => exact ⟨k + 1, _, _, 0 :: rest, by omega, by rw [HLD.out.2.2, show m + 1 - m = 1 by omega], by go_num, HP.out, HNX.out, by rw [List.length_append, HOL.out]; rfl, HLD.out.2.1⟩
        case measure => simp [intOf]; omega
      · obtain rfl : k = n := by omega
        have hS0 : S = [] := List.eq_nil_of_length_eq_zero (by have h1 := HST.out.1; rw [HOL.out, ← HN.out] at h1; omega)
        have HD := Lib.hid (HO.out out (by have := HST.out; rw [hS0] at this; exact this.done))
        have HRD := Lib.hid hM.own.rd
        have HBB := Lib.hid hM.below
        clear hS0 hM
        go_wp2_with fail
        refine bodyPost_ret (results_tmp2 rfl _ _ _) rfl ?_
        exact ⟨_, _, 0, rfl, HRD.out, HD.out, HBB.out⟩
end Go.Proofs.Ytgioeijdgoogkaa.Od
