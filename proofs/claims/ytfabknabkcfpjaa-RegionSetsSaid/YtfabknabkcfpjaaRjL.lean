/- The law RegionSets, walked. -/
import Derived.Test.YtfabknabkcfpjaaRiD
import Derived.Test.YtfabknabkcfpjaaRjH
import Derived.Test.YtfabknabkcfpjaaRjK
namespace Go.Proofs.Ytfabknabkcfpjaa
open Go.RowKit Go.Shelf
theorem asksU : Asks 0 rlU := .inl ⟨rfl, rfl⟩
theorem asksI : Asks 1 rlI := .inr (.inl ⟨rfl, rfl⟩)
theorem asksS : Asks 2 rlS := .inr (.inr ⟨rfl, rfl⟩)
theorem few_two (W : World) (pa : Option Addr) (n ca : Nat) (pb : Option Addr) (m cb : Nat) : Calls Try.prog 9 #[.slice (some ⟨W.heap.size, 0, none⟩) 2 2] (W.alloc (.cells #[.slice pa n ca, .slice pb m cb] 22)) fun e w' => ∃ t : Bool, e = .returned (.bool t) ∧ Below W.heap.size W w' := by
  refine (few_c W.heap.size 2 _ (by decide) (fun j hj => ?_)).mono ?_
  · have h := (Blk.new W 22 #[.slice pa n ca, .slice pb m cb]).cell j
    rw [h]
    match j, hj with
    | 0, _ => exact ⟨_, _, _, rfl⟩
    | 1, _ => exact ⟨_, _, _, rfl⟩
  · rintro e w' ⟨t, rfl, hb⟩
    exact ⟨t, rfl, below_then (below_new _ _) hb⟩
theorem few_one (W : World) (pa : Option Addr) (n ca : Nat) : Calls Try.prog 9 #[.slice (some ⟨W.heap.size, 0, none⟩) 1 1] (W.alloc (.cells #[.slice pa n ca] 22)) fun e w' => ∃ t : Bool, e = .returned (.bool t) ∧ Below W.heap.size W w' := by
  refine (few_c W.heap.size 1 _ (by decide) (fun j hj => ?_)).mono ?_
  · have h := (Blk.new W 22 #[.slice pa n ca]).cell j
    rw [h]
    match j, hj with
    | 0, _ => exact ⟨_, _, _, rfl⟩
  · rintro e w' ⟨t, rfl, hb⟩
    exact ⟨t, rfl, below_then (below_new _ _) hb⟩
set_option maxRecDepth 100000 in
set_option maxHeartbeats 8000000 in
theorem sets_w (va : Value) (la : List Rc) (vb : Value) (lb : List Rc) (w : World) (ha : RdK encR 4 w va la) (hla : la.length ≤ 4398046511104) (hb : RdK encR 4 w vb lb) (hlb : lb.length ≤ 4398046511104) :
    Calls Try.prog 3 #[va, vb] w fun e w' => e = .returned (.bool true) ∧ Below w.heap.size w w' := by
  have P0 : Stt w [(va, la), (vb, lb)] w := ⟨fun p hp => by
    rcases List.mem_cons.1 hp with rfl | hp
    · exact ha
    · rw [List.mem_singleton.1 hp]; exact hb, Below.refl _ _⟩
  have HLA := Lib.hid (show la.length ≤ 1152921504606846976 by omega)
  have HLB := Lib.hid (show lb.length ≤ 1152921504606846976 by omega)
  have HLA2 := Lib.hid hla
  have HLB2 := Lib.hid hlb
  obtain ⟨pa, ca, rfl, -⟩ := ha
  obtain ⟨pb, cb, rfl, -⟩ := hb
  obtain ⟨n, hn⟩ : ∃ n, n = la.length := ⟨_, rfl⟩
  obtain ⟨m, hm⟩ : ∃ m, m = lb.length := ⟨_, rfl⟩
  rw [← hn, ← hm] at P0
  rw [← hn, ← hm]
  clear hla hlb hn hm
  have HFW := Lib.hid (few_two w pa n ca pb m cb)
  go_enter Try.func3, Try.ntmps3
  go_wp2_with fail
  refine HFW.out.mono ?_
  rintro e0 w0 ⟨t, rfl, hb0⟩
  have P1 : Stt w [(.slice pa n ca, la), (.slice pb m cb, lb)] w0 := P0.next hb0
  clear P0 hb0 HFW
  cases t
  · go_wp2_with (go_at_call 10; (with_reducible refine (awake_c _).mono ?_); rintro e7 w7 ⟨rfl, hb⟩; have P7 := P1.next hb; clear hb P1)
    go_ret
    exact ⟨rfl, P7.2⟩
  · go_upto_region 9 with (first
      | (go_at_call 11; have g0 := P1.get 0 rfl; have g1 := P1.get 1 rfl; (with_reducible refine (union_t _ _ la lb _ g0 g1 HLA.out HLB.out).mono ?_); rintro e1 w1 ⟨⟨x, kx, X, rfl, hT, hO⟩, hb⟩; have P2 := P1.made hb hO; have T1 := Lib.hid hT; clear hT hO hb P1 g0 g1)
      | (go_at_call 12; have g0 := P2.get 1 rfl; have g1 := P2.get 2 rfl; (with_reducible refine (rset_c 0 rlU asksU _ _ la lb _ g0 g1 HLA2.out HLB2.out).mono ?_); rintro e2 w2 ⟨u, ku, U, rfl, hT, hO, hb⟩; have P3 := (P2.next hb).put hO; obtain ⟨rfl, rfl⟩ := Told.one T1.out hT; clear hT hO hb P2 g0 g1)
      | (go_at_call 13; have g0 := P3.get 2 rfl; have g1 := P3.get 3 rfl; (with_reducible refine (inter_t _ _ la lb _ g0 g1 HLA.out HLB.out).mono ?_); rintro e3 w3 ⟨⟨y, ky, Y, rfl, hT, hO⟩, hb⟩; have P4 := P3.made hb hO; have T2 := Lib.hid hT; clear hT hO hb P3 g0 g1)
      | (go_at_call 12; have g0 := P4.get 3 rfl; have g1 := P4.get 4 rfl; (with_reducible refine (rset_c 1 rlI asksI _ _ la lb _ g0 g1 HLA2.out HLB2.out).mono ?_); rintro e4 w4 ⟨v, kv, V, rfl, hT, hO, hb⟩; have P5 := (P4.next hb).put hO; obtain ⟨rfl, rfl⟩ := Told.one T2.out hT; clear hT hO hb P4 g0 g1)
      | (go_at_call 14; have g0 := P5.get 4 rfl; have g1 := P5.get 5 rfl; (with_reducible refine (sub_t _ _ la lb _ g0 g1 HLA.out HLB.out).mono ?_); rintro e5 w5 ⟨⟨z, kz, Z, rfl, hT, hO⟩, hb⟩; have P6 := P5.made hb hO; have T3 := Lib.hid hT; clear hT hO hb P5 g0 g1)
      | (go_at_call 12; have g0 := P6.get 5 rfl; have g1 := P6.get 6 rfl; (with_reducible refine (rset_c 2 rlS asksS _ _ la lb _ g0 g1 HLA2.out HLB2.out).mono ?_); rintro e6 w6 ⟨q, kq, Q, rfl, hT, hO, hb⟩; have P7 := (P6.next hb).put hO; obtain ⟨rfl, rfl⟩ := Told.one T3.out hT; clear hT hO hb P6 g0 g1))
    have L1 := Lib.hid T1.out.len
    have L2 := Lib.hid T2.out.len
    have L3 := Lib.hid T3.out.len
    clear T1 T2 T3
    have S1 := Lib.hid (show sameL X X = true from (sameL_iff _ _).2 rfl)
    have S2 := Lib.hid (show sameL Y Y = true from (sameL_iff _ _).2 rfl)
    have S3 := Lib.hid (show sameL Z Z = true from (sameL_iff _ _).2 rfl)
    go_wp2_with (first
      | (go_at_call 15; have g0 := P7.get 5 rfl; have g1 := P7.get 4 rfl; (with_reducible refine (rfSame_c x u X X _ g0 g1 (by have := L1.out; omega)).mono ?_); rintro e7 w7 ⟨rfl, hb⟩; have P8 := P7.next hb; clear hb P7 g0 g1; rw [S1.out])
      | (go_at_call 15; have g0 := P8.get 3 rfl; have g1 := P8.get 2 rfl; (with_reducible refine (rfSame_c y v Y Y _ g0 g1 (by have := L2.out; omega)).mono ?_); rintro e8 w8 ⟨rfl, hb⟩; have P9 := P8.next hb; clear hb P8 g0 g1; rw [S2.out])
      | (go_at_call 15; have g0 := P9.get 1 rfl; have g1 := P9.get 0 rfl; (with_reducible refine (rfSame_c z q Z Z _ g0 g1 (by have := L3.out; omega)).mono ?_); rintro e9 w9 ⟨rfl, hb⟩; have P10 := P9.next hb; clear hb P9 g0 g1; rw [S3.out])
      | (go_at_call 10; (with_reducible refine (awake_c _).mono ?_); rintro e10 w10 ⟨rfl, hb⟩; have P11 := P10.next hb; clear hb P10))
    go_ret
    exact ⟨rfl, P11.2⟩
end Go.Proofs.Ytfabknabkcfpjaa
