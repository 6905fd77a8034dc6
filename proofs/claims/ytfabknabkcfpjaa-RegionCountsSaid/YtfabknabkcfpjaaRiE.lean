/- The law RegionCounts, walked. -/
import Derived.Test.YtfabknabkcfpjaaRiD
namespace Go.Proofs.Ytfabknabkcfpjaa
open Go.RowKit Go.Shelf
theorem counts_pure {la lb X Y A H I : List Rc} {kh ki : Int} (hX : Told rlU la lb 0 X) (hY : Told rlS lb la 0 Y) (hA : Told rlU la [] 0 A) (hH : Told rlU X [] kh H) (hI : Told rlU Y [] ki I) : kh = 0 ∧ ki = 0 ∧ areaL H = areaL A + areaL I := by
  have mX := hX.made rfl
  have mY := hY.made rfl
  have mA := hA.made rfl
  obtain ⟨h1, rfl⟩ := hH.same mX.ok Ok.nil mX (fun x v => by rw [inS_nil]; unfold rlU; rw [Bool.or_false])
  obtain ⟨h2, rfl⟩ := hI.same mY.ok Ok.nil mY (fun x v => by rw [inS_nil]; unfold rlU; rw [Bool.or_false])
  exact ⟨h1, h2, Made.counts mX mA (fun x v => by rw [mA.has, inS_nil]; unfold rlU; rw [Bool.or_false]) mY⟩
theorem areaL_few {L : List Rc} (h : L.length ≤ 256) : 0 ≤ areaL L ∧ areaL L ≤ 1099511627776 := by
  have := areaL_le L L.length
  rw [List.take_length] at this
  refine ⟨this.1, Int.le_trans this.2 ?_⟩
  have : (L.length : Int) ≤ 256 := by omega
  omega
set_option maxRecDepth 100000 in
set_option maxHeartbeats 8000000 in
theorem counts_w (va : Value) (la : List Rc) (vb : Value) (lb : List Rc) (w : World) (ha : RdK encR 4 w va la) (hla : la.length ≤ 4398046511104) (hb : RdK encR 4 w vb lb) (hlb : lb.length ≤ 4398046511104) :
    Calls Try.prog 8 #[va, vb] w fun e w' => e = .returned (.bool true) ∧ Below w.heap.size w w' := by
  have P0 : Stt w [(va, la), (vb, lb)] w := ⟨fun p hp => by
    rcases List.mem_cons.1 hp with rfl | hp
    · exact ha
    · rw [List.mem_singleton.1 hp]; exact hb, Below.refl _ _⟩
  have HLA := Lib.hid (show la.length ≤ 1152921504606846976 by omega)
  have HLB := Lib.hid (show lb.length ≤ 1152921504606846976 by omega)
  clear ha hb hla hlb
  go_enter Try.func8, Try.ntmps8
  go_upto_region 4 with (first
    | (go_at_call 11; have g0 := P0.get 0 rfl; have g1 := P0.get 1 rfl; (with_reducible refine (union_t va vb la lb _ g0 g1 HLA.out HLB.out).mono ?_); rintro e1 w1 ⟨⟨x, kx, X, rfl, hTX, hO⟩, hb⟩; have P1 := P0.made hb hO; have TX := Lib.hid hTX; clear hTX hO hb P0 g0 g1)
    | (go_at_call 14; have g0 := P1.get 2 rfl; have g1 := P1.get 1 rfl; (with_reducible refine (sub_t vb va lb la _ g0 g1 HLB.out HLA.out).mono ?_); rintro e2 w2 ⟨⟨y, ky, Y, rfl, hTY, hO⟩, hb⟩; have P2 := P1.made hb hO; have TY := Lib.hid hTY; clear hTY hO hb P1 g0 g1)
    | (go_at_call 16; have g0 := P2.get 2 rfl; (with_reducible refine (rgArea_c va la _ g0 HLA.out).mono ?_); rintro e3 w3 ⟨ka, A, hTA, rfl, hb⟩; have P3 := P2.next hb; have TA := Lib.hid hTA; have BA := areaL_few hTA.len; clear hTA hb P2 g0))
  by_cases hk : kx = 0 ∧ ky = 0 ∧ ka = 0
  · obtain ⟨rfl, rfl, rfl⟩ := hk
    have hMX := (TX.out.made rfl).ok.1
    have hMY := (TY.out.made rfl).ok.1
    have HLX := Lib.hid (show X.length ≤ 1152921504606846976 by omega)
    have HLY := Lib.hid (show Y.length ≤ 1152921504606846976 by omega)
    clear hMX hMY
    go_upto_region 8 with (first
      | (go_at_call 16; have g0 := P3.get 1 rfl; (with_reducible refine (rgArea_c x X _ g0 HLX.out).mono ?_); rintro e4 w4 ⟨kh, H, hTH, rfl, hb⟩; have P4 := P3.next hb; have TH := Lib.hid hTH; clear hTH hb P3 g0)
      | (go_at_call 16; have g0 := P4.get 0 rfl; (with_reducible refine (rgArea_c y Y _ g0 HLY.out).mono ?_); rintro e5 w5 ⟨ki, I, hTI, rfl, hb⟩; have P5 := P4.next hb; have TI := Lib.hid hTI; have BI := areaL_few hTI.len; clear hTI hb P4 g0))
    obtain ⟨rfl, rfl, he⟩ := counts_pure TX.out TY.out TA.out TH.out TI.out
    rw [he]
    clear he
    generalize areaL A = nA at BA ⊢
    generalize areaL I = nI at BI ⊢
    have hw1 : IntKind.i64.wrap (nA + nI) = nA + nI := IntWalk.i64_in _ (by omega)
    go_wp2_with (go_at_call 10; (with_reducible refine (awake_c _).mono ?_); rintro e7 w7 ⟨rfl, hb⟩; have P7 := P5.next hb; clear hb P5)
    go_ret
    exact ⟨rfl, P7.2⟩
  · have hk3 : kx ≠ 0 ∨ (kx = 0 ∧ ky ≠ 0) ∨ (kx = 0 ∧ ky = 0 ∧ ka ≠ 0) := by omega
    clear hk BA
    rcases hk3 with hk | ⟨rfl, hk⟩ | ⟨rfl, rfl, hk⟩
    all_goals
      go_wp2_with (go_at_call 10; (with_reducible refine (awake_c _).mono ?_); rintro e7 w7 ⟨rfl, hb⟩; have P7 := P3.next hb; clear hb P3)
      go_ret
      exact ⟨rfl, P7.2⟩
end Go.Proofs.Ytfabknabkcfpjaa
