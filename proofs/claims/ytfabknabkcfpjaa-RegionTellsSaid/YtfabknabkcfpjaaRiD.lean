/- The law RegionParts, walked. -/
import Derived.Test.YtfabknabkcfpjaaRiC
namespace Go.Proofs.Ytfabknabkcfpjaa
open Go.RowKit Go.Shelf
/-- What a law keeps: slices that read as these rectangles, and what was there before. -/
def Stt (w0 : World) (l : List (Value × List Rc)) (wx : World) : Prop := (∀ p ∈ l, RdK encR 4 wx p.1 p.2) ∧ Below w0.heap.size w0 wx
section
variable {w0 wx w1 : World} {l : List (Value × List Rc)} {v : Value} {L : List Rc}
theorem Stt.next (h : Stt w0 l wx) (hb : Below wx.heap.size wx w1) : Stt w0 l w1 := ⟨fun p hp => (h.1 p hp).below hb, below_then h.2 hb⟩
theorem Stt.put (h : Stt w0 l wx) (hv : RdK encR 4 wx v L) : Stt w0 ((v, L) :: l) wx := ⟨fun p hp => by
  rcases List.mem_cons.1 hp with rfl | hp
  · exact hv
  · exact h.1 p hp, h.2⟩
theorem Stt.made {k : Nat} {T : TypeId} (h : Stt w0 l wx) (hb : Below wx.heap.size wx w1) (hv : OwK encR T 4 w1 k v L) : Stt w0 ((v, L) :: l) w1 := (h.next hb).put (OwK.reads encR_len hv)
theorem Stt.get (h : Stt w0 l wx) (j : Nat) (hj : l[j]? = some (v, L)) : RdK encR 4 wx v L := h.1 _ (List.mem_of_getElem? hj)
end
theorem parts_pure {la lb X Y A M Z : List Rc} {kz km : Int} (hX : Told rlI la lb 0 X) (hY : Told rlS la lb 0 Y) (hA : Told rlU la [] 0 A) (hZ : Told rlU X Y kz Z) (hM : Told rlI X Y km M) : kz = 0 ∧ km = 0 ∧ Z = A ∧ M = [] := by
  have mX := hX.made rfl
  have mY := hY.made rfl
  have mA := hA.made rfl
  obtain ⟨h1, h2⟩ := hZ.same mX.ok mY.ok mA (fun x v => by
    rw [mX.has, mY.has, mA.has, inS_nil]
    cases inS la x v <;> cases inS lb x v <;> rfl)
  obtain ⟨h3, h4⟩ := hM.none mX.ok mY.ok (fun x v => by
    rw [mX.has, mY.has]
    cases inS la x v <;> cases inS lb x v <;> rfl)
  exact ⟨h1, h3, h2, h4⟩
set_option maxRecDepth 100000 in
set_option maxHeartbeats 8000000 in
theorem parts_w (va : Value) (la : List Rc) (vb : Value) (lb : List Rc) (w : World) (ha : RdK encR 4 w va la) (hla : la.length ≤ 4398046511104) (hb : RdK encR 4 w vb lb) (hlb : lb.length ≤ 4398046511104) :
    Calls Try.prog 7 #[va, vb] w fun e w' => e = .returned (.bool true) ∧ Below w.heap.size w w' := by
  have P0 : Stt w [(va, la), (vb, lb)] w := ⟨fun p hp => by
    rcases List.mem_cons.1 hp with rfl | hp
    · exact ha
    · rw [List.mem_singleton.1 hp]; exact hb, Below.refl _ _⟩
  have HLA := Lib.hid (show la.length ≤ 1152921504606846976 by omega)
  have HLB := Lib.hid (show lb.length ≤ 1152921504606846976 by omega)
  clear ha hb hla hlb
  go_enter Try.func7, Try.ntmps7
  go_upto_region 4 with (first
    | (go_at_call 13; have g0 := P0.get 0 rfl; have g1 := P0.get 1 rfl; (with_reducible refine (inter_t va vb la lb _ g0 g1 HLA.out HLB.out).mono ?_); rintro e1 w1 ⟨⟨x, kx, X, rfl, hTX, hO⟩, hb⟩; have P1 := P0.made hb hO; have TX := Lib.hid hTX; clear hTX hO hb P0 g0 g1)
    | (go_at_call 14; have g0 := P1.get 1 rfl; have g1 := P1.get 2 rfl; (with_reducible refine (sub_t va vb la lb _ g0 g1 HLA.out HLB.out).mono ?_); rintro e2 w2 ⟨⟨y, ky, Y, rfl, hTY, hO⟩, hb⟩; have P2 := P1.made hb hO; have TY := Lib.hid hTY; clear hTY hO hb P1 g0 g1)
    | (go_at_call 11; have g0 := P2.get 2 rfl; (with_reducible refine (union_t va (.slice none 0 0) la [] _ g0 (RdK.nil _ _) HLA.out (by simp)).mono ?_); rintro e3 w3 ⟨⟨a, ka, A, rfl, hTA, hO⟩, hb⟩; have P3 := P2.made hb hO; have TA := Lib.hid hTA; clear hTA hO hb P2 g0))
  by_cases hk : kx = 0 ∧ ky = 0 ∧ ka = 0
  · obtain ⟨rfl, rfl, rfl⟩ := hk
    have hMX := (TX.out.made rfl).ok.1
    have hMY := (TY.out.made rfl).ok.1
    have HLX := Lib.hid (show X.length ≤ 1152921504606846976 by omega)
    have HLY := Lib.hid (show Y.length ≤ 1152921504606846976 by omega)
    clear hMX hMY
    go_upto_region 8 with (first
      | (go_at_call 11; have g0 := P3.get 2 rfl; have g1 := P3.get 1 rfl; (with_reducible refine (union_t x y X Y _ g0 g1 HLX.out HLY.out).mono ?_); rintro e4 w4 ⟨⟨z, kz, Z, rfl, hTZ, hO⟩, hb⟩; have P4 := P3.made hb hO; have TZ := Lib.hid hTZ; clear hTZ hO hb P3 g0 g1)
      | (go_at_call 13; have g0 := P4.get 3 rfl; have g1 := P4.get 2 rfl; (with_reducible refine (inter_t x y X Y _ g0 g1 HLX.out HLY.out).mono ?_); rintro e5 w5 ⟨⟨m, km, M, rfl, hTM, hO⟩, hb⟩; obtain ⟨p, c, rfl⟩ := hO.slice; have P5 := P4.made hb hO; have TM := Lib.hid hTM; clear hTM hO hb P4 g0 g1))
    obtain ⟨rfl, rfl, rfl, rfl⟩ := parts_pure TX.out TY.out TA.out TZ.out TM.out
    have HS := Lib.hid (show sameL Z Z = true from (sameL_iff _ _).2 rfl)
    have HLZ := Lib.hid (show Z.length ≤ 1073741824 by have := (TA.out.made rfl).ok.1; omega)
    go_wp2_with (first
      | (go_at_call 15; have g0 := P5.get 1 rfl; have g1 := P5.get 2 rfl; (with_reducible refine (rfSame_c z a Z Z _ g0 g1 HLZ.out).mono ?_); rintro e6 w6 ⟨rfl, hb⟩; have P6 := P5.next hb; clear hb P5 g0 g1; rw [HS.out])
      | (go_at_call 10; (with_reducible refine (awake_c _).mono ?_); rintro e7 w7 ⟨rfl, hb⟩; have P7 := P6.next hb; clear hb P6))
    go_ret
    exact ⟨rfl, P7.2⟩
  · have hk3 : kx ≠ 0 ∨ (kx = 0 ∧ ky ≠ 0) ∨ (kx = 0 ∧ ky = 0 ∧ ka ≠ 0) := by omega
    clear hk
    rcases hk3 with hk | ⟨rfl, hk⟩ | ⟨rfl, rfl, hk⟩
    all_goals
      go_wp2_with (go_at_call 10; (with_reducible refine (awake_c _).mono ?_); rintro e7 w7 ⟨rfl, hb⟩; have P7 := P3.next hb; clear hb P3)
      go_ret
      exact ⟨rfl, P7.2⟩
end Go.Proofs.Ytfabknabkcfpjaa
