/- The law RegionPoints, walked. -/
import Derived.Test.YtfabknabkcfpjaaRiD
namespace Go.Proofs.Ytfabknabkcfpjaa
open Go.RowKit Go.Shelf
/-- What the law keeps, and the place's box. -/
def Stp (w0 : World) (q : Nat) (x y : Int) (l : List (Value × List Rc)) (wx : World) : Prop := Stt w0 l wx ∧ Blk wx q 32 #[.int .i64 x, .int .i64 y]
section
variable {w0 wx w1 : World} {l : List (Value × List Rc)} {v : Value} {L : List Rc} {q : Nat} {x y : Int}
theorem Stp.next (h : Stp w0 q x y l wx) (hb : Below wx.heap.size wx w1) : Stp w0 q x y l w1 := ⟨h.1.next hb, h.2.next hb⟩
theorem Stp.drew (h : Stp w0 q x y l wx) : Stp w0 q x y l wx.drew := ⟨⟨h.1.1, h.1.2.drew⟩, h.2.drew⟩
theorem Stp.made {k : Nat} {T : TypeId} (h : Stp w0 q x y l wx) (hb : Below wx.heap.size wx w1) (hv : OwK encR T 4 w1 k v L) : Stp w0 q x y ((v, L) :: l) w1 := ⟨h.1.made hb hv, h.2.next hb⟩
end
theorem has_t (v : Value) (rs : List Rc) (x y : Int) (w : World) (hR : RdK encR 4 w v rs) (hn : rs.length ≤ 1073741824) :
    Calls Try.prog 18 #[v, .agg #[.int .i64 x, .int .i64 y]] w fun e w' => e = .returned (.bool (inS rs x y)) ∧ Below w.heap.size w w' := rgHas_c v rs x y w hR hn
set_option maxRecDepth 100000 in
set_option maxHeartbeats 16000000 in
theorem points_w (va : Value) (la : List Rc) (vb : Value) (lb : List Rc) (px py : Int) (w : World) (ha : RdK encR 4 w va la) (hla : la.length ≤ 4398046511104) (hb : RdK encR 4 w vb lb) (hlb : lb.length ≤ 4398046511104) :
    Calls Try.prog 5 #[va, vb, .agg #[.int .i64 px, .int .i64 py]] w fun e w' => e = .returned (.bool true) ∧ Below w.heap.size w w' := by
  have P0 : Stp w w.heap.size px py [(va, la), (vb, lb)] (w.alloc (.cells #[.int .i64 px, .int .i64 py] 32)) := ⟨Stt.next (wx := w) ⟨fun p hp => by
    rcases List.mem_cons.1 hp with rfl | hp
    · exact ha
    · rw [List.mem_singleton.1 hp]; exact hb, Below.refl _ _⟩ (below_new _ _), Blk.new _ _ _⟩
  have HLA := Lib.hid (show la.length ≤ 1152921504606846976 by omega)
  have HLB := Lib.hid (show lb.length ≤ 1152921504606846976 by omega)
  clear ha hb hla hlb
  go_enter Try.func5, Try.ntmps5
  go_upto_region 4 with (first
    | (go_at_call 11; have g0 := P0.1.get 0 rfl; have g1 := P0.1.get 1 rfl; (with_reducible refine (union_t va vb la lb _ g0 g1 HLA.out HLB.out).mono ?_); rintro e1 w1 ⟨⟨x, kx, X, rfl, hTX, hO⟩, hb⟩; have P1 := P0.made hb hO; have TX := Lib.hid hTX; clear hTX hO hb P0 g0 g1)
    | (go_at_call 13; have g0 := P1.1.get 1 rfl; have g1 := P1.1.get 2 rfl; (with_reducible refine (inter_t va vb la lb _ g0 g1 HLA.out HLB.out).mono ?_); rintro e2 w2 ⟨⟨y, ky, Y, rfl, hTY, hO⟩, hb⟩; have P2 := P1.made hb hO; have TY := Lib.hid hTY; clear hTY hO hb P1 g0 g1)
    | (go_at_call 14; have g0 := P2.1.get 2 rfl; have g1 := P2.1.get 3 rfl; (with_reducible refine (sub_t va vb la lb _ g0 g1 HLA.out HLB.out).mono ?_); rintro e3 w3 ⟨⟨z, kz, Z, rfl, hTZ, hO⟩, hb⟩; have P3 := P2.made hb hO; have TZ := Lib.hid hTZ; clear hTZ hO hb P2 g0 g1))
  by_cases hk : kx = 0 ∧ ky = 0 ∧ kz = 0
  · obtain ⟨rfl, rfl, rfl⟩ := hk
    have mX := TX.out.made rfl
    have mY := TY.out.made rfl
    have mZ := TZ.out.made rfl
    have HHA := Lib.hid (fun (W : World) (h : Stp w w.heap.size px py [(z, Z), (y, Y), (x, X), (va, la), (vb, lb)] W) => has_t va la px py W (h.1.get 3 rfl) (by have := mX.a.1; omega))
    have HHB := Lib.hid (fun (W : World) (h : Stp w w.heap.size px py [(z, Z), (y, Y), (x, X), (va, la), (vb, lb)] W) => has_t vb lb px py W (h.1.get 4 rfl) (by have := mX.b.1; omega))
    have HHX := Lib.hid (fun (W : World) (h : Stp w w.heap.size px py [(z, Z), (y, Y), (x, X), (va, la), (vb, lb)] W) => has_t x X px py W (h.1.get 2 rfl) (by have := mX.ok.1; omega))
    have HHY := Lib.hid (fun (W : World) (h : Stp w w.heap.size px py [(z, Z), (y, Y), (x, X), (va, la), (vb, lb)] W) => has_t y Y px py W (h.1.get 1 rfl) (by have := mY.ok.1; omega))
    have HHZ := Lib.hid (fun (W : World) (h : Stp w w.heap.size px py [(z, Z), (y, Y), (x, X), (va, la), (vb, lb)] W) => has_t z Z px py W (h.1.get 0 rfl) (by have := mZ.ok.1; omega))
    rw [mX.has] at HHX
    rw [mY.has] at HHY
    rw [mZ.has] at HHZ
    unfold rlU at HHX
    unfold rlI at HHY
    unfold rlS at HHZ
    clear mX mY mZ TX TY TZ
    generalize inS la px py = o1 at HHA HHX HHY HHZ
    generalize inS lb px py = o2 at HHB HHX HHY HHZ
    go_upto_region 6 with fail
    refine wp_region_noPanic ?_
    refine wp_region_held_drew (S := fun wx => wx.cell? ⟨w.heap.size, 0, none⟩ = some (.int .i64 px) ∧ wx.cell? ⟨w.heap.size, 1, none⟩ = some (.int .i64 py)) (by kernel_rfl) (by exact P3.drew.2.c2.1) (fun hHeld => ?_)
    refine wpAnyH_take (i := 0) (v := ?v0) rfl (by kernel_rfl) (by kernel_rfl) (by kernel_rfl) (fun _ _ _ h => h) (Or.inl ⟨by kernel_rfl, ?y0⟩) (by assumption) ?r0
    case y0 => (intro wq hSw; (try dsimp only at hSw); go_simp; (try with_reducible rfl))
    (try simp only [Act.put, List.getElem_toArray, List.getElem_cons_zero, List.setIfInBounds_toArray, List.set_cons_zero, List.set_cons_succ])
    refine wpAnyH_take (i := 1) (v := ?v1) rfl (by kernel_rfl) (by kernel_rfl) (by kernel_rfl) (fun _ _ _ h => h) (Or.inl ⟨by kernel_rfl, ?y1⟩) (by assumption) ?r1
    case y1 => (intro wq hSw; (try dsimp only at hSw); go_simp; (try with_reducible rfl))
    (try simp only [Act.put, List.getElem_toArray, List.getElem_cons_succ, List.getElem_cons_zero, List.setIfInBounds_toArray, List.set_cons_zero, List.set_cons_succ])
    refine wpAnyH_take (i := 3) (v := ?v3) rfl (by kernel_rfl) (by kernel_rfl) (by kernel_rfl) (fun _ _ _ h => h) (Or.inl ⟨by kernel_rfl, ?y3⟩) (by assumption) ?r3
    case y3 => (intro wq hSw; (try dsimp only at hSw); go_simp; (try with_reducible rfl))
    (try simp only [Act.put, List.getElem_toArray, List.getElem_cons_succ, List.getElem_cons_zero, List.setIfInBounds_toArray, List.set_cons_zero, List.set_cons_succ])
    refine wpAnyH_take (i := 4) (v := ?v4) rfl (by kernel_rfl) (by kernel_rfl) (by kernel_rfl) (fun _ _ _ h => h) (Or.inl ⟨by kernel_rfl, ?y4⟩) (by assumption) ?r4
    case y4 => (intro wq hSw; (try dsimp only at hSw); go_simp; (try with_reducible rfl))
    (try simp only [Act.put, List.getElem_toArray, List.getElem_cons_succ, List.getElem_cons_zero, List.setIfInBounds_toArray, List.set_cons_zero, List.set_cons_succ])
    refine wpAnyH_ready (rs := [2]) (by kernel_rfl) (by simp) ?_
    refine AllReadyH.cons rfl (fun K hK => ?_) AllReadyH.nil
    go_simp
    refine (HHA.out _ P3.drew).mono ?_
    rintro e4 w4 ⟨rfl, hb⟩; have P4 := P3.drew.next hb; clear hb
    (try dsimp only)
    refine hK.out _ _ (by exact P4.2.c2.1) (fun hHeld => ?_)
    clear hK K
    (try simp only [Act.put, List.getElem_toArray, List.getElem_cons_succ, List.getElem_cons_zero, List.setIfInBounds_toArray, List.set_cons_zero, List.set_cons_succ])
    refine wpAnyH_ready (rs := [5]) (by kernel_rfl) (by simp) ?_
    refine AllReadyH.cons rfl (fun K hK => ?_) AllReadyH.nil
    go_simp
    refine (HHB.out _ P4).mono ?_
    rintro e5 w5 ⟨rfl, hb⟩; have P5 := P4.next hb; clear hb
    (try dsimp only)
    refine hK.out _ _ (by exact P5.2.c2.1) (fun hHeld => ?_)
    clear hK K
    (try simp only [Act.put, List.getElem_toArray, List.getElem_cons_succ, List.getElem_cons_zero, List.setIfInBounds_toArray, List.set_cons_zero, List.set_cons_succ])
    refine wpAnyH_take (i := 6) (v := ?v6) rfl (by kernel_rfl) (by kernel_rfl) (by kernel_rfl) (fun _ _ _ h => h) (Or.inl ⟨by kernel_rfl, ?y6⟩) (by assumption) ?r6
    case y6 => (intro wq hSw; (try dsimp only at hSw); go_simp; (try with_reducible rfl))
    (try simp only [Act.put, List.getElem_toArray, List.getElem_cons_succ, List.getElem_cons_zero, List.setIfInBounds_toArray, List.set_cons_zero, List.set_cons_succ])
    refine wpAnyH_take (i := 7) (v := ?v7) rfl (by kernel_rfl) (by kernel_rfl) (by kernel_rfl) (fun _ _ _ h => h) (Or.inl ⟨by kernel_rfl, ?y7⟩) (by assumption) ?r7
    case y7 => (intro wq hSw; (try dsimp only at hSw); go_simp; (try with_reducible rfl))
    (try simp only [Act.put, List.getElem_toArray, List.getElem_cons_succ, List.getElem_cons_zero, List.setIfInBounds_toArray, List.set_cons_zero, List.set_cons_succ])
    refine wpAnyH_done (by kernel_rfl) ?_ _
    refine NoPanic.normal ?_
    clear hHeld
    have c0 := P5.2.c2.1.1
    have c1 := P5.2.c2.1.2
    cases o1 <;> cases o2
    all_goals
      go_wp2_with (first
        | (go_at_call 18; (with_reducible refine (HHX.out _ P5).mono ?_); rintro e6 w6 ⟨rfl, hb⟩; have P6 := P5.next hb; clear hb P5 c0 c1; obtain ⟨⟨c0, c1⟩, _⟩ := P6.2.c2)
        | (go_at_call 18; (with_reducible refine (HHY.out _ P6).mono ?_); rintro e7 w7 ⟨rfl, hb⟩; have P7 := P6.next hb; clear hb P6 c0 c1; obtain ⟨⟨c0, c1⟩, _⟩ := P7.2.c2)
        | (go_at_call 18; (with_reducible refine (HHZ.out _ P7).mono ?_); rintro e8 w8 ⟨rfl, hb⟩; have P8 := P7.next hb; clear hb P7 c0 c1)
        | (go_at_call 10; (with_reducible refine (awake_c _).mono ?_); rintro e9 w9 ⟨rfl, hb⟩; have P9 := P8.next hb; clear hb P8))
      go_ret
      exact ⟨rfl, P9.1.2⟩
  · have hk3 : kx ≠ 0 ∨ (kx = 0 ∧ ky ≠ 0) ∨ (kx = 0 ∧ ky = 0 ∧ kz ≠ 0) := by omega
    clear hk
    rcases hk3 with hk | ⟨rfl, hk⟩ | ⟨rfl, rfl, hk⟩
    all_goals
      go_wp2_with (go_at_call 10; (with_reducible refine (awake_c _).mono ?_); rintro e7 w7 ⟨rfl, hb⟩; have P7 := P3.next hb; clear hb P3)
      go_ret
      exact ⟨rfl, P7.1.2⟩
end Go.Proofs.Ytfabknabkcfpjaa
