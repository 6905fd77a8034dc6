/- AreaWorks, AreaFinds, walked. -/
import Derived.Test.YteaeccmlibmmmaaArK
import Derived.Test.YteaeccmlibmmmaaArH
import Derived.Test.YteaeccmlibmmmaaArO
namespace Go.Proofs.Yteaeccmlibmmmaa.Ar
open Go.RowKit Go.Shelf
set_option maxHeartbeats 4000000 in
theorem works_w (o : Out) (v : Value) (l : List Str) (w : World) (_h0 : o.n.size ≤ maxLen) (hR : RdK encS 5 w v l) (hn : l.length ≤ 9223372036854775807) (_h1 : ∀ (j : Nat) (t : Str), l[j]? = some t → t.n.size ≤ maxLen) :
    Calls Try.prog 4 #[outV o, v] w fun e w' => e = .returned (.bool true) ∧ Below w.heap.size w w' := by
  have HQ := Lib.hid (Blk.new w 31 (OutC o))
  have HB := Lib.hid ((Below.refl w.heap.size w).alloc (Nat.le_refl _) (OutB o))
  have HW := Lib.hid (fun (W : World) (h : Below w.heap.size w W) => Work_c o v l W (hR.below h) hn)
  have HX := Lib.hid (fun (W : World) (h : Below w.heap.size w W) => rwork_c o v l W (hR.below h) hn)
  obtain ⟨⟨a, b, c, d⟩, hi⟩ : ∃ i, i = workI o l := ⟨_, rfl⟩
  rw [← hi] at HW HX
  have HSS : Hid (∀ W, Below (w.alloc (OutB o)).heap.size (w.alloc (OutB o)) W → W.cell? ⟨w.heap.size, 0, none⟩ = some (.string o.n) ∧ W.cell? ⟨w.heap.size, 1, none⟩ = some (.int .i64 o.x) ∧ W.cell? ⟨w.heap.size, 2, none⟩ = some (.int .i64 o.y) ∧ W.cell? ⟨w.heap.size, 3, none⟩ = some (.int .i64 o.w) ∧ W.cell? ⟨w.heap.size, 4, none⟩ = some (.int .i64 o.h)) := fun W h => ⟨(HQ.out.next h).at_ (i := 0) rfl, (HQ.out.next h).at_ (i := 1) rfl, (HQ.out.next h).at_ (i := 2) rfl, (HQ.out.next h).at_ (i := 3) rfl, (HQ.out.next h).at_ (i := 4) rfl⟩
  have HA := Lib.hid awake_c
  clear hR hn _h1 hi HQ
  have HBd := Lib.hid (Below.refl (w.alloc (OutB o)).heap.size (w.alloc (OutB o))).drew
  go_enter Try.func4, Try.ntmps4
  go_upto_region 1 with fail
  refine wp_region_noPanic ?_
  refine wp_region_held_drew (S := fun wx => wx.cell? ⟨w.heap.size, 0, none⟩ = some (.string o.n) ∧ wx.cell? ⟨w.heap.size, 1, none⟩ = some (.int .i64 o.x) ∧ wx.cell? ⟨w.heap.size, 2, none⟩ = some (.int .i64 o.y) ∧ wx.cell? ⟨w.heap.size, 3, none⟩ = some (.int .i64 o.w) ∧ wx.cell? ⟨w.heap.size, 4, none⟩ = some (.int .i64 o.h)) (by kernel_rfl) (by exact HSS.out _ HBd.out) (fun hHeld => ?_)
  refine wpAnyH_take (i := 0) (v := ?v0) rfl (by kernel_rfl) (by kernel_rfl) (by kernel_rfl) (fun _ _ _ h => h) (Or.inl ⟨by kernel_rfl, ?y0⟩) (by assumption) ?r0
  case y0 => (intro wq hSw; (try dsimp only at hSw); go_simp; (try with_reducible rfl))
  (try simp only [Act.put, List.getElem_toArray, List.getElem_cons_zero, List.setIfInBounds_toArray, List.set_cons_zero, List.set_cons_succ])
  refine wpAnyH_take (i := 1) (v := ?v1) rfl (by kernel_rfl) (by kernel_rfl) (by kernel_rfl) (fun _ _ _ h => h) (Or.inl ⟨by kernel_rfl, ?y1⟩) (by assumption) ?r1
  case y1 => (intro wq hSw; (try dsimp only at hSw); go_simp; (try with_reducible rfl))
  (try simp only [Act.put, List.getElem_toArray, List.getElem_cons_succ, List.getElem_cons_zero, List.setIfInBounds_toArray, List.set_cons_zero, List.set_cons_succ])
  refine wpAnyH_take (i := 3) (v := ?v3) rfl (by kernel_rfl) (by kernel_rfl) (by kernel_rfl) (fun _ _ _ h => h) (Or.inl ⟨by kernel_rfl, ?y3⟩) (by assumption) ?r3
  case y3 => (intro wq hSw; (try dsimp only at hSw); go_simp; (try with_reducible rfl))
  (try simp only [Act.put, List.getElem_toArray, List.getElem_cons_succ, List.getElem_cons_zero, List.setIfInBounds_toArray, List.set_cons_zero, List.set_cons_succ])
  refine wpAnyH_take (i := 4) (v := ?v4) rfl (by kernel_rfl) (by kernel_rfl) (by kernel_rfl) (fun _ _ _ h => h) (Or.inl ⟨by kernel_rfl, ?y4⟩) (by assumption) ?r4
  case y4 => (intro wq hSw; (try dsimp only at hSw); go_simp; (try with_reducible rfl))
  (try simp only [Act.put, List.getElem_toArray, List.getElem_cons_succ, List.getElem_cons_zero, List.setIfInBounds_toArray, List.set_cons_zero, List.set_cons_succ])
  refine wpAnyH_ready (rs := [2]) (by kernel_rfl) (by simp) ?_
  refine AllReadyH.cons rfl (fun K hK => ?_) AllReadyH.nil
  go_simp
  refine (HW.out _ (HB.out.trans (HBd.out.mono HB.out.size))).mono ?_
  rintro ex w3 ⟨rfl, hb⟩; have HB3 := Lib.hid (HBd.out.trans (hb.mono HBd.out.size)); have hS3 : w3.cell? ⟨w.heap.size, 0, none⟩ = some (.string o.n) ∧ w3.cell? ⟨w.heap.size, 1, none⟩ = some (.int .i64 o.x) ∧ w3.cell? ⟨w.heap.size, 2, none⟩ = some (.int .i64 o.y) ∧ w3.cell? ⟨w.heap.size, 3, none⟩ = some (.int .i64 o.w) ∧ w3.cell? ⟨w.heap.size, 4, none⟩ = some (.int .i64 o.h) := HSS.out _ HB3.out; clear hb
  (try dsimp only)
  refine hK.out _ _ (by exact hS3) (fun hHeld => ?_)
  clear hK K
  (try simp only [Act.put, List.getElem_toArray, List.getElem_cons_succ, List.getElem_cons_zero, List.setIfInBounds_toArray, List.set_cons_zero, List.set_cons_succ])
  refine wpAnyH_ready (rs := [5]) (by kernel_rfl) (by simp) ?_
  refine AllReadyH.cons rfl (fun K hK => ?_) AllReadyH.nil
  go_simp
  refine (HX.out _ (HB.out.trans (HB3.out.mono HB.out.size))).mono ?_
  rintro ex w4 ⟨rfl, hb⟩; have HB4 := Lib.hid (HB3.out.trans (hb.mono HB3.out.size)); have hS4 : w4.cell? ⟨w.heap.size, 0, none⟩ = some (.string o.n) ∧ w4.cell? ⟨w.heap.size, 1, none⟩ = some (.int .i64 o.x) ∧ w4.cell? ⟨w.heap.size, 2, none⟩ = some (.int .i64 o.y) ∧ w4.cell? ⟨w.heap.size, 3, none⟩ = some (.int .i64 o.w) ∧ w4.cell? ⟨w.heap.size, 4, none⟩ = some (.int .i64 o.h) := HSS.out _ HB4.out; clear hb
  (try dsimp only)
  refine hK.out _ _ (by exact hS4) (fun hHeld => ?_)
  clear hK K
  (try simp only [Act.put, List.getElem_toArray, List.getElem_cons_succ, List.getElem_cons_zero, List.setIfInBounds_toArray, List.set_cons_zero, List.set_cons_succ])
  refine wpAnyH_take (i := 6) (v := ?v6) rfl (by kernel_rfl) (by kernel_rfl) (by kernel_rfl) (fun _ _ _ h => h) (Or.inl ⟨by kernel_rfl, ?y6⟩) (by assumption) ?r6
  case y6 => (intro wq hSw; (try dsimp only at hSw); go_simp; (try with_reducible rfl))
  (try simp only [Act.put, List.getElem_toArray, List.getElem_cons_succ, List.getElem_cons_zero, List.setIfInBounds_toArray, List.set_cons_zero, List.set_cons_succ])
  refine wpAnyH_take (i := 7) (v := ?v7) rfl (by kernel_rfl) (by kernel_rfl) (by kernel_rfl) (fun _ _ _ h => h) (Or.inl ⟨by kernel_rfl, ?y7⟩) (by assumption) ?r7
  case y7 => (intro wq hSw; (try dsimp only at hSw); go_simp; (try with_reducible rfl))
  (try simp only [Act.put, List.getElem_toArray, List.getElem_cons_succ, List.getElem_cons_zero, List.setIfInBounds_toArray, List.set_cons_zero, List.set_cons_succ])
  refine wpAnyH_ready (rs := [8]) (by kernel_rfl) (by simp) ?_
  refine AllReadyH.cons rfl (fun K hK => ?_) AllReadyH.nil
  go_simp
  refine (HA.out _).mono ?_
  rintro ex w5 ⟨rfl, hb⟩; have HB5 := Lib.hid (HB4.out.trans (hb.mono HB4.out.size)); have hS5 : w5.cell? ⟨w.heap.size, 0, none⟩ = some (.string o.n) ∧ w5.cell? ⟨w.heap.size, 1, none⟩ = some (.int .i64 o.x) ∧ w5.cell? ⟨w.heap.size, 2, none⟩ = some (.int .i64 o.y) ∧ w5.cell? ⟨w.heap.size, 3, none⟩ = some (.int .i64 o.w) ∧ w5.cell? ⟨w.heap.size, 4, none⟩ = some (.int .i64 o.h) := HSS.out _ HB5.out; clear hb
  (try dsimp only)
  refine hK.out _ _ (by exact hS5) (fun hHeld => ?_)
  clear hK K
  (try simp only [Act.put, List.getElem_toArray, List.getElem_cons_succ, List.getElem_cons_zero, List.setIfInBounds_toArray, List.set_cons_zero, List.set_cons_succ])
  refine wpAnyH_take (i := 9) (v := ?v9) rfl (by kernel_rfl) (by kernel_rfl) (by kernel_rfl) (fun _ _ _ h => h) (Or.inl ⟨by kernel_rfl, ?y9⟩) (by assumption) ?r9
  case y9 => (intro wq hSw; (try dsimp only at hSw); go_simp; (try with_reducible rfl))
  (try simp only [Act.put, List.getElem_toArray, List.getElem_cons_succ, List.getElem_cons_zero, List.setIfInBounds_toArray, List.set_cons_zero, List.set_cons_succ])
  refine wpAnyH_take (i := 10) (v := ?v10) rfl (by kernel_rfl) (by kernel_rfl) (by kernel_rfl) (fun _ _ _ h => h) (Or.inl ⟨by kernel_rfl, ?y10⟩) (by assumption) ?r10
  case y10 => (intro wq hSw; (try dsimp only at hSw); go_simp; (try with_reducible rfl))
  (try simp only [Act.put, List.getElem_toArray, List.getElem_cons_succ, List.getElem_cons_zero, List.setIfInBounds_toArray, List.set_cons_zero, List.set_cons_succ])
  refine wpAnyH_done (by kernel_rfl) ?_ _
  refine NoPanic.normal ?_
  have HB9 := Lib.hid (HB.out.trans (HB5.out.mono HB.out.size))
  clear hS3 hS4 hS5 hHeld
  go_wp2_with fail
  go_ret
  exact ⟨rfl, HB9.out⟩
theorem str_of {H : Type} {enc : TypeId × Value → H} {w : World} {b0 : Nat} {v : Value} {d : DataW H} {q : List MemPlace} (hv : Value.okWide Try.prog w .any b0 9 v) (h : DataW.Trod enc Try.prog w 0 (fun _ => true) true 9 v d q) : ∃ s : ByteArray, v = .string s ∧ s.size ≤ maxLen := by
  have h' := h
  obtain ⟨s, rfl, hd, _, _⟩ := Go.ChangeMaps.open_string Try.underlying9 hv h
  obtain ⟨fuel, hf⟩ := h'
  obtain ⟨s', q0, _, w0⟩ := DataW.trod_string Try.underlying9 hf
  simp only [Value.cells, List.cons.injEq, Value.string.injEq, and_true] at q0
  subst q0
  exact ⟨_, rfl, w0⟩
set_option maxHeartbeats 4000000 in
set_option maxRecDepth 100000 in
theorem finds_w (v : Value) (l : List Out) (p q : Int) (s : ByteArray) (rx ry ra rb : Int) (w : World) (hR : RdK encO 5 w v l) (hn : l.length ≤ 9223372036854775807) (_h1 : ∀ (j : Nat) (t : Out), l[j]? = some t → t.n.size ≤ maxLen) (_h2 : s.size ≤ maxLen) :
    Calls Try.prog 5 #[v, .agg #[.int .i64 p, .int .i64 q], .string s, .agg #[.int .i64 rx, .int .i64 ry, .int .i64 ra, .int .i64 rb]] w fun e w' => e = .returned (.bool true) ∧ Below w.heap.size w w' := by
  obtain ⟨r, hr⟩ : ∃ r : Rc, r = ⟨rx, ry, ra, rb⟩ := ⟨_, rfl⟩
  rw [show (Value.agg #[.int .i64 rx, .int .i64 ry, .int .i64 ra, .int .i64 rb]) = rcV r by rw [hr]]
  clear hr
  obtain ⟨wB, hwB⟩ : ∃ wB, wB = (w.alloc (.cells #[.int .i64 p, .int .i64 q] 36)).alloc (.cells (RcC r) 29) := ⟨_, rfl⟩
  have hb0 : Below w.heap.size w wB := by rw [hwB]; exact ((Below.refl _ _).alloc (Nat.le_refl _) _).alloc (by simp) _
  have hqp : Blk wB w.heap.size 36 #[.int .i64 p, .int .i64 q] := by rw [hwB]; exact (Blk.new _ _ _).alloc _
  have hqr : Blk wB (w.heap.size + 1) 29 (RcC r) := by rw [hwB]; have := Blk.new (w.alloc (.cells #[.int .i64 p, .int .i64 q] 36)) 29 (RcC r); rwa [World.size_alloc] at this
  have HA1 := Lib.hid (fun (W : World) (h : Below w.heap.size w W) => at_c v l p q W (hR.below h) hn)
  have HF1 := Lib.hid (fun (W : World) (h : Below w.heap.size w W) => find_c v l s W (hR.below h) hn)
  have HN1 := Lib.hid (fun (W : World) (h : Below w.heap.size w W) => Nearest_c v l r W (hR.below h) hn)
  have HA2 := Lib.hid (fun (W : World) (h : Below w.heap.size w W) => rat_c v l p q W (hR.below h) hn)
  have HF2 := Lib.hid (fun (W : World) (h : Below w.heap.size w W) => rfind_c v l s W (hR.below h) hn)
  have HN2 := Lib.hid (fun (W : World) (h : Below w.heap.size w W) => rnear_c v l r W (hR.below h) hn)
  obtain ⟨a, ha⟩ : ∃ z, z = firI (hasO p q) l := ⟨_, rfl⟩
  obtain ⟨b, hb⟩ : ∃ z, z = firI (namedO s) l := ⟨_, rfl⟩
  obtain ⟨c, hc⟩ : ∃ z, z = nearI l r := ⟨_, rfl⟩
  rw [← ha] at HA1 HA2
  rw [← hb] at HF1 HF2
  rw [← hc] at HN1 HN2
  have HBB := Lib.hid hb0
  have HQP := Lib.hid hqp
  have HQR := Lib.hid hqr
  have HWB := Lib.hid hwB
  clear ha hb hc hb0 hqp hqr hR hn _h1 _h2 hwB
  go_enter Try.func5, Try.ntmps5
  go_upto_region 1 with fail
  rw [← HWB.out]
  obtain ⟨⟨p0, p1⟩, -⟩ := HQP.out.c2
  go_wp2_with fail
  refine (HA1.out _ HBB.out).mono ?_
  rintro e w1 ⟨rfl, hb⟩
  have HB1 := Lib.hid (HBB.out.trans (hb.mono HBB.out.size))
  have HP1 := Lib.hid (HQP.out.next hb)
  have HR1 := Lib.hid (HQR.out.next hb)
  clear hb p0 p1
  go_wp2_with fail
  refine (HF1.out _ HB1.out).mono ?_
  rintro e w2 ⟨rfl, hb⟩
  have HB2 := Lib.hid (HB1.out.trans (hb.mono HB1.out.size))
  have HP2 := Lib.hid (HP1.out.next hb)
  have HR2 := Lib.hid (HR1.out.next hb)
  clear hb
  obtain ⟨⟨r0, r1, r2, r3⟩, -⟩ := HR2.out.c4
  go_wp2_with fail
  refine (HN1.out _ HB2.out).mono ?_
  rintro e w9 ⟨rfl, hb⟩
  have HBW := Lib.hid (HB2.out.trans (hb.mono HB2.out.size))
  have HP9 := Lib.hid (HP2.out.next hb)
  have HR9 := Lib.hid (HR2.out.next hb)
  clear hb r0 r1 r2 r3
  have HSS : Hid (∀ W, Below w9.heap.size w9 W → W.cell? ⟨w.heap.size, 0, none⟩ = some (.int .i64 p) ∧ W.cell? ⟨w.heap.size, 1, none⟩ = some (.int .i64 q) ∧ W.cell? ⟨w.heap.size + 1, 0, none⟩ = some (.int .i64 r.x) ∧ W.cell? ⟨w.heap.size + 1, 1, none⟩ = some (.int .i64 r.y) ∧ W.cell? ⟨w.heap.size + 1, 2, none⟩ = some (.int .i64 r.w) ∧ W.cell? ⟨w.heap.size + 1, 3, none⟩ = some (.int .i64 r.h)) := fun W h => by
    obtain ⟨⟨p0, p1⟩, -⟩ := (HP9.out.next h).c2
    obtain ⟨⟨r0, r1, r2, r3⟩, -⟩ := (HR9.out.next h).c4
    exact ⟨p0, p1, r0, r1, r2, r3⟩
  have HBd := Lib.hid (Below.refl w9.heap.size w9).drew
  have HMX : ∀ z : Int, ((if z < 0 then 0 else z) == max z 0) = true := fun z => by rw [beq_iff_eq]; split <;> omega
  obtain ⟨ma, hma⟩ : ∃ m, m = max a 0 := ⟨_, rfl⟩
  obtain ⟨mb, hmb⟩ : ∃ m, m = max b 0 := ⟨_, rfl⟩
  obtain ⟨mc, hmc⟩ : ∃ m, m = max c 0 := ⟨_, rfl⟩
  go_upto_region 4 with fail
  refine wp_region_noPanic ?_
  refine wp_region_held_drew (S := fun wx => wx.cell? ⟨w.heap.size, 0, none⟩ = some (.int .i64 p) ∧ wx.cell? ⟨w.heap.size, 1, none⟩ = some (.int .i64 q) ∧ wx.cell? ⟨w.heap.size + 1, 0, none⟩ = some (.int .i64 r.x) ∧ wx.cell? ⟨w.heap.size + 1, 1, none⟩ = some (.int .i64 r.y) ∧ wx.cell? ⟨w.heap.size + 1, 2, none⟩ = some (.int .i64 r.w) ∧ wx.cell? ⟨w.heap.size + 1, 3, none⟩ = some (.int .i64 r.h)) (by kernel_rfl) (by exact HSS.out _ HBd.out) (fun hHeld => ?_)
  refine wpAnyH_take (i := 0) (v := ?vf0) rfl (by kernel_rfl) (by kernel_rfl) (by kernel_rfl) (fun _ _ _ h => h) (Or.inl ⟨by kernel_rfl, ?yf0⟩) (by assumption) ?rf0
  case yf0 => (intro wq hSw; (try dsimp only at hSw); go_simp; (try with_reducible rfl))
  (try simp only [Act.put, List.getElem_toArray, List.getElem_cons_zero, List.setIfInBounds_toArray, List.set_cons_zero, List.set_cons_succ])
  refine wpAnyH_take (i := 1) (v := ?vf1) rfl (by kernel_rfl) (by kernel_rfl) (by kernel_rfl) (fun _ _ _ h => h) (Or.inl ⟨by kernel_rfl, ?yf1⟩) (by assumption) ?rf1
  case yf1 => (intro wq hSw; (try dsimp only at hSw); go_simp; (try with_reducible rfl))
  (try simp only [Act.put, List.getElem_toArray, List.getElem_cons_succ, List.getElem_cons_zero, List.setIfInBounds_toArray, List.set_cons_zero, List.set_cons_succ])
  refine wpAnyH_take (i := 3) (v := ?vf3) rfl (by kernel_rfl) (by kernel_rfl) (by kernel_rfl) (fun _ _ _ h => h) (Or.inl ⟨by kernel_rfl, ?yf3⟩) (by assumption) ?rf3
  case yf3 => (intro wq hSw; (try dsimp only at hSw); go_simp; (try with_reducible rfl))
  (try simp only [Act.put, List.getElem_toArray, List.getElem_cons_succ, List.getElem_cons_zero, List.setIfInBounds_toArray, List.set_cons_zero, List.set_cons_succ])
  refine wpAnyH_take (i := 4) (v := ?vf4) rfl (by kernel_rfl) (by kernel_rfl) (by kernel_rfl) (fun _ _ _ h => h) (Or.inl ⟨by kernel_rfl, ?yf4⟩) (by assumption) ?rf4
  case yf4 => (intro wq hSw; (try dsimp only at hSw); go_simp; (try with_reducible rfl))
  (try simp only [Act.put, List.getElem_toArray, List.getElem_cons_succ, List.getElem_cons_zero, List.setIfInBounds_toArray, List.set_cons_zero, List.set_cons_succ])
  refine wpAnyH_take (i := 6) (v := ?vf6) rfl (by kernel_rfl) (by kernel_rfl) (by kernel_rfl) (fun _ _ _ h => h) (Or.inl ⟨by kernel_rfl, ?yf6⟩) (by assumption) ?rf6
  case yf6 => (intro wq hSw; (try dsimp only at hSw); go_simp; (try with_reducible rfl))
  (try simp only [Act.put, List.getElem_toArray, List.getElem_cons_succ, List.getElem_cons_zero, List.setIfInBounds_toArray, List.set_cons_zero, List.set_cons_succ])
  refine wpAnyH_take (i := 7) (v := ?vf7) rfl (by kernel_rfl) (by kernel_rfl) (by kernel_rfl) (fun _ _ _ h => h) (Or.inl ⟨by kernel_rfl, ?yf7⟩) (by assumption) ?rf7
  case yf7 => (intro wq hSw; (try dsimp only at hSw); go_simp; (try with_reducible rfl))
  (try simp only [Act.put, List.getElem_toArray, List.getElem_cons_succ, List.getElem_cons_zero, List.setIfInBounds_toArray, List.set_cons_zero, List.set_cons_succ])
  refine wpAnyH_ready (rs := [2]) (by kernel_rfl) (by simp) ?_
  refine AllReadyH.cons rfl (fun K hK => ?_) AllReadyH.nil
  go_simp
  refine (HA2.out _ (HBW.out.trans (HBd.out.mono HBW.out.size))).mono ?_
  rintro ex w3 ⟨rfl, hb⟩; have HB3 := Lib.hid (HBd.out.trans (hb.mono HBd.out.size)); have hS3 : w3.cell? ⟨w.heap.size, 0, none⟩ = some (.int .i64 p) ∧ w3.cell? ⟨w.heap.size, 1, none⟩ = some (.int .i64 q) ∧ w3.cell? ⟨w.heap.size + 1, 0, none⟩ = some (.int .i64 r.x) ∧ w3.cell? ⟨w.heap.size + 1, 1, none⟩ = some (.int .i64 r.y) ∧ w3.cell? ⟨w.heap.size + 1, 2, none⟩ = some (.int .i64 r.w) ∧ w3.cell? ⟨w.heap.size + 1, 3, none⟩ = some (.int .i64 r.h) := HSS.out _ HB3.out; clear hb
  (try dsimp only)
  refine hK.out _ _ (by exact hS3) (fun hHeld => ?_)
  clear hK K
  (try simp only [Act.put, List.getElem_toArray, List.getElem_cons_succ, List.getElem_cons_zero, List.setIfInBounds_toArray, List.set_cons_zero, List.set_cons_succ])
  refine wpAnyH_ready (rs := [5]) (by kernel_rfl) (by simp) ?_
  refine AllReadyH.cons rfl (fun K hK => ?_) AllReadyH.nil
  go_simp
  refine (HF2.out _ (HBW.out.trans (HB3.out.mono HBW.out.size))).mono ?_
  rintro ex w4 ⟨rfl, hb⟩; obtain rfl := hb
  (try dsimp only)
  refine hK.out _ _ (by exact hS3) (fun hHeld => ?_)
  clear hK K
  (try simp only [Act.put, List.getElem_toArray, List.getElem_cons_succ, List.getElem_cons_zero, List.setIfInBounds_toArray, List.set_cons_zero, List.set_cons_succ])
  refine wpAnyH_ready (rs := [8]) (by kernel_rfl) (by simp) ?_
  refine AllReadyH.cons rfl (fun K hK => ?_) AllReadyH.nil
  go_simp
  refine (HN2.out _ (HBW.out.trans (HB3.out.mono HBW.out.size))).mono ?_
  rintro ex w5 ⟨rfl, hb⟩; have HB5 := Lib.hid (HB3.out.trans (hb.mono HB3.out.size)); have hS5 : w5.cell? ⟨w.heap.size, 0, none⟩ = some (.int .i64 p) ∧ w5.cell? ⟨w.heap.size, 1, none⟩ = some (.int .i64 q) ∧ w5.cell? ⟨w.heap.size + 1, 0, none⟩ = some (.int .i64 r.x) ∧ w5.cell? ⟨w.heap.size + 1, 1, none⟩ = some (.int .i64 r.y) ∧ w5.cell? ⟨w.heap.size + 1, 2, none⟩ = some (.int .i64 r.w) ∧ w5.cell? ⟨w.heap.size + 1, 3, none⟩ = some (.int .i64 r.h) := HSS.out _ HB5.out; clear hb
  (try dsimp only)
  refine hK.out _ _ (by exact hS5) (fun hHeld => ?_)
  clear hK K
  (try simp only [Act.put, List.getElem_toArray, List.getElem_cons_succ, List.getElem_cons_zero, List.setIfInBounds_toArray, List.set_cons_zero, List.set_cons_succ])
  refine wpAnyH_take (i := 9) (v := ?vf9) rfl (by kernel_rfl) (by kernel_rfl) (by kernel_rfl) (fun _ _ _ h => h) (Or.inl ⟨by kernel_rfl, ?yf9⟩) (by assumption) ?rf9
  case yf9 => (intro wq hSw; (try dsimp only at hSw); go_simp; (try with_reducible rfl))
  (try simp only [Act.put, List.getElem_toArray, List.getElem_cons_succ, List.getElem_cons_zero, List.setIfInBounds_toArray, List.set_cons_zero, List.set_cons_succ])
  refine wpAnyH_take (i := 10) (v := ?vf10) rfl (by kernel_rfl) (by kernel_rfl) (by kernel_rfl) (fun _ _ _ h => h) (Or.inl ⟨by kernel_rfl, ?yf10⟩) (by assumption) ?rf10
  case yf10 => (intro wq hSw; (try dsimp only at hSw); go_simp; (try with_reducible rfl))
  (try simp only [Act.put, List.getElem_toArray, List.getElem_cons_succ, List.getElem_cons_zero, List.setIfInBounds_toArray, List.set_cons_zero, List.set_cons_succ])
  refine wpAnyH_take (i := 11) (v := ?vf11) rfl (by kernel_rfl) (by kernel_rfl) (by kernel_rfl) (fun _ _ _ h => h) (Or.inl ⟨by kernel_rfl, ?yf11⟩) (by assumption) ?rf11
  case yf11 => (intro wq hSw; (try dsimp only at hSw); go_simp; (try with_reducible rfl))
  (try simp only [Act.put, List.getElem_toArray, List.getElem_cons_succ, List.getElem_cons_zero, List.setIfInBounds_toArray, List.set_cons_zero, List.set_cons_succ])
  refine wpAnyH_done (by kernel_rfl) ?_ _
  refine NoPanic.normal ?_
  have HB9 := Lib.hid (HBW.out.trans (HB5.out.mono HBW.out.size))
  clear hS5 hS3 hHeld HSS
  rcases (show 0 ≤ a ∨ a < 0 by omega) with ga | ga <;> rcases (show 0 ≤ b ∨ b < 0 by omega) with gb | gb <;> rcases (show 0 ≤ c ∨ c < 0 by omega) with gc | gc
  all_goals
    have ea := Int.max_def a 0
    have eb := Int.max_def b 0
    have ec := Int.max_def c 0
    (first | rw [Int.max_eq_left ga] | rw [Int.max_eq_right (Int.le_of_lt ga)])
    (first | rw [Int.max_eq_left gb] | rw [Int.max_eq_right (Int.le_of_lt gb)])
    (first | rw [Int.max_eq_left gc] | rw [Int.max_eq_right (Int.le_of_lt gc)])
    clear ea eb ec hma hmb hmc HMX
    go_wp2_with fail
    refine (awake_c _).mono ?_
    rintro e w6 ⟨rfl, hb⟩
    have hb6 := HB9.out.trans (hb.mono HB9.out.size)
    clear hb
    go_wp2_with fail
    go_ret
    exact ⟨rfl, hb6⟩
end Go.Proofs.Yteaeccmlibmmmaa.Ar
