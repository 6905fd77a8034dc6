/- area's calls that look for the nearest screen, walked. -/
import Derived.Test.YteaeccmlibmmmaaArC
namespace Go.Proofs.Yteaeccmlibmmmaa.Ar
open Go.RowKit Go.Shelf
theorem right_in {x y a b : Int} (h : rightB x y a b = true) : -32768 ≤ x ∧ x ≤ 32767 ∧ 0 ≤ a ∧ x + a ≤ 32768 ∧ -32768 ≤ y ∧ y ≤ 32767 ∧ 0 ≤ b ∧ y + b ≤ 32768 := by
  unfold rightB planeB at h
  simp only [Bool.and_eq_true, decide_eq_true_eq] at h
  omega
theorem gap_in {a b c d : Int} (h1 : -32768 ≤ a ∧ a ≤ 32768) (h2 : -32768 ≤ b ∧ b ≤ 32768) (h3 : -32768 ≤ c ∧ c ≤ 32768) (h4 : -32768 ≤ d ∧ d ≤ 32768) : 0 ≤ gapI a b c d ∧ gapI a b c d ≤ 65536 := by
  unfold gapI; omega
theorem sq_in {a : Int} (h1 : 0 ≤ a) (h2 : a ≤ 65536) : 0 ≤ a * a ∧ a * a ≤ 4294967296 := by
  refine ⟨Int.mul_nonneg h1 h1, ?_⟩
  have := Int.mul_le_mul h2 h2 h1 (by decide : (0 : Int) ≤ 65536)
  omega
set_option maxHeartbeats 2000000 in
theorem away_c (o : Out) (r : Rc) (w : World) (ho : rightB o.x o.y o.w o.h = true) (hr : rightB r.x r.y r.w r.h = true) :
    Calls Try.prog 61 #[.agg #[.int .i64 o.x, .int .i64 o.y, .int .i64 o.w, .int .i64 o.h], rcV r] w fun e w' => e = .returned (.int .i64 (awayI o r)) ∧ Below w.heap.size w w' := by
  obtain ⟨o1, o2, o3, o4, o5, o6, o7, o8⟩ := right_in ho
  obtain ⟨r1, r2, r3, r4, r5, r6, r7, r8⟩ := right_in hr
  have HX := Lib.hid (fun W => gap_c o.x (o.x + o.w) r.x (r.x + r.w) W (by omega) (by omega) (by omega) (by omega))
  have HY := Lib.hid (fun W => gap_c o.y (o.y + o.h) r.y (r.y + r.h) W (by omega) (by omega) (by omega) (by omega))
  have hgx := gap_in (a := o.x) (b := o.x + o.w) (c := r.x) (d := r.x + r.w) (by omega) (by omega) (by omega) (by omega)
  have hgy := gap_in (a := o.y) (b := o.y + o.h) (c := r.y) (d := r.y + r.h) (by omega) (by omega) (by omega) (by omega)
  have e1 : IntKind.i64.wrap (o.x + o.w) = o.x + o.w := IntWalk.i64_in _ (by omega)
  have e2 : IntKind.i64.wrap (o.y + o.h) = o.y + o.h := IntWalk.i64_in _ (by omega)
  have e3 : IntKind.i64.wrap (r.x + r.w) = r.x + r.w := IntWalk.i64_in _ (by omega)
  have e4 : IntKind.i64.wrap (r.y + r.h) = r.y + r.h := IntWalk.i64_in _ (by omega)
  have HA : Hid (awayI o r = gapI o.x (o.x + o.w) r.x (r.x + r.w) * gapI o.x (o.x + o.w) r.x (r.x + r.w) + gapI o.y (o.y + o.h) r.y (r.y + r.h) * gapI o.y (o.y + o.h) r.y (r.y + r.h)) := rfl
  obtain ⟨gx, hx⟩ : ∃ g, g = gapI o.x (o.x + o.w) r.x (r.x + r.w) := ⟨_, rfl⟩
  obtain ⟨gy, hy⟩ : ∃ g, g = gapI o.y (o.y + o.h) r.y (r.y + r.h) := ⟨_, rfl⟩
  rw [← hx] at HX HA hgx
  rw [← hy] at HY HA hgy
  obtain ⟨s1, s2⟩ := sq_in hgx.1 hgx.2
  obtain ⟨s3, s4⟩ := sq_in hgy.1 hgy.2
  have e5 : IntKind.i64.wrap (gx * gx) = gx * gx := IntWalk.i64_in _ (by omega)
  have e6 : IntKind.i64.wrap (gy * gy) = gy * gy := IntWalk.i64_in _ (by omega)
  have e7 : IntKind.i64.wrap (gx * gx + gy * gy) = gx * gx + gy * gy := IntWalk.i64_in _ (by omega)
  clear hx hy o1 o2 o3 o4 o5 o6 o7 o8 r1 r2 r3 r4 r5 r6 r7 r8 hgx hgy s1 s2 s3 s4 ho hr
  go_enter Try.func61, Try.ntmps61
  go_wp2_with (first | (go_at_call 66; ((with_reducible refine (HX.out _).mono ?_); rintro e w1 ⟨rfl, rfl⟩)) | (go_at_call 66; ((with_reducible refine (HY.out _).mono ?_); rintro e w1 ⟨rfl, rfl⟩)))
  go_ret
  exact ⟨by rw [HA.out]; rfl, ((Below.refl w.heap.size w).alloc (Nat.le_refl _) _).alloc (by simp) _⟩
/-- The first of the greatest, of so many. -/
def bst (f : Out → Int) (l : List Out) : Nat → Nat
  | 0 => 0
  | k + 1 => match l[k]?, l[bst f l k]? with
    | some o, some b => if f b < f o then k else bst f l k
    | _, _ => bst f l k
theorem bst_lt (f : Out → Int) (l : List Out) (h : 0 < l.length) : ∀ k, bst f l k < l.length := by
  intro k
  induction k with
  | zero => exact h
  | succ k ih =>
    simp only [bst]
    split
    · rename_i o b h1 h2
      split
      · exact (List.getElem?_eq_some_iff.1 h1).1
      · exact ih
    · exact ih
theorem bst_step {f : Out → Int} {l : List Out} {k : Nat} {o b : Out} (h1 : l[k]? = some o) (h2 : l[bst f l k]? = some b) : bst f l (k + 1) = if f b < f o then k else bst f l k := by
  simp only [bst, h1, h2]
set_option maxHeartbeats 4000000 in
theorem fullest_c (v : Value) (l : List Out) (r : Rc) (w : World) (hR : RdK encO 5 w v l) (hn : l.length ≤ 9223372036854775807) (h0 : 0 < l.length) :
    Calls Try.prog 40 #[v, rcV r] w fun e w' => e = .returned (.int .i64 (bst (fun o => sharedI o r) l l.length : Nat)) ∧ Below w.heap.size w w' := by
  obtain ⟨p, c, rfl, hcell⟩ := hR
  have HC := Lib.hid hcell
  obtain ⟨f, hf⟩ : ∃ f : Out → Int, f = fun o => sharedI o r := ⟨_, rfl⟩
  rw [← hf]
  have HS := Lib.hid (fun o W => shared_c o r W)
  have HL := Lib.hid (bst_lt f l h0)
  obtain ⟨n, hln⟩ : ∃ n, n = l.length := ⟨_, rfl⟩
  rw [← hln] at hn ⊢
  have HN := Lib.hid hln
  have hq := Lib.hid (Blk.new w 29 (RcC r))
  have hb0 := Lib.hid ((Below.refl w.heap.size w).alloc (Nat.le_refl _) (.cells (RcC r) 29))
  have HF := Lib.hid hf
  clear hcell hln h0 hf
  go_enter Try.func40, Try.ntmps40
  go_upto_region 3 with fail
  have hB0 := hb0.out
  have hQ0 := hq.out
  clear hb0 hq
  go_loopw [5, 10] (fun bz z wr => ∃ k : Nat, k ≤ n ∧ z = .int .i64 k ∧ bz = .int .i64 (bst f l k : Nat) ∧ Below w.heap.size w wr ∧ Blk wr w.heap.size 29 (RcC r)) (fun _ z _ => n - (intOf z).toNat)
  case atStart => exact ⟨0, Nat.zero_le _, rfl, rfl, hB0, hQ0⟩
  case round =>
    clear hB0 hQ0
    obtain ⟨k, hk, rfl, rfl, hB, hQ⟩ := hrel
    by_cases hlt : k < n
    · obtain ⟨x, hx⟩ : ∃ x, l[k]? = some x := ⟨_, List.getElem?_eq_getElem (by rw [← HN.out]; exact hlt)⟩
      have hml := HL.out k
      obtain ⟨y, hy⟩ : ∃ y, l[bst f l k]? = some y := ⟨_, List.getElem?_eq_getElem hml⟩
      have hst := bst_step hx hy
      obtain ⟨m, hm⟩ : ∃ m, m = bst f l k := ⟨_, rfl⟩
      rw [← hm] at hml hy hst ⊢
      obtain ⟨b, o, rfl, hb1, hb2⟩ := HC.out k x hx
      obtain ⟨b', o', e9, hb3, hb4⟩ := HC.out m y hy
      obtain ⟨rfl, rfl⟩ : b = b' ∧ o = o' := by injection e9 with e9; injection e9 with e1 e2; exact ⟨e1, e2⟩
      obtain ⟨r0, r1, r2, r3, r4⟩ := RdK.out (w := wr) (fun i u hu => (hB.cell (p := ⟨b, o + k * 5 + i, none⟩) hb1).trans (hb2 i u hu))
      have hmn : m < n := by rw [HN.out]; exact hml
      have hi0 : (0 : Int) ≤ (k : Int) := by omega
      have hi1 : (k : Int) < (n : Int) := by omega
      have hj0 : (0 : Int) ≤ (m : Int) := by omega
      have hj1 : (m : Int) < (n : Int) := by omega
      have hxp := List.mem_of_getElem? hx
      have hyp := List.mem_of_getElem? hy
      obtain ⟨v, hv⟩ : ∃ v, v = wr.alloc (OutB x) := ⟨_, rfl⟩
      have hbv : Below wr.heap.size wr v := by rw [hv]; exact (Below.refl _ _).alloc (Nat.le_refl _) _
      have hqv : Blk v wr.heap.size 31 (OutC x) := by rw [hv]; exact Blk.new _ _ _
      have hqr := hQ.next hbv
      have hsv : v.cell? ⟨wr.heap.size, 0, none⟩ = some (.string x.n) ∧ v.cell? ⟨wr.heap.size, 1, none⟩ = some (.int .i64 x.x) ∧ v.cell? ⟨wr.heap.size, 2, none⟩ = some (.int .i64 x.y) ∧ v.cell? ⟨wr.heap.size, 3, none⟩ = some (.int .i64 x.w) ∧ v.cell? ⟨wr.heap.size, 4, none⟩ = some (.int .i64 x.h) ∧ v.cell? ⟨w.heap.size, 0, none⟩ = some (.int .i64 r.x) ∧ v.cell? ⟨w.heap.size, 1, none⟩ = some (.int .i64 r.y) ∧ v.cell? ⟨w.heap.size, 2, none⟩ = some (.int .i64 r.w) ∧ v.cell? ⟨w.heap.size, 3, none⟩ = some (.int .i64 r.h) ∧ v.cell? ⟨b, o + m * 5, none⟩ = some (.string y.n) ∧ v.cell? ⟨b, o + m * 5 + 1, none⟩ = some (.int .i64 y.x) ∧ v.cell? ⟨b, o + m * 5 + 2, none⟩ = some (.int .i64 y.y) ∧ v.cell? ⟨b, o + m * 5 + 3, none⟩ = some (.int .i64 y.w) ∧ v.cell? ⟨b, o + m * 5 + 4, none⟩ = some (.int .i64 y.h) := by
        have hyc := RdK.out (w := v) (fun i u hu => ((hB.trans (hbv.mono hB.size)).cell (p := ⟨b, o + m * 5 + i, none⟩) hb1).trans (hb4 i u hu))
        obtain ⟨y0, y1, y2, y3, y4⟩ := hyc
        exact ⟨hqv.at_ (i := 0) rfl, hqv.at_ (i := 1) rfl, hqv.at_ (i := 2) rfl, hqv.at_ (i := 3) rfl, hqv.at_ (i := 4) rfl, hqr.at_ (i := 0) rfl, hqr.at_ (i := 1) rfl, hqr.at_ (i := 2) rfl, hqr.at_ (i := 3) rfl, y0, y1, y2, y3, y4⟩
      have hlx := hqv.lt
      have hlr := hqr.lt
      have hly : b < v.heap.size := Nat.lt_of_lt_of_le hb1 (hB.trans (hbv.mono hB.size)).size
      have HSS : Hid (∀ W, Below v.heap.size v W → W.cell? ⟨wr.heap.size, 0, none⟩ = some (.string x.n) ∧ W.cell? ⟨wr.heap.size, 1, none⟩ = some (.int .i64 x.x) ∧ W.cell? ⟨wr.heap.size, 2, none⟩ = some (.int .i64 x.y) ∧ W.cell? ⟨wr.heap.size, 3, none⟩ = some (.int .i64 x.w) ∧ W.cell? ⟨wr.heap.size, 4, none⟩ = some (.int .i64 x.h) ∧ W.cell? ⟨w.heap.size, 0, none⟩ = some (.int .i64 r.x) ∧ W.cell? ⟨w.heap.size, 1, none⟩ = some (.int .i64 r.y) ∧ W.cell? ⟨w.heap.size, 2, none⟩ = some (.int .i64 r.w) ∧ W.cell? ⟨w.heap.size, 3, none⟩ = some (.int .i64 r.h) ∧ W.cell? ⟨b, o + m * 5, none⟩ = some (.string y.n) ∧ W.cell? ⟨b, o + m * 5 + 1, none⟩ = some (.int .i64 y.x) ∧ W.cell? ⟨b, o + m * 5 + 2, none⟩ = some (.int .i64 y.y) ∧ W.cell? ⟨b, o + m * 5 + 3, none⟩ = some (.int .i64 y.w) ∧ W.cell? ⟨b, o + m * 5 + 4, none⟩ = some (.int .i64 y.h)) := fun W h => by
        obtain ⟨a0, a1, a2, a3, a4, a5, a6, a7, a8, a9, a10, a11, a12, a13⟩ := hsv
        exact ⟨(h.cell (p := ⟨_, _, none⟩) hlx).trans a0, (h.cell (p := ⟨_, _, none⟩) hlx).trans a1, (h.cell (p := ⟨_, _, none⟩) hlx).trans a2, (h.cell (p := ⟨_, _, none⟩) hlx).trans a3, (h.cell (p := ⟨_, _, none⟩) hlx).trans a4, (h.cell (p := ⟨_, _, none⟩) hlr).trans a5, (h.cell (p := ⟨_, _, none⟩) hlr).trans a6, (h.cell (p := ⟨_, _, none⟩) hlr).trans a7, (h.cell (p := ⟨_, _, none⟩) hlr).trans a8, (h.cell (p := ⟨_, _, none⟩) hly).trans a9, (h.cell (p := ⟨_, _, none⟩) hly).trans a10, (h.cell (p := ⟨_, _, none⟩) hly).trans a11, (h.cell (p := ⟨_, _, none⟩) hly).trans a12, (h.cell (p := ⟨_, _, none⟩) hly).trans a13⟩
      have HBV := Lib.hid (hB.trans (hbv.mono hB.size))
      have HQV := Lib.hid hqr
      have HB1 := Lib.hid (Below.refl v.heap.size v).drew
      have HVV := Lib.hid hv
      have hst2 : bst f l (k + 1) = if sharedI y r < sharedI x r then k else m := by rw [hst, HF.out]
      have HST := Lib.hid hst2
      clear hst hst2 hbv hqv hqr hsv hlx hlr hly hv hx hy hm hml hmn hxp hyp hb1 hb2 hb3 hb4 e9 HC HL hB hQ
      go_upto_region 5 with fail
      rw [← HVV.out]
      refine wp_region_noPanic ?_
      refine wp_region_held_drew (S := fun wx => wx.cell? ⟨wr.heap.size, 0, none⟩ = some (.string x.n) ∧ wx.cell? ⟨wr.heap.size, 1, none⟩ = some (.int .i64 x.x) ∧ wx.cell? ⟨wr.heap.size, 2, none⟩ = some (.int .i64 x.y) ∧ wx.cell? ⟨wr.heap.size, 3, none⟩ = some (.int .i64 x.w) ∧ wx.cell? ⟨wr.heap.size, 4, none⟩ = some (.int .i64 x.h) ∧ wx.cell? ⟨w.heap.size, 0, none⟩ = some (.int .i64 r.x) ∧ wx.cell? ⟨w.heap.size, 1, none⟩ = some (.int .i64 r.y) ∧ wx.cell? ⟨w.heap.size, 2, none⟩ = some (.int .i64 r.w) ∧ wx.cell? ⟨w.heap.size, 3, none⟩ = some (.int .i64 r.h) ∧ wx.cell? ⟨b, o + m * 5, none⟩ = some (.string y.n) ∧ wx.cell? ⟨b, o + m * 5 + 1, none⟩ = some (.int .i64 y.x) ∧ wx.cell? ⟨b, o + m * 5 + 2, none⟩ = some (.int .i64 y.y) ∧ wx.cell? ⟨b, o + m * 5 + 3, none⟩ = some (.int .i64 y.w) ∧ wx.cell? ⟨b, o + m * 5 + 4, none⟩ = some (.int .i64 y.h)) (by kernel_rfl) (by exact HSS.out _ HB1.out) (fun hHeld => ?_)
      refine wpAnyH_take (i := 0) (v := ?v0) rfl (by kernel_rfl) (by kernel_rfl) (by kernel_rfl) (fun _ _ _ h => h) (Or.inl ⟨by kernel_rfl, ?y0⟩) (by assumption) ?r0
      case y0 => (intro wq hSw; (try dsimp only at hSw); go_simp; (try with_reducible rfl))
      (try simp only [Act.put, List.getElem_toArray, List.getElem_cons_zero, List.setIfInBounds_toArray, List.set_cons_zero, List.set_cons_succ])
      refine wpAnyH_take (i := 1) (v := ?v1) rfl (by kernel_rfl) (by kernel_rfl) (by kernel_rfl) (fun _ _ _ h => h) (Or.inl ⟨by kernel_rfl, ?y1⟩) (by assumption) ?r1
      case y1 => (intro wq hSw; (try dsimp only at hSw); go_simp; (try with_reducible rfl))
      (try simp only [Act.put, List.getElem_toArray, List.getElem_cons_succ, List.getElem_cons_zero, List.setIfInBounds_toArray, List.set_cons_zero, List.set_cons_succ])
      refine wpAnyH_take (i := 3) (v := ?v3) rfl (by kernel_rfl) (by kernel_rfl) (by kernel_rfl) (fun _ _ _ h => h) (Or.inl ⟨by kernel_rfl, ?y3⟩) (by assumption) ?r3
      case y3 => (intro wq hSw; (try dsimp only at hSw); go_simp; (try with_reducible rfl))
      (try simp only [Act.put, List.getElem_toArray, List.getElem_cons_succ, List.getElem_cons_zero, List.setIfInBounds_toArray, List.set_cons_zero, List.set_cons_succ])
      refine wpAnyH_take (i := 4) (v := ?v4) rfl (by kernel_rfl) (by kernel_rfl) (by kernel_rfl) (fun _ _ _ h => h) (Or.inl ⟨by kernel_rfl, ?y4⟩) (by assumption) ?r4
      case y4 => (intro wq hSw; (try dsimp only at hSw); go_simp; (try with_reducible rfl))
      (try simp only [Act.put, List.getElem_toArray, List.getElem_cons_succ, List.getElem_cons_zero, List.setIfInBounds_toArray, List.set_cons_zero, List.set_cons_succ])
      refine wpAnyH_take (i := 5) (v := ?v5) rfl (by kernel_rfl) (by kernel_rfl) (by kernel_rfl) (fun _ _ _ h => h) (Or.inl ⟨by kernel_rfl, ?y5⟩) (by assumption) ?r5
      case y5 => (intro wq hSw; (try dsimp only at hSw); go_simp; (try with_reducible rfl))
      (try simp only [Act.put, List.getElem_toArray, List.getElem_cons_succ, List.getElem_cons_zero, List.setIfInBounds_toArray, List.set_cons_zero, List.set_cons_succ])
      refine wpAnyH_take (i := 6) (v := ?v6) rfl (by kernel_rfl) (by kernel_rfl) (by kernel_rfl) (fun _ _ _ h => h) (Or.inl ⟨by kernel_rfl, ?y6⟩) (by assumption) ?r6
      case y6 => (intro wq hSw; (try dsimp only at hSw); go_simp; (try with_reducible rfl))
      (try simp only [Act.put, List.getElem_toArray, List.getElem_cons_succ, List.getElem_cons_zero, List.setIfInBounds_toArray, List.set_cons_zero, List.set_cons_succ])
      refine wpAnyH_take (i := 7) (v := ?v7) rfl (by kernel_rfl) (by kernel_rfl) (by kernel_rfl) (fun _ _ _ h => h) (Or.inl ⟨by kernel_rfl, ?y7⟩) (by assumption) ?r7
      case y7 => (intro wq hSw; (try dsimp only at hSw); go_simp; (try with_reducible rfl))
      (try simp only [Act.put, List.getElem_toArray, List.getElem_cons_succ, List.getElem_cons_zero, List.setIfInBounds_toArray, List.set_cons_zero, List.set_cons_succ])
      refine wpAnyH_ready (rs := [2]) (by kernel_rfl) (by simp) ?_
      refine AllReadyH.cons rfl (fun K hK => ?_) AllReadyH.nil
      go_simp
      refine (HS.out x _).mono ?_
      rintro ex w2 ⟨rfl, hb⟩; have HB2 := Lib.hid (HB1.out.trans (hb.mono HB1.out.size)); have hS2 : w2.cell? ⟨wr.heap.size, 0, none⟩ = some (.string x.n) ∧ w2.cell? ⟨wr.heap.size, 1, none⟩ = some (.int .i64 x.x) ∧ w2.cell? ⟨wr.heap.size, 2, none⟩ = some (.int .i64 x.y) ∧ w2.cell? ⟨wr.heap.size, 3, none⟩ = some (.int .i64 x.w) ∧ w2.cell? ⟨wr.heap.size, 4, none⟩ = some (.int .i64 x.h) ∧ w2.cell? ⟨w.heap.size, 0, none⟩ = some (.int .i64 r.x) ∧ w2.cell? ⟨w.heap.size, 1, none⟩ = some (.int .i64 r.y) ∧ w2.cell? ⟨w.heap.size, 2, none⟩ = some (.int .i64 r.w) ∧ w2.cell? ⟨w.heap.size, 3, none⟩ = some (.int .i64 r.h) ∧ w2.cell? ⟨b, o + m * 5, none⟩ = some (.string y.n) ∧ w2.cell? ⟨b, o + m * 5 + 1, none⟩ = some (.int .i64 y.x) ∧ w2.cell? ⟨b, o + m * 5 + 2, none⟩ = some (.int .i64 y.y) ∧ w2.cell? ⟨b, o + m * 5 + 3, none⟩ = some (.int .i64 y.w) ∧ w2.cell? ⟨b, o + m * 5 + 4, none⟩ = some (.int .i64 y.h) := HSS.out _ HB2.out; clear hb
      (try dsimp only)
      refine hK.out _ _ (by exact hS2) (fun hHeld => ?_)
      clear hK K
      (try simp only [Act.put, List.getElem_toArray, List.getElem_cons_succ, List.getElem_cons_zero, List.setIfInBounds_toArray, List.set_cons_zero, List.set_cons_succ])
      refine wpAnyH_ready (rs := [8]) (by kernel_rfl) (by simp) ?_
      refine AllReadyH.cons rfl (fun K hK => ?_) AllReadyH.nil
      go_simp
      refine (HS.out y _).mono ?_
      rintro ex w3 ⟨rfl, hb⟩; have HB3 := Lib.hid (HB2.out.trans (hb.mono HB2.out.size)); have hS3 : w3.cell? ⟨wr.heap.size, 0, none⟩ = some (.string x.n) ∧ w3.cell? ⟨wr.heap.size, 1, none⟩ = some (.int .i64 x.x) ∧ w3.cell? ⟨wr.heap.size, 2, none⟩ = some (.int .i64 x.y) ∧ w3.cell? ⟨wr.heap.size, 3, none⟩ = some (.int .i64 x.w) ∧ w3.cell? ⟨wr.heap.size, 4, none⟩ = some (.int .i64 x.h) ∧ w3.cell? ⟨w.heap.size, 0, none⟩ = some (.int .i64 r.x) ∧ w3.cell? ⟨w.heap.size, 1, none⟩ = some (.int .i64 r.y) ∧ w3.cell? ⟨w.heap.size, 2, none⟩ = some (.int .i64 r.w) ∧ w3.cell? ⟨w.heap.size, 3, none⟩ = some (.int .i64 r.h) ∧ w3.cell? ⟨b, o + m * 5, none⟩ = some (.string y.n) ∧ w3.cell? ⟨b, o + m * 5 + 1, none⟩ = some (.int .i64 y.x) ∧ w3.cell? ⟨b, o + m * 5 + 2, none⟩ = some (.int .i64 y.y) ∧ w3.cell? ⟨b, o + m * 5 + 3, none⟩ = some (.int .i64 y.w) ∧ w3.cell? ⟨b, o + m * 5 + 4, none⟩ = some (.int .i64 y.h) := HSS.out _ HB3.out; clear hb
      (try dsimp only)
      refine hK.out _ _ (by exact hS3) (fun hHeld => ?_)
      clear hK K
      (try simp only [Act.put, List.getElem_toArray, List.getElem_cons_succ, List.getElem_cons_zero, List.setIfInBounds_toArray, List.set_cons_zero, List.set_cons_succ])
      refine wpAnyH_take (i := 9) (v := ?v9) rfl (by kernel_rfl) (by kernel_rfl) (by kernel_rfl) (fun _ _ _ h => h) (Or.inl ⟨by kernel_rfl, ?y9⟩) (by assumption) ?r9
      case y9 => (intro wq hSw; (try dsimp only at hSw); go_simp; (try with_reducible rfl))
      (try simp only [Act.put, List.getElem_toArray, List.getElem_cons_succ, List.getElem_cons_zero, List.setIfInBounds_toArray, List.set_cons_zero, List.set_cons_succ])
      refine wpAnyH_done (by kernel_rfl) ?_ _
      refine NoPanic.normal ?_
      by_cases hc : sharedI y r < sharedI x r
      · have HE := Lib.hid (HST.out.trans (if_pos hc))
        go_wp2_with fail
        go_roundw
        case rel => exact ⟨k + 1, by omega, by go_num, by rw [HE.out], HBV.out.trans (HB3.out.mono HBV.out.size), HQV.out.next HB3.out⟩
        case measure => simp [intOf]; omega
      · have HE := Lib.hid (HST.out.trans (if_neg hc))
        go_wp2_with fail
        go_roundw
        case rel => exact ⟨k + 1, by omega, by go_num, by rw [HE.out], HBV.out.trans (HB3.out.mono HBV.out.size), HQV.out.next HB3.out⟩
        case measure => simp [intOf]; omega
    · obtain rfl : k = n := by omega
      obtain ⟨m, hm⟩ : ∃ m, m = bst f l k := ⟨_, rfl⟩
      rw [← hm]
      have HM := Lib.hid hm
      clear hm
      go_wp2_with fail
      go_ret
      exact ⟨by rw [← HM.out]; rfl, hB⟩
set_option maxHeartbeats 4000000 in
theorem closest_c (v : Value) (l : List Out) (r : Rc) (w : World) (hR : RdK encO 5 w v l) (hn : l.length ≤ 9223372036854775807) (h0 : 0 < l.length) (hw : ∀ o ∈ l, rightB o.x o.y o.w o.h = true) (hr : rightB r.x r.y r.w r.h = true) :
    Calls Try.prog 42 #[v, rcV r] w fun e w' => e = .returned (.int .i64 (bst (fun o => -awayI o r) l l.length : Nat)) ∧ Below w.heap.size w w' := by
  obtain ⟨p, c, rfl, hcell⟩ := hR
  have HC := Lib.hid hcell
  obtain ⟨f, hf⟩ : ∃ f : Out → Int, f = fun o => -awayI o r := ⟨_, rfl⟩
  rw [← hf]
  have HXX := Lib.hid (fun (o : Out) (ho : o ∈ l) W => away_c o r W (hw o ho) hr)
  have HL := Lib.hid (bst_lt f l h0)
  obtain ⟨n, hln⟩ : ∃ n, n = l.length := ⟨_, rfl⟩
  rw [← hln] at hn ⊢
  have HN := Lib.hid hln
  have hq := Lib.hid (Blk.new w 29 (RcC r))
  have hb0 := Lib.hid ((Below.refl w.heap.size w).alloc (Nat.le_refl _) (.cells (RcC r) 29))
  have HF := Lib.hid hf
  clear hcell hln h0 hf hw hr
  go_enter Try.func42, Try.ntmps42
  go_upto_region 3 with fail
  have hB0 := hb0.out
  have hQ0 := hq.out
  clear hb0 hq
  go_loopw [5, 10] (fun bz z wr => ∃ k : Nat, k ≤ n ∧ z = .int .i64 k ∧ bz = .int .i64 (bst f l k : Nat) ∧ Below w.heap.size w wr ∧ Blk wr w.heap.size 29 (RcC r)) (fun _ z _ => n - (intOf z).toNat)
  case atStart => exact ⟨0, Nat.zero_le _, rfl, rfl, hB0, hQ0⟩
  case round =>
    clear hB0 hQ0
    obtain ⟨k, hk, rfl, rfl, hB, hQ⟩ := hrel
    by_cases hlt : k < n
    · obtain ⟨x, hx⟩ : ∃ x, l[k]? = some x := ⟨_, List.getElem?_eq_getElem (by rw [← HN.out]; exact hlt)⟩
      have hml := HL.out k
      obtain ⟨y, hy⟩ : ∃ y, l[bst f l k]? = some y := ⟨_, List.getElem?_eq_getElem hml⟩
      have hst := bst_step hx hy
      obtain ⟨m, hm⟩ : ∃ m, m = bst f l k := ⟨_, rfl⟩
      rw [← hm] at hml hy hst ⊢
      obtain ⟨b, o, rfl, hb1, hb2⟩ := HC.out k x hx
      obtain ⟨b', o', e9, hb3, hb4⟩ := HC.out m y hy
      obtain ⟨rfl, rfl⟩ : b = b' ∧ o = o' := by injection e9 with e9; injection e9 with e1 e2; exact ⟨e1, e2⟩
      obtain ⟨r0, r1, r2, r3, r4⟩ := RdK.out (w := wr) (fun i u hu => (hB.cell (p := ⟨b, o + k * 5 + i, none⟩) hb1).trans (hb2 i u hu))
      have hmn : m < n := by rw [HN.out]; exact hml
      have hi0 : (0 : Int) ≤ (k : Int) := by omega
      have hi1 : (k : Int) < (n : Int) := by omega
      have hj0 : (0 : Int) ≤ (m : Int) := by omega
      have hj1 : (m : Int) < (n : Int) := by omega
      have hxp := List.mem_of_getElem? hx
      have hyp := List.mem_of_getElem? hy
      have HX1 := Lib.hid (HXX.out x hxp)
      have HX2 := Lib.hid (HXX.out y hyp)
      obtain ⟨v, hv⟩ : ∃ v, v = wr.alloc (OutB x) := ⟨_, rfl⟩
      have hbv : Below wr.heap.size wr v := by rw [hv]; exact (Below.refl _ _).alloc (Nat.le_refl _) _
      have hqv : Blk v wr.heap.size 31 (OutC x) := by rw [hv]; exact Blk.new _ _ _
      have hqr := hQ.next hbv
      have hsv : v.cell? ⟨wr.heap.size, 0, none⟩ = some (.string x.n) ∧ v.cell? ⟨wr.heap.size, 1, none⟩ = some (.int .i64 x.x) ∧ v.cell? ⟨wr.heap.size, 2, none⟩ = some (.int .i64 x.y) ∧ v.cell? ⟨wr.heap.size, 3, none⟩ = some (.int .i64 x.w) ∧ v.cell? ⟨wr.heap.size, 4, none⟩ = some (.int .i64 x.h) ∧ v.cell? ⟨w.heap.size, 0, none⟩ = some (.int .i64 r.x) ∧ v.cell? ⟨w.heap.size, 1, none⟩ = some (.int .i64 r.y) ∧ v.cell? ⟨w.heap.size, 2, none⟩ = some (.int .i64 r.w) ∧ v.cell? ⟨w.heap.size, 3, none⟩ = some (.int .i64 r.h) ∧ v.cell? ⟨b, o + m * 5, none⟩ = some (.string y.n) ∧ v.cell? ⟨b, o + m * 5 + 1, none⟩ = some (.int .i64 y.x) ∧ v.cell? ⟨b, o + m * 5 + 2, none⟩ = some (.int .i64 y.y) ∧ v.cell? ⟨b, o + m * 5 + 3, none⟩ = some (.int .i64 y.w) ∧ v.cell? ⟨b, o + m * 5 + 4, none⟩ = some (.int .i64 y.h) := by
        have hyc := RdK.out (w := v) (fun i u hu => ((hB.trans (hbv.mono hB.size)).cell (p := ⟨b, o + m * 5 + i, none⟩) hb1).trans (hb4 i u hu))
        obtain ⟨y0, y1, y2, y3, y4⟩ := hyc
        exact ⟨hqv.at_ (i := 0) rfl, hqv.at_ (i := 1) rfl, hqv.at_ (i := 2) rfl, hqv.at_ (i := 3) rfl, hqv.at_ (i := 4) rfl, hqr.at_ (i := 0) rfl, hqr.at_ (i := 1) rfl, hqr.at_ (i := 2) rfl, hqr.at_ (i := 3) rfl, y0, y1, y2, y3, y4⟩
      have hlx := hqv.lt
      have hlr := hqr.lt
      have hly : b < v.heap.size := Nat.lt_of_lt_of_le hb1 (hB.trans (hbv.mono hB.size)).size
      have HSS : Hid (∀ W, Below v.heap.size v W → W.cell? ⟨wr.heap.size, 0, none⟩ = some (.string x.n) ∧ W.cell? ⟨wr.heap.size, 1, none⟩ = some (.int .i64 x.x) ∧ W.cell? ⟨wr.heap.size, 2, none⟩ = some (.int .i64 x.y) ∧ W.cell? ⟨wr.heap.size, 3, none⟩ = some (.int .i64 x.w) ∧ W.cell? ⟨wr.heap.size, 4, none⟩ = some (.int .i64 x.h) ∧ W.cell? ⟨w.heap.size, 0, none⟩ = some (.int .i64 r.x) ∧ W.cell? ⟨w.heap.size, 1, none⟩ = some (.int .i64 r.y) ∧ W.cell? ⟨w.heap.size, 2, none⟩ = some (.int .i64 r.w) ∧ W.cell? ⟨w.heap.size, 3, none⟩ = some (.int .i64 r.h) ∧ W.cell? ⟨b, o + m * 5, none⟩ = some (.string y.n) ∧ W.cell? ⟨b, o + m * 5 + 1, none⟩ = some (.int .i64 y.x) ∧ W.cell? ⟨b, o + m * 5 + 2, none⟩ = some (.int .i64 y.y) ∧ W.cell? ⟨b, o + m * 5 + 3, none⟩ = some (.int .i64 y.w) ∧ W.cell? ⟨b, o + m * 5 + 4, none⟩ = some (.int .i64 y.h)) := fun W h => by
        obtain ⟨a0, a1, a2, a3, a4, a5, a6, a7, a8, a9, a10, a11, a12, a13⟩ := hsv
        exact ⟨(h.cell (p := ⟨_, _, none⟩) hlx).trans a0, (h.cell (p := ⟨_, _, none⟩) hlx).trans a1, (h.cell (p := ⟨_, _, none⟩) hlx).trans a2, (h.cell (p := ⟨_, _, none⟩) hlx).trans a3, (h.cell (p := ⟨_, _, none⟩) hlx).trans a4, (h.cell (p := ⟨_, _, none⟩) hlr).trans a5, (h.cell (p := ⟨_, _, none⟩) hlr).trans a6, (h.cell (p := ⟨_, _, none⟩) hlr).trans a7, (h.cell (p := ⟨_, _, none⟩) hlr).trans a8, (h.cell (p := ⟨_, _, none⟩) hly).trans a9, (h.cell (p := ⟨_, _, none⟩) hly).trans a10, (h.cell (p := ⟨_, _, none⟩) hly).trans a11, (h.cell (p := ⟨_, _, none⟩) hly).trans a12, (h.cell (p := ⟨_, _, none⟩) hly).trans a13⟩
      have HBV := Lib.hid (hB.trans (hbv.mono hB.size))
      have HQV := Lib.hid hqr
      have HB1 := Lib.hid (Below.refl v.heap.size v).drew
      have HVV := Lib.hid hv
      have hst2 : bst f l (k + 1) = if awayI x r < awayI y r then k else m := by rw [hst, HF.out]; simp only [Int.neg_lt_neg_iff]
      have HST := Lib.hid hst2
      clear hst hst2 hbv hqv hqr hsv hlx hlr hly hv hx hy hm hml hmn hxp hyp hb1 hb2 hb3 hb4 e9 HC HL hB hQ
      go_upto_region 5 with fail
      rw [← HVV.out]
      refine wp_region_noPanic ?_
      refine wp_region_held_drew (S := fun wx => wx.cell? ⟨wr.heap.size, 0, none⟩ = some (.string x.n) ∧ wx.cell? ⟨wr.heap.size, 1, none⟩ = some (.int .i64 x.x) ∧ wx.cell? ⟨wr.heap.size, 2, none⟩ = some (.int .i64 x.y) ∧ wx.cell? ⟨wr.heap.size, 3, none⟩ = some (.int .i64 x.w) ∧ wx.cell? ⟨wr.heap.size, 4, none⟩ = some (.int .i64 x.h) ∧ wx.cell? ⟨w.heap.size, 0, none⟩ = some (.int .i64 r.x) ∧ wx.cell? ⟨w.heap.size, 1, none⟩ = some (.int .i64 r.y) ∧ wx.cell? ⟨w.heap.size, 2, none⟩ = some (.int .i64 r.w) ∧ wx.cell? ⟨w.heap.size, 3, none⟩ = some (.int .i64 r.h) ∧ wx.cell? ⟨b, o + m * 5, none⟩ = some (.string y.n) ∧ wx.cell? ⟨b, o + m * 5 + 1, none⟩ = some (.int .i64 y.x) ∧ wx.cell? ⟨b, o + m * 5 + 2, none⟩ = some (.int .i64 y.y) ∧ wx.cell? ⟨b, o + m * 5 + 3, none⟩ = some (.int .i64 y.w) ∧ wx.cell? ⟨b, o + m * 5 + 4, none⟩ = some (.int .i64 y.h)) (by kernel_rfl) (by exact HSS.out _ HB1.out) (fun hHeld => ?_)
      refine wpAnyH_take (i := 0) (v := ?v0) rfl (by kernel_rfl) (by kernel_rfl) (by kernel_rfl) (fun _ _ _ h => h) (Or.inl ⟨by kernel_rfl, ?y0⟩) (by assumption) ?r0
      case y0 => (intro wq hSw; (try dsimp only at hSw); go_simp; (try with_reducible rfl))
      (try simp only [Act.put, List.getElem_toArray, List.getElem_cons_zero, List.setIfInBounds_toArray, List.set_cons_zero, List.set_cons_succ])
      refine wpAnyH_take (i := 1) (v := ?v1) rfl (by kernel_rfl) (by kernel_rfl) (by kernel_rfl) (fun _ _ _ h => h) (Or.inl ⟨by kernel_rfl, ?y1⟩) (by assumption) ?r1
      case y1 => (intro wq hSw; (try dsimp only at hSw); go_simp; (try with_reducible rfl))
      (try simp only [Act.put, List.getElem_toArray, List.getElem_cons_succ, List.getElem_cons_zero, List.setIfInBounds_toArray, List.set_cons_zero, List.set_cons_succ])
      refine wpAnyH_take (i := 2) (v := ?v2) rfl (by kernel_rfl) (by kernel_rfl) (by kernel_rfl) (fun _ _ _ h => h) (Or.inl ⟨by kernel_rfl, ?y2⟩) (by assumption) ?r2
      case y2 => (intro wq hSw; (try dsimp only at hSw); go_simp; (try with_reducible rfl))
      (try simp only [Act.put, List.getElem_toArray, List.getElem_cons_succ, List.getElem_cons_zero, List.setIfInBounds_toArray, List.set_cons_zero, List.set_cons_succ])
      refine wpAnyH_take (i := 4) (v := ?v4) rfl (by kernel_rfl) (by kernel_rfl) (by kernel_rfl) (fun _ _ _ h => h) (Or.inl ⟨by kernel_rfl, ?y4⟩) (by assumption) ?r4
      case y4 => (intro wq hSw; (try dsimp only at hSw); go_simp; (try with_reducible rfl))
      (try simp only [Act.put, List.getElem_toArray, List.getElem_cons_succ, List.getElem_cons_zero, List.setIfInBounds_toArray, List.set_cons_zero, List.set_cons_succ])
      refine wpAnyH_take (i := 5) (v := ?v5) rfl (by kernel_rfl) (by kernel_rfl) (by kernel_rfl) (fun _ _ _ h => h) (Or.inl ⟨by kernel_rfl, ?y5⟩) (by assumption) ?r5
      case y5 => (intro wq hSw; (try dsimp only at hSw); go_simp; (try with_reducible rfl))
      (try simp only [Act.put, List.getElem_toArray, List.getElem_cons_succ, List.getElem_cons_zero, List.setIfInBounds_toArray, List.set_cons_zero, List.set_cons_succ])
      refine wpAnyH_take (i := 6) (v := ?v6) rfl (by kernel_rfl) (by kernel_rfl) (by kernel_rfl) (fun _ _ _ h => h) (Or.inl ⟨by kernel_rfl, ?y6⟩) (by assumption) ?r6
      case y6 => (intro wq hSw; (try dsimp only at hSw); go_simp; (try with_reducible rfl))
      (try simp only [Act.put, List.getElem_toArray, List.getElem_cons_succ, List.getElem_cons_zero, List.setIfInBounds_toArray, List.set_cons_zero, List.set_cons_succ])
      refine wpAnyH_take (i := 7) (v := ?v7) rfl (by kernel_rfl) (by kernel_rfl) (by kernel_rfl) (fun _ _ _ h => h) (Or.inl ⟨by kernel_rfl, ?y7⟩) (by assumption) ?r7
      case y7 => (intro wq hSw; (try dsimp only at hSw); go_simp; (try with_reducible rfl))
      (try simp only [Act.put, List.getElem_toArray, List.getElem_cons_succ, List.getElem_cons_zero, List.setIfInBounds_toArray, List.set_cons_zero, List.set_cons_succ])
      refine wpAnyH_take (i := 8) (v := ?v8) rfl (by kernel_rfl) (by kernel_rfl) (by kernel_rfl) (fun _ _ _ h => h) (Or.inl ⟨by kernel_rfl, ?y8⟩) (by assumption) ?r8
      case y8 => (intro wq hSw; (try dsimp only at hSw); go_simp; (try with_reducible rfl))
      (try simp only [Act.put, List.getElem_toArray, List.getElem_cons_succ, List.getElem_cons_zero, List.setIfInBounds_toArray, List.set_cons_zero, List.set_cons_succ])
      refine wpAnyH_take (i := 9) (v := ?v9) rfl (by kernel_rfl) (by kernel_rfl) (by kernel_rfl) (fun _ _ _ h => h) (Or.inl ⟨by kernel_rfl, ?y9⟩) (by assumption) ?r9
      case y9 => (intro wq hSw; (try dsimp only at hSw); go_simp; (try with_reducible rfl))
      (try simp only [Act.put, List.getElem_toArray, List.getElem_cons_succ, List.getElem_cons_zero, List.setIfInBounds_toArray, List.set_cons_zero, List.set_cons_succ])
      refine wpAnyH_ready (rs := [3]) (by kernel_rfl) (by simp) ?_
      refine AllReadyH.cons rfl (fun K hK => ?_) AllReadyH.nil
      go_simp
      refine (HX1.out _).mono ?_
      rintro ex w2 ⟨rfl, hb⟩; have HB2 := Lib.hid (HB1.out.trans (hb.mono HB1.out.size)); have hS2 : w2.cell? ⟨wr.heap.size, 0, none⟩ = some (.string x.n) ∧ w2.cell? ⟨wr.heap.size, 1, none⟩ = some (.int .i64 x.x) ∧ w2.cell? ⟨wr.heap.size, 2, none⟩ = some (.int .i64 x.y) ∧ w2.cell? ⟨wr.heap.size, 3, none⟩ = some (.int .i64 x.w) ∧ w2.cell? ⟨wr.heap.size, 4, none⟩ = some (.int .i64 x.h) ∧ w2.cell? ⟨w.heap.size, 0, none⟩ = some (.int .i64 r.x) ∧ w2.cell? ⟨w.heap.size, 1, none⟩ = some (.int .i64 r.y) ∧ w2.cell? ⟨w.heap.size, 2, none⟩ = some (.int .i64 r.w) ∧ w2.cell? ⟨w.heap.size, 3, none⟩ = some (.int .i64 r.h) ∧ w2.cell? ⟨b, o + m * 5, none⟩ = some (.string y.n) ∧ w2.cell? ⟨b, o + m * 5 + 1, none⟩ = some (.int .i64 y.x) ∧ w2.cell? ⟨b, o + m * 5 + 2, none⟩ = some (.int .i64 y.y) ∧ w2.cell? ⟨b, o + m * 5 + 3, none⟩ = some (.int .i64 y.w) ∧ w2.cell? ⟨b, o + m * 5 + 4, none⟩ = some (.int .i64 y.h) := HSS.out _ HB2.out; clear hb
      (try dsimp only)
      refine hK.out _ _ (by exact hS2) (fun hHeld => ?_)
      clear hK K
      (try simp only [Act.put, List.getElem_toArray, List.getElem_cons_succ, List.getElem_cons_zero, List.setIfInBounds_toArray, List.set_cons_zero, List.set_cons_succ])
      refine wpAnyH_ready (rs := [10]) (by kernel_rfl) (by simp) ?_
      refine AllReadyH.cons rfl (fun K hK => ?_) AllReadyH.nil
      go_simp
      refine (HX2.out _).mono ?_
      rintro ex w3 ⟨rfl, hb⟩; have HB3 := Lib.hid (HB2.out.trans (hb.mono HB2.out.size)); have hS3 : w3.cell? ⟨wr.heap.size, 0, none⟩ = some (.string x.n) ∧ w3.cell? ⟨wr.heap.size, 1, none⟩ = some (.int .i64 x.x) ∧ w3.cell? ⟨wr.heap.size, 2, none⟩ = some (.int .i64 x.y) ∧ w3.cell? ⟨wr.heap.size, 3, none⟩ = some (.int .i64 x.w) ∧ w3.cell? ⟨wr.heap.size, 4, none⟩ = some (.int .i64 x.h) ∧ w3.cell? ⟨w.heap.size, 0, none⟩ = some (.int .i64 r.x) ∧ w3.cell? ⟨w.heap.size, 1, none⟩ = some (.int .i64 r.y) ∧ w3.cell? ⟨w.heap.size, 2, none⟩ = some (.int .i64 r.w) ∧ w3.cell? ⟨w.heap.size, 3, none⟩ = some (.int .i64 r.h) ∧ w3.cell? ⟨b, o + m * 5, none⟩ = some (.string y.n) ∧ w3.cell? ⟨b, o + m * 5 + 1, none⟩ = some (.int .i64 y.x) ∧ w3.cell? ⟨b, o + m * 5 + 2, none⟩ = some (.int .i64 y.y) ∧ w3.cell? ⟨b, o + m * 5 + 3, none⟩ = some (.int .i64 y.w) ∧ w3.cell? ⟨b, o + m * 5 + 4, none⟩ = some (.int .i64 y.h) := HSS.out _ HB3.out; clear hb
      (try dsimp only)
      refine hK.out _ _ (by exact hS3) (fun hHeld => ?_)
      clear hK K
      (try simp only [Act.put, List.getElem_toArray, List.getElem_cons_succ, List.getElem_cons_zero, List.setIfInBounds_toArray, List.set_cons_zero, List.set_cons_succ])
      refine wpAnyH_take (i := 11) (v := ?v11) rfl (by kernel_rfl) (by kernel_rfl) (by kernel_rfl) (fun _ _ _ h => h) (Or.inl ⟨by kernel_rfl, ?y11⟩) (by assumption) ?r11
      case y11 => (intro wq hSw; (try dsimp only at hSw); go_simp; (try with_reducible rfl))
      (try simp only [Act.put, List.getElem_toArray, List.getElem_cons_succ, List.getElem_cons_zero, List.setIfInBounds_toArray, List.set_cons_zero, List.set_cons_succ])
      refine wpAnyH_done (by kernel_rfl) ?_ _
      refine NoPanic.normal ?_
      by_cases hc : awayI x r < awayI y r
      · have HE := Lib.hid (HST.out.trans (if_pos hc))
        go_wp2_with fail
        go_roundw
        case rel => exact ⟨k + 1, by omega, by go_num, by rw [HE.out], HBV.out.trans (HB3.out.mono HBV.out.size), HQV.out.next HB3.out⟩
        case measure => simp [intOf]; omega
      · have HE := Lib.hid (HST.out.trans (if_neg hc))
        go_wp2_with fail
        go_roundw
        case rel => exact ⟨k + 1, by omega, by go_num, by rw [HE.out], HBV.out.trans (HB3.out.mono HBV.out.size), HQV.out.next HB3.out⟩
        case measure => simp [intOf]; omega
    · obtain rfl : k = n := by omega
      obtain ⟨m, hm⟩ : ∃ m, m = bst f l k := ⟨_, rfl⟩
      rw [← hm]
      have HM := Lib.hid hm
      clear hm
      go_wp2_with fail
      go_ret
      exact ⟨by rw [← HM.out]; rfl, hB⟩
end Go.Proofs.Yteaeccmlibmmmaa.Ar
