/- combine. -/
import Derived.Test.YtfabknabkcfpjaaRhM
import Derived.Test.YtfabknabkcfpjaaRhB
namespace Go.Proofs.Ytfabknabkcfpjaa
open Go.RowKit Go.Shelf
/-- What combine keeps: the form, and what is older. -/
def Cmb (w6 : World) (v : Value) (rs : List Rc) (last : Nat) (wx : World) : Prop := Fm wx w6.heap.size w6.heap.size v rs last ∧ Below w6.heap.size w6 wx
theorem Cmb.drew {w6 wx : World} {v : Value} {rs : List Rc} {last : Nat} (h : Cmb w6 v rs last wx) : Cmb w6 v rs last wx.drew := ⟨h.1, h.2.drew⟩
theorem Cmb.next {w6 wx w1 : World} {v : Value} {rs : List Rc} {last : Nat} (h : Cmb w6 v rs last wx) (hb : Below wx.heap.size wx w1) : Cmb w6 v rs last w1 := ⟨h.1.next hb, h.2.trans (hb.mono h.2.size)⟩
theorem Cmb.lay {w6 wx w1 : World} {v v' : Value} {rs rs' : List Rc} {last last' : Nat} (h : Cmb w6 v rs last wx) (hF : Fm w1 w6.heap.size w6.heap.size v' rs' last') (hk : Kept (fun i => i ≠ w6.heap.size ∧ v.ownBlock ≠ some i) wx w1) : Cmb w6 v' rs' last' w1 :=
  ⟨hF, Kept.below h.2 hk h.2.size (fun i hi => ⟨by omega, fun e => by have := (h.1.2.1.lt e).1; omega⟩)⟩
theorem Cmb.new (w6 : World) : Cmb w6 (.slice none 0 0) [] 0 (w6.alloc (.cells #[.slice none 0 0, .int .i64 0] 63)) :=
  ⟨⟨Blk.new _ _ _, OwK.nil _ _, Nat.le_refl _⟩, (Below.refl _ _).alloc (Nat.le_refl _) _⟩
/-- What a combination answers. -/
def CmbOut (rl : Bool → Bool → Bool) (la lb : List Rc) (w w' : World) (e : Ending) : Prop :=
  (faultI la lb ≠ 0 ∧ e = .returned (.tuple #[.slice none 0 0, .int .i64 (faultI la lb)])) ∨
  (faultI la lb = 0 ∧ ∃ ds ys, ds.Perm (sidesK 0 la ++ sidesK 1 lb) ∧ ds.Pairwise (fun a b => a.x ≤ b.x) ∧ ys.Pairwise (· < ·) ∧ (∀ y, y ∈ ys ↔ y ∈ cutsL ds) ∧
    ((256 < (cmbF rl ds ys (ys.length - 1)).rs.length ∧ e = .returned (.tuple #[.slice none 0 0, .int .i64 2])) ∨
     ((cmbF rl ds ys (ys.length - 1)).rs.length ≤ 256 ∧ ∃ v, e = .returned (.tuple #[v, .int .i64 0]) ∧ OwK encR 40 4 w' w.heap.size v (cmbF rl ds ys (ys.length - 1)).rs)))
theorem strict_len {hi : Int} : ∀ (l : List Int) (lo : Int), lo ≤ hi + 1 → l.Pairwise (· < ·) → (∀ y ∈ l, lo ≤ y ∧ y ≤ hi) → (l.length : Int) ≤ hi + 1 - lo
  | [], lo, h, _, _ => by simp; omega
  | a :: l, lo, h, hp, hm => by
    obtain ⟨h1, h2⟩ := List.pairwise_cons.1 hp
    have ha := hm a (List.mem_cons_self ..)
    have ih := strict_len (hi := hi) l (a + 1) (by omega) h2 (fun y hy => ⟨by have := h1 y hy; omega, (hm y (List.mem_cons_of_mem _ hy)).2⟩)
    rw [List.length_cons]; push_cast; omega
set_option maxRecDepth 100000 in
set_option maxHeartbeats 8000000 in
theorem combine_c (va vb : Value) (la lb : List Rc) (g : Nat) (cb : Array Value) (rl : Bool → Bool → Bool) (w : World) (eg : ∀ args w, (callFunc g args).run Try.prog w = .ok (.enter g args) w) (hT : Rules g cb rl)
    (ha : RdK encR 4 w va la) (hb : RdK encR 4 w vb lb) (hla : la.length ≤ 1152921504606846976) (hlb : lb.length ≤ 1152921504606846976) :
    Calls Try.prog 22 #[va, vb, .func (.func g) #[] cb] w fun e w' => CmbOut rl la lb w w' e ∧ Below w.heap.size w w' := by
  have HFA := Lib.hid (fault_c va vb la lb w ha hb hla hlb)
  have HA := Lib.hid ha
  have HB := Lib.hid hb
  have HT := Lib.hid hT
  clear ha hb hT
  go_enter Try.func22, Try.ntmps22
  go_wp2_with fail
  refine HFA.out.mono ?_
  rintro e1 w1 ⟨rfl, hB1⟩
  obtain ⟨ff, hff⟩ : ∃ f, f = faultI la lb := ⟨_, rfl⟩
  rw [← hff]
  have HF := Lib.hid hff
  clear hff HFA
  by_cases hz : ff = 0
  · subst hz
    have hF0 : faultI la lb = 0 := HF.out.symm
    have hlens : la.length ≤ 256 ∧ lb.length ≤ 256 ∧ (∀ r ∈ la, badR r = false) ∧ (∀ r ∈ lb, badR r = false) := by
      unfold faultI at hF0
      split at hF0
      · omega
      · split at hF0
        · omega
        · next h1 h2 =>
          refine ⟨by omega, by omega, fun r hr => ?_, fun r hr => ?_⟩
          · cases hq : badR r with
            | false => rfl
            | true => exact absurd (.inl (List.any_eq_true.2 ⟨r, hr, hq⟩)) h2
          · cases hq : badR r with
            | false => rfl
            | true => exact absurd (.inr (List.any_eq_true.2 ⟨r, hr, hq⟩)) h2
    have HF0 := Lib.hid hF0
    obtain ⟨l1, l2, l3, l4⟩ := hlens
    have HSD := Lib.hid (sides_c va vb la lb w1 (HA.out.below hB1) (HB.out.below hB1) l1 l2 l3 l4)
    have HOK0 := Lib.hid (show ∀ d ∈ sidesK 0 la ++ sidesK 1 lb, okS d ∧ d.r.y + d.r.h ≤ 32768 from fun d hd => by
      rcases List.mem_append.1 hd with h | h
      · exact sides_ok (by omega) l3 d h
      · exact sides_ok (by omega) l4 d h)
    have HL0 := Lib.hid (show (sidesK 0 la ++ sidesK 1 lb).length ≤ 1024 by
      rw [List.length_append]; have := sidesK_len 0 la; have := sidesK_len 1 lb; omega)
    clear hF0 l1 l2 l3 l4
    go_wp2_with fail
    refine HSD.out.mono ?_
    rintro e2 w2 ⟨sv, ds, rfl, hp, hs, hR, hB2⟩
    have HP := Lib.hid hp
    have HSO := Lib.hid hs
    have HOK := Lib.hid (fun d hd => (HOK0.out d (hp.mem_iff.1 hd)))
    have HL := Lib.hid (show ds.length ≤ 1024 by rw [hp.length_eq]; exact HL0.out)
    have HR := Lib.hid hR
    have B2 := hB1.trans (hB2.mono hB1.size)
    have HCT := Lib.hid (cuts_c sv ds w2 hR (by have := HL.out; omega) (fun d hd => (HOK.out d hd).1))
    clear hp hs hR HSD hB1 hB2 HL0 HOK0
    go_wp2_with fail
    refine HCT.out.mono ?_
    rintro e3 w6 ⟨yv, ys, rfl, hy1, hy2, hYR, hB3⟩
    have HR6 := Lib.hid (HR.out.below hB3)
    have B6 := B2.trans (hB3.mono B2.size)
    have HY1 := Lib.hid hy1
    have HY2 := Lib.hid hy2
    have HYO := Lib.hid (fun y hy => cuts_ok HOK.out y ((hy2 y).1 hy))
    obtain ⟨yp, yc, rfl, hcell⟩ := hYR
    have HC := Lib.hid hcell
    obtain ⟨n, hln⟩ : ∃ n, n = ys.length := ⟨_, rfl⟩
    rw [← hln]
    have HN := Lib.hid hln
    have HN2 := Lib.hid (show n ≤ 65537 by
      have h := strict_len (hi := 32768) ys (-32768) (by omega) HY1.out HYO.out
      omega)
    have P0 := Cmb.new w6
    have HBW := Lib.hid B6.size
    clear hcell hln hy1 hy2 hB3 B2 HCT HR
    go_wp2_with fail
    go_loopw [12] (fun z wr => ∃ (i : Nat) (v : Value), 1 ≤ i ∧ (i ≤ n ∨ i = 1) ∧ z = .int .i64 i ∧ (cmbF rl ds ys (i - 1)).rs.length ≤ 256 ∧ Cmb w6 v (cmbF rl ds ys (i - 1)).rs (cmbF rl ds ys (i - 1)).last wr) (fun z _ => n - (intOf z).toNat)
    case atStart => exact ⟨1, _, Nat.le_refl _, .inr rfl, rfl, by simp [cmbF], P0⟩
    case round =>
      obtain ⟨i, v, hi1, hi2, rfl, hlen, P1⟩ := hrel
      clear P0
      obtain ⟨k, hk⟩ : ∃ k, i = k + 1 := ⟨i - 1, by omega⟩
      have HK := Lib.hid hk
      have hn9 := HN2.out
      by_cases hlt : i < n
      · obtain ⟨a, hka⟩ : ∃ a, ys[k]? = some a := ⟨_, List.getElem?_eq_getElem (by rw [← HN.out]; omega)⟩
        obtain ⟨y, hiy⟩ : ∃ y, ys[i]? = some y := ⟨_, List.getElem?_eq_getElem (by rw [← HN.out]; omega)⟩
        obtain ⟨b, o, rfl, hb1, hb2⟩ := HC.out k a hka
        obtain ⟨b', o', e, hb1', hb2'⟩ := HC.out i y hiy
        obtain ⟨rfl, rfl⟩ : b = b' ∧ o = o' := by simpa using e
        have hya := HYO.out a (List.mem_of_getElem? hka)
        have HS := Lib.hid (show ∀ wx, Below w6.heap.size w6 wx → wx.cell? ⟨b, o + k, none⟩ = some (.int .i64 a) ∧ wx.cell? ⟨b, o + i, none⟩ = some (.int .i64 y) from fun wx h => by
          have c0 := hb2 0 (.int .i64 a) rfl
          have c1 := hb2' 0 (.int .i64 y) rfl
          rw [Nat.mul_one, Nat.add_zero] at c0 c1
          exact ⟨(h.cell (p := ⟨b, o + k, none⟩) hb1).trans c0, (h.cell (p := ⟨b, o + i, none⟩) hb1).trans c1⟩)
        have hbl : b < wr.heap.size := Nat.lt_of_lt_of_le hb1 P1.2.size
        have ek : i - 1 = k := by omega
        rw [ek] at P1 hlen
        have HX := Lib.hid (show cmbF rl ds ys i = ⟨layR (cmbF rl ds ys k).rs (cmbF rl ds ys k).last (bandOf rl a y ds).runs, layL (cmbF rl ds ys k).rs (cmbF rl ds ys k).last (bandOf rl a y ds).runs⟩ by
          rw [hk] at hiy
          rw [← bandAt_some hka hiy, hk]; rfl)
        have HHI := Lib.hid (show ∀ r ∈ (cmbF rl ds ys k).rs, 0 ≤ r.h ∧ r.h ≤ 1099511627776 from fun r hr => by
          have h := cmb_high rl ds ys k r hr
          have := HN2.out
          omega)
        generalize cmbF rl ds ys k = t at *
        have HBAND := Lib.hid (fun wx (h : Below w6.heap.size w6 wx) => band_c sv ds a y g cb rl wx eg HT.out (HR6.out.below h) (by have := HL.out; omega) (fun d hd => (HOK.out d hd).1) hya)
        have HRL := Lib.hid (show (bandOf rl a y ds).runs.length ≤ 1024 by have h := band_len (rl := rl) (top := a) (bottom := y) (fun d hd => (HOK.out d hd).1); have := HL.out; omega)
        have HRH := Lib.hid (okH_band rl a y ds)
        generalize (bandOf rl a y ds).runs = runs at *
        have W1 : IntKind.i64.wrap ((i : Int) - 1) = (k : Int) := by rw [IntWalk.i64_in _ (by have := HN2.out; omega)]; omega
        have hi0 : (0 : Int) ≤ (i : Int) := by omega
        have hi3 : (i : Int) < (n : Int) := by omega
        have hk0 : (0 : Int) ≤ (k : Int) := by omega
        have hk3 : (k : Int) < (n : Int) := by omega
        have HEK := Lib.hid ek
        clear hka hiy hb2 hb2' e hb1' hk ek
        go_wp2_with fail
        refine wp_region_noPanic ?_
        refine wp_region_held_drew (S := fun wx => wx.cell? ⟨b, o + k, none⟩ = some (.int .i64 a) ∧ wx.cell? ⟨b, o + i, none⟩ = some (.int .i64 y)) (by kernel_rfl) (by exact HS.out _ P1.drew.2) (fun hHeld => ?_)
        refine wpAnyH_take (i := 0) (v := ?v0) rfl (by kernel_rfl) (by kernel_rfl) (by kernel_rfl) (fun _ _ _ h => h) (Or.inl ⟨by kernel_rfl, ?y0⟩) (by assumption) ?r0
        case y0 => (intro wq hSw; (try dsimp only at hSw); go_simp; (try with_reducible rfl))
        (try simp only [Act.put, List.getElem_toArray, List.getElem_cons_zero, List.setIfInBounds_toArray, List.set_cons_zero, List.set_cons_succ])
        refine wpAnyH_take (i := 1) (v := ?v1) rfl (by kernel_rfl) (by kernel_rfl) (by kernel_rfl) (fun _ _ _ h => h) (Or.inl ⟨by kernel_rfl, ?y1⟩) (by assumption) ?r1
        case y1 => (intro wq hSw; (try dsimp only at hSw); go_simp; (try with_reducible rfl))
        (try simp only [Act.put, List.getElem_toArray, List.getElem_cons_succ, List.getElem_cons_zero, List.setIfInBounds_toArray, List.set_cons_zero, List.set_cons_succ])
        refine wpAnyH_take (i := 2) (v := ?v2) rfl (by kernel_rfl) (by kernel_rfl) (by kernel_rfl) (fun _ _ _ h => h) (Or.inl ⟨by kernel_rfl, ?y2⟩) (by assumption) ?r2
        case y2 => (intro wq hSw; (try dsimp only at hSw); go_simp; (try with_reducible rfl))
        (try simp only [Act.put, List.getElem_toArray, List.getElem_cons_succ, List.getElem_cons_zero, List.setIfInBounds_toArray, List.set_cons_zero, List.set_cons_succ])
        refine wpAnyH_take (i := 3) (v := ?v3) rfl (by kernel_rfl) (by kernel_rfl) (by kernel_rfl) (fun _ _ _ h => h) (Or.inl ⟨by kernel_rfl, ?y3⟩) (by assumption) ?r3
        case y3 => (intro wq hSw; (try dsimp only at hSw); go_simp; (try with_reducible rfl))
        (try simp only [Act.put, List.getElem_toArray, List.getElem_cons_succ, List.getElem_cons_zero, List.setIfInBounds_toArray, List.set_cons_zero, List.set_cons_succ])
        refine wpAnyH_take (i := 4) (v := ?v4) rfl (by kernel_rfl) (by kernel_rfl) (by kernel_rfl) (fun _ _ _ h => h) (Or.inl ⟨by kernel_rfl, ?y4⟩) (by assumption) ?r4
        case y4 => (intro wq hSw; (try dsimp only at hSw); go_simp; (try with_reducible rfl))
        (try simp only [Act.put, List.getElem_toArray, List.getElem_cons_succ, List.getElem_cons_zero, List.setIfInBounds_toArray, List.set_cons_zero, List.set_cons_succ])
        refine wpAnyH_take (i := 5) (v := ?v5) rfl (by kernel_rfl) (by kernel_rfl) (by kernel_rfl) (fun _ _ _ h => h) (Or.inl ⟨by kernel_rfl, ?y5⟩) (by assumption) ?r5
        case y5 => (intro wq hSw; (try dsimp only at hSw); go_simp; (try with_reducible rfl))
        (try simp only [Act.put, List.getElem_toArray, List.getElem_cons_succ, List.getElem_cons_zero, List.setIfInBounds_toArray, List.set_cons_zero, List.set_cons_succ])
        refine wpAnyH_take (i := 6) (v := ?v6) rfl (by kernel_rfl) (by kernel_rfl) (by kernel_rfl) (fun _ _ _ h => h) (Or.inl ⟨by kernel_rfl, ?y6⟩) (by assumption) ?r6
        case y6 => (intro wq hSw; (try dsimp only at hSw); go_simp; (try with_reducible rfl))
        (try simp only [Act.put, List.getElem_toArray, List.getElem_cons_succ, List.getElem_cons_zero, List.setIfInBounds_toArray, List.set_cons_zero, List.set_cons_succ])
        refine wpAnyH_take (i := 7) (v := ?v7) rfl (by kernel_rfl) (by kernel_rfl) (by kernel_rfl) (fun _ _ _ h => h) (Or.inl ⟨by kernel_rfl, ?y7⟩) (by assumption) ?r7
        case y7 => (intro wq hSw; (try dsimp only at hSw); go_simp; (try with_reducible rfl))
        (try simp only [Act.put, List.getElem_toArray, List.getElem_cons_succ, List.getElem_cons_zero, List.setIfInBounds_toArray, List.set_cons_zero, List.set_cons_succ])
        refine wpAnyH_take (i := 8) (v := ?v8) rfl (by kernel_rfl) (by kernel_rfl) (by kernel_rfl) (fun _ _ _ h => h) (Or.inl ⟨by kernel_rfl, ?y8⟩) (by assumption) ?r8
        case y8 => (intro wq hSw; (try dsimp only at hSw); go_simp; (try with_reducible rfl))
        (try simp only [Act.put, List.getElem_toArray, List.getElem_cons_succ, List.getElem_cons_zero, List.setIfInBounds_toArray, List.set_cons_zero, List.set_cons_succ])
        refine wpAnyH_take (i := 9) (v := ?v9) rfl (by kernel_rfl) (by kernel_rfl) (by kernel_rfl) (fun _ _ _ h => h) (Or.inl ⟨by kernel_rfl, ?y9⟩) (by assumption) ?r9
        case y9 => (intro wq hSw; (try dsimp only at hSw); go_simp; (try with_reducible rfl))
        (try simp only [Act.put, List.getElem_toArray, List.getElem_cons_succ, List.getElem_cons_zero, List.setIfInBounds_toArray, List.set_cons_zero, List.set_cons_succ])
        refine wpAnyH_take (i := 10) (v := ?v10) rfl (by kernel_rfl) (by kernel_rfl) (by kernel_rfl) (fun _ _ _ h => h) (Or.inl ⟨by kernel_rfl, ?y10⟩) (by assumption) ?r10
        case y10 => (intro wq hSw; (try dsimp only at hSw); go_simp; (try with_reducible rfl))
        (try simp only [Act.put, List.getElem_toArray, List.getElem_cons_succ, List.getElem_cons_zero, List.setIfInBounds_toArray, List.set_cons_zero, List.set_cons_succ])
        refine wpAnyH_ready (rs := [11]) (by kernel_rfl) (by simp) ?_
        refine AllReadyH.cons rfl (fun K hK => ?_) AllReadyH.nil
        go_simp
        refine (HBAND.out _ P1.drew.2).mono ?_
        rintro e1 w1 ⟨rv, rfl, hO, hb⟩; have P2 := P1.drew.next hb; have HLAY := Lib.hid (lay_c w6.heap.size w6.heap.size _ v rv t.rs runs t.last w1 P2.1 hO (fun g e e' => by have h1 := (P1.drew.1.2.1.lt e).2; have h2 := (hO.lt e').1; omega) P2.2.size (by omega) (by have := HRL.out; omega) HHI.out (fun r hr => by have h := HRH.out r hr; unfold okH at h; omega))
        (try dsimp only)
        refine hK.out _ _ (by exact HS.out _ P2.2) (fun hHeld => ?_)
        clear hK K
        (try simp only [Act.put, List.getElem_toArray, List.getElem_cons_succ, List.getElem_cons_zero, List.setIfInBounds_toArray, List.set_cons_zero, List.set_cons_succ])
        refine wpAnyH_ready (rs := [12]) (by kernel_rfl) (by simp) ?_
        refine AllReadyH.cons rfl (fun K hK => ?_) AllReadyH.nil
        go_simp
        refine (HLAY.out).mono ?_
        rintro e2 w2 ⟨rfl, v', hF, hk', hw⟩; have P3 := P2.lay hF hk'
        (try dsimp only)
        refine hK.out _ _ (by exact HS.out _ P3.2) (fun hHeld => ?_)
        clear hK K
        (try simp only [Act.put, List.getElem_toArray, List.getElem_cons_succ, List.getElem_cons_zero, List.setIfInBounds_toArray, List.set_cons_zero, List.set_cons_succ])
        refine wpAnyH_done (by kernel_rfl) ?_ _
        refine NoPanic.normal ?_
        clear hHeld hF hk' hw hO hb P2 HLAY P1
        obtain ⟨p', c', rfl⟩ := P3.1.2.1.slice
        rw [← show (cmbF rl ds ys i).rs = layR t.rs t.last runs by rw [HX.out], ← show (cmbF rl ds ys i).last = layL t.rs t.last runs by rw [HX.out]] at P3
        obtain ⟨m, hm⟩ : ∃ m, m = (cmbF rl ds ys i).rs.length := ⟨_, rfl⟩
        rw [← hm] at P3
        have HM := Lib.hid hm
        clear hm HX
        obtain ⟨⟨z0, z1⟩, _⟩ := P3.1.1.c2
        have hlf := P3.1.1.lt
        by_cases hlim : 256 < m
        · have hlim' : (256 : Int) < (m : Int) := by omega
          go_wp2_with fail
          refine bodyPost_ret (v := .tuple #[.slice none 0 0, .int .i64 2]) (by simp [results, Try.results22, go_sem]) rfl ?_
          refine ⟨.inr ⟨HF0.out, ds, ys, HP.out, HSO.out, HY1.out, HY2.out, .inl ⟨?_, rfl⟩⟩, B6.trans (P3.2.mono HBW.out)⟩
          have h := cmb_len rl ds ys i (n - 1 - i)
          rw [show i + (n - 1 - i) = ys.length - 1 by rw [← HN.out]; omega, ← HM.out] at h
          omega
        · have hlim' : ¬ (256 : Int) < (m : Int) := by omega
          go_wp2_with fail
          go_roundw
          case rel => exact ⟨i + 1, _, by omega, by omega, by go_num, by rw [Nat.add_sub_cancel, ← HM.out]; omega, by rw [Nat.add_sub_cancel]; exact P3⟩
          case measure => simp [intOf]; omega
      · obtain ⟨⟨z0, z1⟩, _⟩ := P1.1.1.c2
        have hlf := P1.1.1.lt
        have HI := Lib.hid (show i - 1 = ys.length - 1 by rw [← HN.out]; omega)
        have hlt' : ¬ (i : Int) < (n : Int) := by omega
        clear hk
        go_wp2_with fail
        refine bodyPost_ret (v := .tuple #[v, .int .i64 0]) (by simp [results, Try.results22, go_sem]) rfl ?_
        refine ⟨.inr ⟨HF0.out, ds, ys, HP.out, HSO.out, HY1.out, HY2.out, .inr ⟨by rw [← HI.out]; exact hlen, v, rfl, by rw [← HI.out]; exact OwK.less P1.1.2.1 HBW.out⟩⟩, B6.trans (P1.2.mono HBW.out)⟩
  · go_wp2_with fail
    refine bodyPost_ret (v := .tuple #[.slice none 0 0, .int .i64 ff]) (by simp [results, Try.results22, go_sem]) rfl ?_
    exact ⟨.inl ⟨by rw [← HF.out]; exact hz, by rw [← HF.out]⟩, hB1⟩
end Go.Proofs.Ytfabknabkcfpjaa
