/- The document's Nearest, walked. -/
import Derived.Test.YteaeccmlibmmmaaArF
import Derived.Test.YteaeccmlibmmmaaArG
import Derived.Test.YteaeccmlibmmmaaGeoE
import Derived.BigQuiet
namespace Go.Proofs.Yteaeccmlibmmmaa.Ar
open Go.RowKit Go.Shelf
/-- Places between two runs, told in any world. -/
def BtP (a n b m g : Int) : Prop := ∀ W, Calls Try.prog 46 #[.int .i64 a, .int .i64 n, .int .i64 b, .int .i64 m] W fun e w' => e = .returned (.int .i64 g) ∧ w' = W
theorem BtP.use {a n b m g : Int} (h : BtP a n b m g) (W : World) : Calls Try.prog 46 #[.int .i64 a, .int .i64 n, .int .i64 b, .int .i64 m] W fun e w' => e = .returned (.int .i64 g) ∧ w' = W := h W
set_option maxHeartbeats 4000000 in
set_option maxRecDepth 100000 in
theorem rnear_c (v : Value) (l : List Out) (r : Rc) (w : World) (hR : RdK encO 5 w v l) (hn : l.length ≤ 9223372036854775807) :
    Calls Try.prog 20 #[v, rcV r] w fun e w' => e = .returned (.int .i64 (nearI l r)) ∧ Below w.heap.size w w' := by
  obtain ⟨p, c, rfl, hcell⟩ := hR
  obtain ⟨n, hln⟩ : ∃ n, n = l.length := ⟨_, rfl⟩
  rw [← hln] at hn ⊢
  have hQ0 := Blk.new w 29 (RcC r)
  have hB0 := (Below.refl w.heap.size w).alloc (Nat.le_refl _) (.cells (RcC r) 29)
  have HRR := Lib.hid (fun W => rright_c r.x r.y r.w r.h W)
  by_cases h0 : n = 0
  · have HZ := Lib.hid (near_none (l := l) (r := r) (.inl (by omega)))
    subst h0
    clear hcell hn HRR hln
    go_enter Try.func20, Try.ntmps20
    go_wp2_with fail
    go_ret
    exact ⟨by rw [HZ.out]; rfl, hB0⟩
  · have hne : ((n : Int) == 0) = false := by rw [beq_eq_false_iff_ne]; omega
    cases hr : rightB r.x r.y r.w r.h
    · have HZ := Lib.hid (near_none (l := l) (r := r) (.inr (.inl hr)))
      rw [hr] at HRR
      clear hcell hn hln hr
      go_enter Try.func20, Try.ntmps20
      go_wp2_with fail
      refine (HRR.out _).mono ?_
      rintro e w1 ⟨rfl, hb⟩
      go_wp2_with fail
      go_ret
      exact ⟨by rw [HZ.out]; rfl, hB0.trans (hb.mono hB0.size)⟩
    · rw [hr] at HRR
      have HC := Lib.hid hcell
      have HN := Lib.hid hln
      have HRI := Lib.hid hr
      have HDN := Lib.hid (fun hw => near_dn (l := l) (r := r) (by omega) hr hw)
      have HNW := Lib.hid (fun h => near_none (l := l) (r := r) (.inr (.inr h)))
      obtain ⟨z, hz⟩ : ∃ z, z = nearI l r := ⟨_, rfl⟩
      rw [← hz] at HDN HNW ⊢
      clear hcell hln hr hz h0
      go_enter Try.func20, Try.ntmps20
      go_wp2_with fail
      refine (HRR.out _).mono ?_
      rintro e w1 ⟨rfl, hb⟩
      have hB1 := hB0.trans (hb.mono hB0.size)
      have hQ1 := hQ0.next hb
      clear hb hB0 hQ0 HRR
      go_upto_region 5 with fail
      go_loopw [5, 6, 7, 8] (fun b9 m9 l9 y wr => ∃ k : Nat, k ≤ n ∧ y = .int .i64 k ∧ b9 = .int .i64 ((dnS l r k).1 : Nat) ∧ m9 = .int .i64 (dnS l r k).2.1 ∧ l9 = .int .i64 (dnS l r k).2.2 ∧ Below w.heap.size w wr ∧ Blk wr w.heap.size 29 (RcC r) ∧ Asd (∀ (j : Nat) (x : Out), j < k → l[j]? = some x → rightB x.x x.y x.w x.h = true)) (fun _ _ _ y _ => n - (intOf y).toNat)
      case atStart => exact ⟨0, Nat.zero_le _, rfl, rfl, rfl, rfl, hB1, hQ1, fun j x hj => absurd hj (Nat.not_lt_zero j)⟩
      case round =>
        clear hB1 hQ1
        obtain ⟨k, hk, rfl, rfl, rfl, rfl, hB, hQ, hA⟩ := hrel
        have HA := Lib.hid (show ∀ (j : Nat) (x : Out), j < k → l[j]? = some x → rightB x.x x.y x.w x.h = true from hA)
        clear hA
        by_cases hlt : k < n
        · obtain ⟨x, hx⟩ : ∃ x, l[k]? = some x := ⟨_, List.getElem?_eq_getElem (by rw [← HN.out]; exact hlt)⟩
          obtain ⟨b, o, rfl, hb1, hb2⟩ := HC.out k x hx
          obtain ⟨y0, y1, y2, y3, y4⟩ := RdK.out (w := wr) (fun i u hu => (hB.cell (p := ⟨b, o + k * 5 + i, none⟩) hb1).trans (hb2 i u hu))
          have HX := Lib.hid hx
          have HST := Lib.hid (dn_step (r := r) hx)
          have hi0 : (0 : Int) ≤ (k : Int) := by omega
          have hi1 : (k : Int) < (n : Int) := by omega
          have HRX := Lib.hid (fun W => rright_c x.x x.y x.w x.h W)
          obtain ⟨⟨d1, d2, d3⟩, hd⟩ : ∃ d, d = dnS l r k := ⟨_, rfl⟩
          rw [← hd] at HST ⊢
          have HBB := Lib.hid hB
          have HQQ := Lib.hid hQ
          have hbx := (Below.refl wr.heap.size wr).alloc (Nat.le_refl _) (.cells (RcC ⟨x.x, x.y, x.w, x.h⟩) 29)
          have HBX := Lib.hid hbx
          have HQX := Lib.hid (Blk.new wr 29 (RcC ⟨x.x, x.y, x.w, x.h⟩))
          have HQR := Lib.hid (hQ.next hbx)
          cases hrx : rightB x.x x.y x.w x.h
          · have HZ := Lib.hid (HNW.out (List.any_eq_true.2 ⟨x, List.mem_of_getElem? hx, by unfold wrongO; rw [hrx]; rfl⟩))
            rw [hrx] at HRX
            clear hb1 hb2 hx hd hrx hB hQ hbx HNW HDN
            go_wp2_with fail
            refine (HRX.out _).mono ?_
            rintro e w2 ⟨rfl, hb⟩
            have hb3 := HBX.out.trans (hb.mono HBX.out.size)
            have HB2 := Lib.hid (HBB.out.trans (hb3.mono HBB.out.size))
            clear hb hb3
            go_wp2_with fail
            go_ret
            exact ⟨by rw [HZ.out]; rfl, HB2.out⟩
          · rw [hrx] at HRX
            have HRXX := Lib.hid hrx
            obtain ⟨q1, q2, q3, q4, q5, q6, q7, q8⟩ := right_in hrx
            obtain ⟨s1, s2, s3, s4, s5, s6, s7, s8⟩ := right_in HRI.out
            have HIN := Lib.hid (fun W => rinter_c r.x r.y r.w r.h x.x x.y x.w x.h W)
            have HSY := Lib.hid (shared_sym x r)
            have HGX : BtP r.x r.w x.x x.w (gapI x.x (x.x + x.w) r.x (r.x + r.w)) := fun W => between_c _ _ _ _ W (by omega) (by omega) (by omega) (by omega)
            have HGY : BtP r.y r.h x.y x.h (gapI x.y (x.y + x.h) r.y (r.y + r.h)) := fun W => between_c _ _ _ _ W (by omega) (by omega) (by omega) (by omega)
            have hgx := gap_in (a := x.x) (b := x.x + x.w) (c := r.x) (d := r.x + r.w) (by omega) (by omega) (by omega) (by omega)
            have hgy := gap_in (a := x.y) (b := x.y + x.h) (c := r.y) (d := r.y + r.h) (by omega) (by omega) (by omega) (by omega)
            have hw9 : awayI x r = gapI x.x (x.x + x.w) r.x (r.x + r.w) * gapI x.x (x.x + x.w) r.x (r.x + r.w) + gapI x.y (x.y + x.h) r.y (r.y + r.h) * gapI x.y (x.y + x.h) r.y (r.y + r.h) := rfl
            obtain ⟨gx, ex⟩ : ∃ g, g = gapI x.x (x.x + x.w) r.x (r.x + r.w) := ⟨_, rfl⟩
            obtain ⟨gy, ey⟩ : ∃ g, g = gapI x.y (x.y + x.h) r.y (r.y + r.h) := ⟨_, rfl⟩
            rw [← ex] at HGX hgx hw9
            rw [← ey] at HGY hgy hw9
            obtain ⟨t1, t2⟩ := sq_in hgx.1 hgx.2
            obtain ⟨t3, t4⟩ := sq_in hgy.1 hgy.2
            have e5 : IntKind.i64.wrap (gx * gx) = gx * gx := IntWalk.i64_in _ (by omega)
            have e6 : IntKind.i64.wrap (gy * gy) = gy * gy := IntWalk.i64_in _ (by omega)
            have e7 : IntKind.i64.wrap (gx * gx + gy * gy) = gx * gx + gy * gy := IntWalk.i64_in _ (by omega)
            rw [hw9] at HST
            obtain ⟨i, hi⟩ : ∃ i, i = interR r.x r.y r.w r.h x.x x.y x.w x.h := ⟨_, rfl⟩
            rw [← hi] at HIN HSY
            have HAR := Lib.hid (fun W => rarea_c i.x i.y i.w i.h W)
            rw [show areaI i.x i.y i.w i.h = sharedI x r from HSY.out] at HAR
            obtain ⟨sh, hsh⟩ : ∃ s, s = sharedI x r := ⟨_, rfl⟩
            rw [← hsh] at HAR HST
            clear hb1 hb2 hx hd hrx hB hQ hbx HNW HDN q1 q2 q3 q4 q5 q6 q7 q8 s1 s2 s3 s4 s5 s6 s7 s8 ex ey hgx hgy hw9 t1 t2 t3 t4 hi hsh HSY
            go_wp2_with fail
            refine (HRX.out _).mono ?_
            rintro e w2 ⟨rfl, hb⟩
            have hbY := HBX.out.trans (hb.mono HBX.out.size)
            have HB2 := Lib.hid (HBB.out.trans (hbY.mono HBB.out.size))
            have HX2 := Lib.hid (HQX.out.next hb)
            have HR2 := Lib.hid (HQR.out.next hb)
            clear hb hbY
            obtain ⟨⟨r0, r1, r2, r3⟩, -⟩ := HR2.out.c4
            obtain ⟨⟨x0, x1, x2, x3⟩, -⟩ := HX2.out.c4
            go_wp2_with fail
            refine (HIN.out _).mono ?_
            rintro e w3 ⟨rfl, hb⟩
            have HB3 := Lib.hid (HB2.out.trans (hb.mono HB2.out.size))
            have HX3 := Lib.hid (HX2.out.next hb)
            have HR3 := Lib.hid (HR2.out.next hb)
            clear hb r0 r1 r2 r3 x0 x1 x2 x3
            go_wp2_with fail
            refine (HAR.out _).mono ?_
            rintro e w4 ⟨rfl, hb⟩
            have HB4 := Lib.hid (HB3.out.trans (hb.mono HB3.out.size))
            have HX4 := Lib.hid (HX3.out.next hb)
            have HR4 := Lib.hid (HR3.out.next hb)
            clear hb
            obtain ⟨⟨r0, r1, r2, r3⟩, -⟩ := HR4.out.c4
            obtain ⟨⟨x0, x1, x2, x3⟩, -⟩ := HX4.out.c4
            go_upto_region 11 with fail
            go_quiet ((go_at_call 46; exact Calls.quiet_of_same (BtP.use (by with_reducible assumption) _)))
            obtain ⟨w5, hw5⟩ : ∃ w5, w5 = w4.drewN nq := ⟨_, rfl⟩
            have HB5 := Lib.hid (below_drewN HB4.out nq)
            have HR5 := Lib.hid (HR4.out.drewN nq)
            rw [← hw5] at HB5 HR5
            rw [← hw5]
            clear hw5 r0 r1 r2 r3 x0 x1 x2 x3 HGX HGY
            by_cases k0 : k = 0
            · subst k0
              have HE := Lib.hid (HST.out.trans (if_pos (.inl rfl)))
              go_wp2_with fail
              go_roundw
              case rel => exact ⟨0 + 1, by omega, by go_num, by rw [HE.out], by rw [HE.out], by rw [HE.out], HB5.out, HR5.out, fun j y hj hy => by
                obtain rfl : j = 0 := by omega
                rw [HX.out] at hy; injection hy with hy; subst hy; exact HRXX.out⟩
              case measure => simp [intOf]; omega
            · have hkn : ((k : Int) == 0) = false := by rw [beq_eq_false_iff_ne]; omega
              have HAA : Hid (∀ (j : Nat) (y : Out), j < k + 1 → l[j]? = some y → rightB y.x y.y y.w y.h = true) := fun j y hj hy => by
                rcases Nat.lt_or_ge j k with h | h
                · exact HA.out j y h hy
                · obtain rfl : j = k := by omega
                  rw [HX.out] at hy; injection hy with hy; subst hy; exact HRXX.out
              have HK0 := Lib.hid k0
              by_cases c1 : d2 < sh
              · have HE := Lib.hid (HST.out.trans (if_pos (.inr (.inl c1))))
                clear k0
                go_wp2_with fail
                go_roundw
                case rel => exact ⟨k + 1, by omega, by go_num, by rw [HE.out], by rw [HE.out], by rw [HE.out], HB5.out, HR5.out, HAA.out⟩
                case measure => simp [intOf]; omega
              · by_cases c2 : sh = 0 ∧ d2 = 0 ∧ gx * gx + gy * gy < d3
                · have HE := Lib.hid (HST.out.trans (if_pos (.inr (.inr c2))))
                  obtain ⟨c3, c4, c5⟩ := c2
                  have g3 : (sh == 0) = true := by rw [c3]; rfl
                  have g4 : (d2 == 0) = true := by rw [c4]; rfl
                  clear k0 c3 c4
                  go_wp2_with fail
                  go_roundw
                  case rel => exact ⟨k + 1, by omega, by go_num, by rw [HE.out], by rw [HE.out], by rw [HE.out], HB5.out, HR5.out, HAA.out⟩
                  case measure => simp [intOf]; omega
                · have HE := Lib.hid (HST.out.trans (if_neg (by rintro (h | h | h); exact HK0.out h; exact c1 h; exact c2 h)))
                  have hc : (sh == 0) = false ∨ ((sh == 0) = true ∧ (d2 == 0) = false) ∨ ((sh == 0) = true ∧ (d2 == 0) = true ∧ ¬ gx * gx + gy * gy < d3) := by
                    by_cases a1 : sh = 0
                    · by_cases a2 : d2 = 0
                      · exact .inr (.inr ⟨by rw [a1]; rfl, by rw [a2]; rfl, fun h => c2 ⟨a1, a2, h⟩⟩)
                      · exact .inr (.inl ⟨by rw [a1]; rfl, by rw [beq_eq_false_iff_ne]; exact a2⟩)
                    · exact .inl (by rw [beq_eq_false_iff_ne]; exact a1)
                  clear k0 c2
                  rcases hc with g3 | ⟨g3, g4⟩ | ⟨g3, g4, g5⟩
                  all_goals
                    go_wp2_with fail
                    go_roundw
                    case rel => exact ⟨k + 1, by omega, by go_num, by rw [HE.out], by rw [HE.out], by rw [HE.out], HB5.out, HR5.out, HAA.out⟩
                    case measure => simp [intOf]; omega
        · obtain rfl : k = n := by omega
          have HZ := Lib.hid (HDN.out fun o ho => by
            obtain ⟨j, hj⟩ := List.getElem?_of_mem ho
            exact HA.out j o (by have h1 := (List.getElem?_eq_some_iff.1 hj).1; have h2 := HN.out; omega) hj)
          rw [← HN.out] at HZ
          obtain ⟨⟨d1, d2, d3⟩, hd⟩ : ∃ d, d = dnS l r k := ⟨_, rfl⟩
          rw [← hd] at HZ ⊢
          clear hd HDN HNW
          go_wp2_with fail
          go_ret
          exact ⟨by rw [HZ.out]; rfl, hB⟩
end Go.Proofs.Yteaeccmlibmmmaa.Ar
