/- The reference's Set: its faults, walked. -/
import Derived.Test.YtfabknabkcfpjaaRjG
namespace Go.Proofs.Ytfabknabkcfpjaa
open Go.RowKit Go.Shelf
set_option maxRecDepth 100000 in
set_option maxHeartbeats 16000000 in
theorem rset_c (how : Int) (rl : Bool → Bool → Bool) (hh : Asks how rl) (va vb : Value) (la lb : List Rc) (w : World) (ha : RdK encR 4 w va la) (hb : RdK encR 4 w vb lb) (hla : la.length ≤ 4398046511104) (hlb : lb.length ≤ 4398046511104) :
    Calls Try.prog 12 #[.int .i64 how, va, vb] w fun e w' => SetR rl la lb w w' e := by
  obtain ⟨pa, ca, rfl, hca⟩ := id ha
  obtain ⟨pb, cb, rfl, hcb⟩ := id hb
  have HA := Lib.hid ha
  have HB := Lib.hid hb
  obtain ⟨n, hn⟩ : ∃ n, n = la.length := ⟨_, rfl⟩
  obtain ⟨m, hm⟩ : ∃ m, m = lb.length := ⟨_, rfl⟩
  rw [← hn] at hla HA ⊢
  rw [← hm] at hlb HB ⊢
  have HN := Lib.hid hn
  have HM := Lib.hid hm
  have HCA := Lib.hid hca
  have HCB := Lib.hid hcb
  clear ha hb hn hm hca hcb
  go_enter Try.func12, Try.ntmps12
  by_cases hlong : 256 < n ∨ 256 < m
  · have HF := Lib.hid (fault_long (la := la) (lb := lb) (by rw [← HN.out, ← HM.out]; exact hlong))
    have hl2 : 256 < n ∨ (¬ 256 < n ∧ 256 < m) := by omega
    clear hlong
    rcases hl2 with h | ⟨h, h2⟩
    · have h1 : (256 : Int) < (n : Int) := by omega
      go_wp2_with fail
      refine bodyPost_ret (v := .tuple #[.slice none 0 0, .int .i64 2]) (by simp [results, Try.results12, go_sem]) rfl ?_
      exact ⟨_, _, [], rfl, .inl ⟨by rw [HF.out]; decide, HF.out.symm, rfl⟩, RdK.nil _ _, Below.refl _ _⟩
    · have h1 : ¬ (256 : Int) < (n : Int) := by omega
      have h3 : (256 : Int) < (m : Int) := by omega
      go_wp2_with fail
      refine bodyPost_ret (v := .tuple #[.slice none 0 0, .int .i64 2]) (by simp [results, Try.results12, go_sem]) rfl ?_
      exact ⟨_, _, [], rfl, .inl ⟨by rw [HF.out]; decide, HF.out.symm, rfl⟩, RdK.nil _ _, Below.refl _ _⟩
  · have hn1 : n ≤ 256 := by omega
    have hm1 : m ≤ 256 := by omega
    have h1 : ¬ (256 : Int) < (n : Int) := by omega
    have h3 : ¬ (256 : Int) < (m : Int) := by omega
    clear hlong hla hlb
    go_upto_region 3 with fail
    go_wp2_with fail
    have hwnm : IntKind.i64.wrap ((n : Int) + (m : Int)) = ((n + m : Nat) : Int) := by rw [IntWalk.i64_in _ (by omega)]; omega
    go_loopw [8] (fun z wr => ∃ i : Nat, i ≤ n + m ∧ z = .int .i64 i ∧ Below w.heap.size w wr ∧ Asd (∀ s ∈ (la ++ lb).take i, badR s = false)) (fun z _ => n + m - (intOf z).toNat)
    case atStart => exact ⟨0, Nat.zero_le _, rfl, Below.refl _ _, fun s hs => by simp at hs⟩
    case round =>
      obtain ⟨i, hi, rfl, hB, hA⟩ := hrel
      have HOK := Lib.hid (show ∀ s ∈ (la ++ lb).take i, badR s = false from hA)
      clear hA
      have hi0 : (0 : Int) ≤ (i : Int) := by omega
      by_cases hlt : i < n + m
      · have hi5 : (i : Int) < ((n + m : Nat) : Int) := by omega
        have hi6 : (i : Int) < (n : Int) + (m : Int) := by omega
        rcases Nat.lt_or_ge i n with h0 | h0
        · obtain ⟨r, hx⟩ : ∃ r, la[i]? = some r := ⟨_, List.getElem?_eq_getElem (by rw [← HN.out]; exact h0)⟩
          obtain ⟨b, o, rfl, hb1, hb2⟩ := HCA.out i r hx
          obtain ⟨r0, r1, r2, r3⟩ := RdK.rect (w := wr) (fun i' u hu => (hB.cell (p := ⟨b, o + i * 4 + i', none⟩) hb1).trans (hb2 i' u hu))
          have hxx : (la ++ lb)[i]? = some r := by rw [List.getElem?_append_left (by rw [← HN.out]; exact h0)]; exact hx
          have HSN := Lib.hid (fun h => bad_snoc HOK.out hxx h)
          have HFB := Lib.hid (fun h => fault_bad (la := la) (lb := lb) (by rw [← HN.out]; exact hn1) (by rw [← HM.out]; exact hm1) hxx h)
          have hi1 : (i : Int) < (n : Int) := by omega
          have HR := Lib.hid (fun W => rright_c r.x r.y r.w r.h W)
          clear hb2 hx hxx
          cases hr : rightB r.x r.y r.w r.h
          · rw [hr] at HR
            have HF := Lib.hid (HFB.out (show badR r = true by unfold badR; rw [hr]; rfl))
            clear hr HFB HSN
            go_wp2_with (go_at_call 24; (with_reducible refine (HR.out _).mono ?_); rintro e1 w1 ⟨rfl, hb⟩; have hB1 := below_then hB hb; clear hb hB)
            refine bodyPost_ret (v := .tuple #[.slice none 0 0, .int .i64 10]) (by simp [results, Try.results12, go_sem]) rfl ?_
            exact ⟨_, _, [], rfl, .inl ⟨by rw [HF.out]; decide, HF.out.symm, rfl⟩, RdK.nil _ _, hB1⟩
          · rw [hr] at HR
            have HS := Lib.hid (HSN.out (show badR r = false by unfold badR; rw [hr]; rfl))
            clear hr HFB HSN
            have hi7 : ¬ (n : Int) ≤ (i : Int) := by omega
            go_wp2_with (go_at_call 24; (with_reducible refine (HR.out _).mono ?_); rintro e1 w1 ⟨rfl, hb⟩; have hB1 := below_then hB hb; clear hb hB)
            go_roundw
            case rel => exact ⟨i + 1, by omega, by go_num, hB1, HS.out⟩
            case measure => simp [intOf]; omega
        · obtain ⟨k, rfl⟩ : ∃ k, i = n + k := ⟨i - n, by omega⟩
          obtain ⟨r, hx⟩ : ∃ r, lb[k]? = some r := ⟨_, List.getElem?_eq_getElem (by rw [← HM.out]; omega)⟩
          obtain ⟨b, o, rfl, hb1, hb2⟩ := HCB.out k r hx
          obtain ⟨r0, r1, r2, r3⟩ := RdK.rect (w := wr) (fun i' u hu => (hB.cell (p := ⟨b, o + k * 4 + i', none⟩) hb1).trans (hb2 i' u hu))
          have hxx : (la ++ lb)[n + k]? = some r := by rw [List.getElem?_append_right (by rw [← HN.out]; omega), ← HN.out, show n + k - n = k by omega]; exact hx
          have HSN := Lib.hid (fun h => bad_snoc HOK.out hxx h)
          have HFB := Lib.hid (fun h => fault_bad (la := la) (lb := lb) (by rw [← HN.out]; exact hn1) (by rw [← HM.out]; exact hm1) hxx h)
          have hi1 : ¬ ((n + k : Nat) : Int) < (n : Int) := by omega
          have hi2 : ¬ (n : Int) + (k : Int) < (n : Int) := by omega
          have hi3 : (n : Int) ≤ ((n + k : Nat) : Int) := by omega
          have hi4 : (n : Int) ≤ (n : Int) + (k : Int) := by omega
          have hwk : IntKind.i64.wrap (((n + k : Nat) : Int) - (n : Int)) = (k : Int) := by rw [IntWalk.i64_in _ (by omega)]; omega
          have hwk2 : IntKind.i64.wrap ((n : Int) + (k : Int) - (n : Int)) = (k : Int) := by rw [IntWalk.i64_in _ (by omega)]; omega
          have hk0 : (0 : Int) ≤ (k : Int) := by omega
          have hk1 : (k : Int) < (m : Int) := by omega
          have HR := Lib.hid (fun W => rright_c r.x r.y r.w r.h W)
          clear hb2 hx hxx
          cases hr : rightB r.x r.y r.w r.h
          · rw [hr] at HR
            have HF := Lib.hid (HFB.out (show badR r = true by unfold badR; rw [hr]; rfl))
            clear hr HFB HSN
            go_wp2_with (go_at_call 24; (with_reducible refine (HR.out _).mono ?_); rintro e1 w1 ⟨rfl, hb⟩; have hB1 := below_then hB hb; clear hb hB)
            refine bodyPost_ret (v := .tuple #[.slice none 0 0, .int .i64 10]) (by simp [results, Try.results12, go_sem]) rfl ?_
            exact ⟨_, _, [], rfl, .inl ⟨by rw [HF.out]; decide, HF.out.symm, rfl⟩, RdK.nil _ _, hB1⟩
          · rw [hr] at HR
            have HS := Lib.hid (HSN.out (show badR r = false by unfold badR; rw [hr]; rfl))
            clear hr HFB HSN
            go_wp2_with (go_at_call 24; (with_reducible refine (HR.out _).mono ?_); rintro e1 w1 ⟨rfl, hb⟩; have hB1 := below_then hB hb; clear hb hB)
            go_roundw
            case rel => exact ⟨n + k + 1, by omega, by go_num, hB1, HS.out⟩
            case measure => simp [intOf]; omega
      · obtain rfl : i = n + m := by omega
        have hexit : ¬ ((n + m : Nat) : Int) < ((n + m : Nat) : Int) := by omega
        have hexit2 : ¬ (n : Int) + (m : Int) < (n : Int) + (m : Int) := by omega
        have HOO := Lib.hid (fault_none (la := la) (lb := lb) (by rw [← HN.out]; exact hn1) (by rw [← HM.out]; exact hm1) (by have := HOK.out; rwa [List.take_of_length_le (by rw [List.length_append, ← HN.out, ← HM.out]; omega)] at this))
        clear HOK hi hlt
        have HLN := Lib.hid (show la.length ≤ 256 ∧ lb.length ≤ 256 by rw [← HN.out, ← HM.out]; exact ⟨hn1, hm1⟩)
        go_upto_region 10 with (first
          | (go_at_call 25; have g0 := HA.out.below hB; have g1 := HOO.out.1.2; have g2 : ([] : List Int).length + 2 * la.length ≤ 1000000 := (by have := HLN.out.1; simp; omega); (with_reducible refine (edges_c false (.slice pa n ca) (.slice none 0 0) la [] _ g0 (OI.nil _) g1 g2).mono ?_); rintro e1 w1 ⟨x1, rfl, hO1, hb⟩; have B1 := below_then hB hb; have X1 := Lib.hid hO1; clear hO1 hb hB g0 g1 g2)
          | (go_at_call 25; have g0 := HB.out.below B1; have g1 := HOO.out.2.2; have g2 : (edgL false [] la).length + 2 * lb.length ≤ 1000000 := (by have h1 := edgL_len false [] la; have := HLN.out; simp at h1; omega); (with_reducible refine (edges_c false (.slice pb m cb) x1 lb _ _ g0 X1.out g1 g2).mono ?_); rintro e2 w2 ⟨vx, rfl, hO2, hb⟩; have B2 := below_then B1 hb; have X2 := Lib.hid hO2; clear hO2 hb B1 g0 g1 g2 X1)
          | (go_at_call 25; have g0 := HA.out.below B2; have g1 := HOO.out.1.2; have g2 : ([] : List Int).length + 2 * la.length ≤ 1000000 := (by have := HLN.out.1; simp; omega); (with_reducible refine (edges_c true (.slice pa n ca) (.slice none 0 0) la [] _ g0 (OI.nil _) g1 g2).mono ?_); rintro e3 w3 ⟨y1, rfl, hO3, hb⟩; have B3 := below_then B2 hb; have X3 := Lib.hid (X2.out.below hb); have Y3 := Lib.hid hO3; clear hO3 hb B2 g0 g1 g2 X2)
          | (go_at_call 25; have g0 := HB.out.below B3; have g1 := HOO.out.2.2; have g2 : (edgL true [] la).length + 2 * lb.length ≤ 1000000 := (by have h1 := edgL_len true [] la; have := HLN.out; simp at h1; omega); (with_reducible refine (edges_c true (.slice pb m cb) y1 lb _ _ g0 Y3.out g1 g2).mono ?_); rintro e4 w4 ⟨vy, rfl, hO4, hb⟩; have B4 := below_then B3 hb; have X4 := Lib.hid (X3.out.below hb); have Y4 := Lib.hid hO4; clear hO4 hb B3 g0 g1 g2 X3 Y3))
        have HED := Lib.hid (edges_all rl hh.none la lb HOO.out.1 HOO.out.2)
        have HRU := Lib.hid (fun (W : World) (h : Below w.heap.size w W) (xs : List Int) (vx : Value) (y : Int) (hO : OI W vx xs) (hu : xs.Pairwise (· < ·)) (hl : xs.length ≤ 100000) (hm : ∀ x ∈ xs, -32768 ≤ x) => runs_c how rl hh (.slice pa n ca) (.slice pb m cb) vx la lb xs y W (HA.out.below h) (HB.out.below h) (by have := HLN.out; omega) (by have := HLN.out; omega) hO.reads hu hl hm)
        have P0 : Gst w [(vy, edgL true (edgL true [] la) lb), (vx, edgL false (edgL false [] la) lb)] (.slice none 0 0) [] w4 := ⟨fun p hp => by
          rcases List.mem_cons.1 hp with rfl | hp
          · exact Y4.out
          · rw [List.mem_singleton.1 hp]; exact X4.out, OwK.nil _ _, B4⟩
        clear X4 Y4 B4
        generalize edgL true (edgL true [] la) lb = ys at HED P0
        generalize edgL false (edgL false [] la) lb = xs at HED P0
        have HRU2 := Lib.hid (fun (W : World) (y : Int) (h : Below w.heap.size w W) (hO : OI W vx xs) => HRU.out W h xs vx y hO HED.out.1 HED.out.2.1 HED.out.2.2.1)
        clear HRU
        obtain ⟨now, hnow⟩ : ∃ now : Int → List (Int × Int), now = fun y => rowC (fun x => rl (inS la x y) (inS lb x y)) xs := ⟨_, rfl⟩
        have HRU := Lib.hid (show ∀ (W : World) (y : Int) (h : Below w.heap.size w W) (hO : OI W vx xs), Calls Try.prog 26 #[.int .i64 how, .slice pa n ca, .slice pb m cb, vx, .int .i64 y] W fun e w' => ∃ v', e = .returned v' ∧ OwK encI 3 1 w' W.heap.size v' (flatP (now y)) ∧ Below W.heap.size W w' by rw [hnow]; exact HRU2.out)
        have HFO := Lib.hid (show Rg.Form (takes rl la lb) ((setF now ys (ys.length - 1)).rs.map tp) by rw [hnow]; exact HED.out.2.2.2.2.2.2)
        have HNW := Lib.hid (show (∀ y, ∀ r ∈ now y, -32768 ≤ r.1 ∧ r.1 < r.2 ∧ r.2 ≤ 32768) ∧ ∀ y, (now y).length ≤ 1024 by rw [hnow]; exact HED.out.2.2.2.2.2.1)
        have HYS := Lib.hid (show ys.Pairwise (· < ·) ∧ (∀ v ∈ ys, -32768 ≤ v ∧ v ≤ 32768) ∧ ys.length ≤ 1024 from HED.out.2.2.2.1)
        have HXS := Lib.hid (show True from trivial)
        clear HRU2 hnow HED hh HCA HCB HA HB HXS
        go_wp2_with fail
        obtain ⟨ny, hny⟩ : ∃ ny, ny = ys.length := ⟨_, rfl⟩
        have HNY := Lib.hid hny
        have hny2 : ny ≤ 1024 := by rw [hny]; exact HYS.out.2.2
        obtain ⟨py, cy, rfl⟩ := (P0.get 0 rfl).slice
        rw [← hny] at P0 ⊢
        clear hny
        go_loopw [11, 12, 13, 14, 15, 16] (fun vo vl z a4 a5 a6 wr => ∃ j : Nat, (j < ny ∨ (j = 0 ∧ ny = 0)) ∧ z = .int .i64 j ∧ Gst w [(vl, flatP (curF now ys j)), (.slice py ny cy, ys), (vx, xs)] vo (setF now ys j).rs wr) (fun _ _ z _ _ _ _ => ny - (intOf z).toNat)
        case atStart => exact ⟨0, by omega, rfl, P0.add (Below.refl _ _) (OI.nil _)⟩
        case round =>
          obtain ⟨j, hj, rfl, P1⟩ := hrel
          clear P0
          have hj0 : (0 : Int) ≤ (j : Int) := by omega
          have hwj : IntKind.i64.wrap ((j : Int) + 1) = (j : Int) + 1 := IntWalk.i64_in _ (by omega)
          by_cases hlt : j + 1 < ny
          · obtain ⟨a, ha⟩ : ∃ a, ys[j]? = some a := ⟨_, List.getElem?_eq_getElem (by rw [← HNY.out]; omega)⟩
            obtain ⟨b, hb⟩ : ∃ b, ys[j + 1]? = some b := ⟨_, List.getElem?_eq_getElem (by rw [← HNY.out]; omega)⟩
            have HRN := Lib.hid (set_rnd now HYS.out.2.1 ha)
            have HNX := Lib.hid (setF_next (now := now) ha hb)
            have HCX := Lib.hid (curF_next (now := now) (ys := ys) ha)
            have hba := HYS.out.2.1 a (List.mem_of_getElem? ha)
            have hbb := HYS.out.2.1 b (List.mem_of_getElem? hb)
            obtain ⟨gy, oy, rfl, _, _⟩ := rdI (P1.get 1 rfl).reads ha
            have HYC := Lib.hid (fun (W : World) (h : OI W (.slice (some ⟨gy, oy, none⟩) ny cy) ys) => (show W.cell? ⟨gy, oy + j, none⟩ = some (.int .i64 a) ∧ W.cell? ⟨gy, oy + (j + 1), none⟩ = some (.int .i64 b) from by
              obtain ⟨_, _, ⟨⟩, _, k0⟩ := rdI h.reads ha
              obtain ⟨_, _, ⟨⟩, _, k1⟩ := rdI h.reads hb
              exact ⟨k0, k1⟩))
            have hlt' : (j : Int) + 1 < (ny : Int) := by omega
            have hlt'' : (j : Int) < (ny : Int) := by omega
            have hj1 : (0 : Int) ≤ (j : Int) + 1 := by omega
            have hj2 : ((j : Int) + 1).toNat = j + 1 := by omega
            clear ha hb hj
            have HFL := Lib.hid (setF_len HNW.out.2 ys j)
            generalize setF now ys j = F at P1 HRN HNX HFL
            generalize curF now ys j = C at P1 HRN
            obtain ⟨y0, y1⟩ := HYC.out _ (P1.get 1 rfl)
            have hqb := HNW.out.1 a
            have hql := HNW.out.2 a
            have HR := Lib.hid (fun (W : World) (h : Below w.heap.size w W) (hO : OI W vx xs) => HRU.out W a h hO)
            have HQB := Lib.hid hqb
            obtain ⟨q, hq⟩ : ∃ q, q = now a := ⟨_, rfl⟩
            rw [← hq] at HR HQB HNX HCX hql
            clear hqb hq
            go_upto_region 16 with (go_at_call 26; have g0 := P1.2.2; have g1 := P1.get 2 rfl; (with_reducible refine (HR.out _ g0 g1).mono ?_); rintro e5 w5 ⟨vn, rfl, hO5, hb5⟩; have P2 := P1.add hb5 (hO5.less (Nat.zero_le _)); clear hO5 hb5 P1 g0 g1 y0 y1)
            obtain ⟨pn, cn, rfl⟩ := (P2.get 0 rfl).slice
            obtain ⟨po, co, rfl⟩ := P2.2.1.slice
            rw [flatP_len] at P2 ⊢
            have hfl : F.rs.length = F.last + C.length := HRN.out.len
            obtain ⟨ql, hqlen⟩ : ∃ ql, ql = q.length := ⟨_, rfl⟩
            have HQL := Lib.hid hqlen
            rw [← hqlen] at hql P2 ⊢
            clear hqlen
            by_cases hq : q ≠ [] ∧ q = C
            · obtain ⟨hq0, rfl⟩ := hq
              have hql0 : 0 < ql := by rw [HQL.out]; exact List.length_pos_iff.2 hq0
              rw [← HQL.out] at hfl
              have HS := Lib.hid (sameI_yes (rfl : flatP q = flatP q))
              have hg0 : (0 : Int) < ((2 * ql : Nat) : Int) := by omega
              have hg1 : (0 : Int) < 2 * (ql : Int) := by omega
              go_upto_region 17 with (go_at_call 27; have g0 := (P2.get 0 rfl).reads; have g1 := (P2.get 1 rfl).reads; (with_reducible refine (rsame_c _ _ _ _ _ g0 g1 (by rw [flatP_len, ← HQL.out]; omega)).mono ?_); rintro e6 w6 ⟨rfl, hb6⟩; have P3 := P2.next hb6; clear hb6 P2 g0 g1; rw [HS.out])
              go_upto_region 18 with fail
              rw [show wrap64 (F.last : Int) = (F.last : Int) from IntWalk.wrap64_in _ (by have := HFL.out; omega)]
              obtain ⟨g, rfl, hpl⟩ := P3.some_ (by omega)
              have HE := Lib.hid (HNX.out.trans (congrArg (fun R => (⟨R, layL F.rs F.last (q.map (prR a b))⟩ : Fr)) (HRN.out.up b)))
              have HAT := Lib.hid (fun i hi => HRN.out.at_ b (i := i) hi)
              have HUL := Lib.hid (fun i => (hUp_len F.rs F.last (q.map (prR a b)) i).trans (show F.rs.length = F.last + ql from hfl))
              have HU0 := Lib.hid (hUp_zero F.rs F.last (q.map (prR a b)))
              have hflb : F.last + ql ≤ 2000000 := by have := HFL.out; omega
              rw [hfl] at P3
              clear hfl HNX hpl HS hg0 hg1
              rw [← HU0.out] at P3
              generalize F.last = fl at P3 HAT HUL hflb HE ⊢
              go_loopw [15] (fun z wr => ∃ i kk : Nat, i ≤ ql ∧ Asd (kk = fl + i) ∧ z = .int .i64 kk ∧ Gst w [(.slice pn (2 * ql) cn, flatP q), (u12, flatP q), (.slice (some ⟨gy, oy, none⟩) ny cy, ys), (vx, xs)] (.slice (some ⟨g, 0, none⟩) (fl + ql) co) (hUp F.rs fl (q.map (prR a b)) i) wr) (fun z _ => fl + ql - (intOf z).toNat)
              case atStart => exact ⟨0, fl, Nat.zero_le _, rfl, rfl, P3⟩
              case round =>
                obtain ⟨i, kk, hi, hkk, rfl, P5⟩ := hrel
                have HK := Lib.hid (show kk = fl + i from hkk)
                have hkb : kk ≤ fl + ql := by have := HK.out; omega
                clear P3 hkk
                have hk0 : (0 : Int) ≤ (kk : Int) := by omega
                by_cases hik : kk < fl + ql
                · have hk1 : (kk : Int) < ((fl + ql : Nat) : Int) := by omega
                  have hk2 : (kk : Int) < (fl : Int) + (ql : Int) := by omega
                  obtain ⟨r, hr, hr1, hr2, hrs⟩ := HAT.out i (by rw [← HQL.out]; have := HK.out; omega)
                  rw [← HK.out] at hr hrs
                  have HRK := Lib.hid hr
                  have HRS := Lib.hid hrs
                  have HRK2 := Lib.hid (show ((hUp F.rs fl (q.map (prR a b)) i).set kk ⟨r.x, r.y, r.w, b - r.y⟩)[kk]? = some ⟨r.x, r.y, r.w, b - r.y⟩ by rw [List.getElem?_set_self (List.getElem?_eq_some_iff.1 hr).1])
                  have hw1 : IntKind.i64.wrap (b - r.y) = b - r.y := IntWalk.i64_in _ (by omega)
                  obtain ⟨d1, d3, f3⟩ := P5.drew.cells HRK.out
                  have P6 := P5.drew.high (j := kk) (HUL.out i).symm HRK.out (b - r.y)
                  clear hr hrs
                  go_upto_region 20 with fail
                  refine wp_region_noPanic ?_
                  refine wp_region_held_drew (S := fun wx => wx.cell? ⟨gy, oy + (j + 1), none⟩ = some (.int .i64 b) ∧ wx.cell? ⟨g, kk * 4 + 1, none⟩ = some (.int .i64 r.y)) (by kernel_rfl) (by exact ⟨(HYC.out _ (P5.drew.get 2 rfl)).2, (P5.drew.cells HRK.out).1⟩) (fun hHeld => ?_)
                  refine wpAnyH_take (i := 0) (v := ?va0) rfl (by kernel_rfl) (by kernel_rfl) (by kernel_rfl) (fun _ _ _ h => h) (Or.inl ⟨by kernel_rfl, ?ya0⟩) (by assumption) ?ra0
                  case ya0 => (intro wq hSw; (try dsimp only at hSw); go_simp; (try with_reducible rfl))
                  (try simp only [Act.put, List.getElem_toArray, List.getElem_cons_zero, List.setIfInBounds_toArray, List.set_cons_zero, List.set_cons_succ])
                  refine wpAnyH_take (i := 1) (v := ?va1) rfl (by kernel_rfl) (by kernel_rfl) (by kernel_rfl) (fun _ _ _ h => h) (Or.inl ⟨by kernel_rfl, ?ya1⟩) (by assumption) ?ra1
                  case ya1 => (intro wq hSw; (try dsimp only at hSw); go_simp; (try with_reducible rfl))
                  (try simp only [Act.put, List.getElem_toArray, List.getElem_cons_succ, List.getElem_cons_zero, List.setIfInBounds_toArray, List.set_cons_zero, List.set_cons_succ])
                  refine wpAnyH_take (i := 2) (v := ?va2) rfl (by kernel_rfl) (by kernel_rfl) (by kernel_rfl) (fun _ _ _ h => h) (Or.inl ⟨by kernel_rfl, ?ya2⟩) (by assumption) ?ra2
                  case ya2 => (intro wq hSw; (try dsimp only at hSw); go_simp; (try with_reducible rfl))
                  (try simp only [Act.put, List.getElem_toArray, List.getElem_cons_succ, List.getElem_cons_zero, List.setIfInBounds_toArray, List.set_cons_zero, List.set_cons_succ])
                  refine wpAnyH_take (i := 3) (v := ?va3) rfl (by kernel_rfl) (by kernel_rfl) (by kernel_rfl) (fun _ _ _ h => h) (Or.inl ⟨by kernel_rfl, ?ya3⟩) (by assumption) ?ra3
                  case ya3 => (intro wq hSw; (try dsimp only at hSw); go_simp; (try with_reducible rfl))
                  (try simp only [Act.put, List.getElem_toArray, List.getElem_cons_succ, List.getElem_cons_zero, List.setIfInBounds_toArray, List.set_cons_zero, List.set_cons_succ])
                  refine wpAnyH_take (i := 4) (v := ?va4) rfl (by kernel_rfl) (by kernel_rfl) (by kernel_rfl) (fun _ _ _ h => h) (Or.inl ⟨by kernel_rfl, ?ya4⟩) (by assumption) ?ra4
                  case ya4 => (intro wq hSw; (try dsimp only at hSw); go_simp; (try with_reducible rfl))
                  (try simp only [Act.put, List.getElem_toArray, List.getElem_cons_succ, List.getElem_cons_zero, List.setIfInBounds_toArray, List.set_cons_zero, List.set_cons_succ])
                  refine wpAnyH_take (i := 5) (v := ?va5) rfl (by kernel_rfl) (by kernel_rfl) (by kernel_rfl) (fun _ _ _ h => h) (Or.inl ⟨by kernel_rfl, ?ya5⟩) (by assumption) ?ra5
                  case ya5 => (intro wq hSw; (try dsimp only at hSw); go_simp; (try with_reducible rfl))
                  (try simp only [Act.put, List.getElem_toArray, List.getElem_cons_succ, List.getElem_cons_zero, List.setIfInBounds_toArray, List.set_cons_zero, List.set_cons_succ])
                  refine wpAnyH_take (i := 6) (v := ?va6) rfl (by kernel_rfl) (by kernel_rfl) (by kernel_rfl) (fun _ _ _ h => h) (Or.inl ⟨by kernel_rfl, ?ya6⟩) (by assumption) ?ra6
                  case ya6 => (intro wq hSw; (try dsimp only at hSw); go_simp; (try with_reducible rfl))
                  (try simp only [Act.put, List.getElem_toArray, List.getElem_cons_succ, List.getElem_cons_zero, List.setIfInBounds_toArray, List.set_cons_zero, List.set_cons_succ])
                  refine wpAnyH_take (i := 7) (v := ?va7) rfl (by kernel_rfl) (by kernel_rfl) (by kernel_rfl) (fun _ _ _ h => h) (Or.inl ⟨by kernel_rfl, ?ya7⟩) (by assumption) ?ra7
                  case ya7 => (intro wq hSw; (try dsimp only at hSw); go_simp; (try with_reducible rfl))
                  (try simp only [Act.put, List.getElem_toArray, List.getElem_cons_succ, List.getElem_cons_zero, List.setIfInBounds_toArray, List.set_cons_zero, List.set_cons_succ])
                  refine wpAnyH_take (i := 8) (v := ?va8) rfl (by kernel_rfl) (by kernel_rfl) (by kernel_rfl) (fun _ _ _ h => h) (Or.inl ⟨by kernel_rfl, ?ya8⟩) (by assumption) ?ra8
                  case ya8 => (intro wq hSw; (try dsimp only at hSw); go_simp; (try with_reducible rfl))
                  (try simp only [Act.put, List.getElem_toArray, List.getElem_cons_succ, List.getElem_cons_zero, List.setIfInBounds_toArray, List.set_cons_zero, List.set_cons_succ])
                  refine wpAnyH_take (i := 9) (v := ?va9) rfl (by kernel_rfl) (by kernel_rfl) (by kernel_rfl) (fun _ _ _ h => h) (Or.inl ⟨by kernel_rfl, ?ya9⟩) (by assumption) ?ra9
                  case ya9 => (intro wq hSw; (try dsimp only at hSw); go_simp; (try with_reducible rfl))
                  (try simp only [Act.put, List.getElem_toArray, List.getElem_cons_succ, List.getElem_cons_zero, List.setIfInBounds_toArray, List.set_cons_zero, List.set_cons_succ])
                  refine wpAnyH_take (i := 10) (v := ?va10) rfl (by kernel_rfl) (by kernel_rfl) (by kernel_rfl) (fun _ _ _ h => h) (Or.inl ⟨by kernel_rfl, ?ya10⟩) (by assumption) ?ra10
                  case ya10 => (intro wq hSw; (try dsimp only at hSw); go_simp; (try with_reducible rfl))
                  (try simp only [Act.put, List.getElem_toArray, List.getElem_cons_succ, List.getElem_cons_zero, List.setIfInBounds_toArray, List.set_cons_zero, List.set_cons_succ])
                  refine wpAnyH_take (i := 11) (v := ?va11) rfl (by kernel_rfl) (by kernel_rfl) (by kernel_rfl) (fun _ _ _ h => h) (Or.inl ⟨by kernel_rfl, ?ya11⟩) (by assumption) ?ra11
                  case ya11 => (intro wq hSw; (try dsimp only at hSw); go_simp; (try with_reducible rfl))
                  (try simp only [Act.put, List.getElem_toArray, List.getElem_cons_succ, List.getElem_cons_zero, List.setIfInBounds_toArray, List.set_cons_zero, List.set_cons_succ])
                  refine wpAnyH_take (i := 12) (v := ?va12) rfl (by kernel_rfl) (by kernel_rfl) (by kernel_rfl) (fun _ _ _ h => h) (Or.inl ⟨by kernel_rfl, ?ya12⟩) (by assumption) ?ra12
                  case ya12 => (intro wq hSw; (try dsimp only at hSw); go_simp; (try with_reducible rfl))
                  (try simp only [Act.put, List.getElem_toArray, List.getElem_cons_succ, List.getElem_cons_zero, List.setIfInBounds_toArray, List.set_cons_zero, List.set_cons_succ])
                  refine wpAnyH_take (i := 13) (v := ?va13) rfl (by kernel_rfl) (by kernel_rfl) (by kernel_rfl) (fun _ _ _ h => h) (Or.inl ⟨by kernel_rfl, ?ya13⟩) (by assumption) ?ra13
                  case ya13 => (intro wq hSw; (try dsimp only at hSw); go_simp; (try with_reducible rfl))
                  (try simp only [Act.put, List.getElem_toArray, List.getElem_cons_succ, List.getElem_cons_zero, List.setIfInBounds_toArray, List.set_cons_zero, List.set_cons_succ])
                  refine wpAnyH_take (i := 14) (v := ?va14) rfl (by kernel_rfl) (by kernel_rfl) (by kernel_rfl) (fun _ _ _ h => h) (Or.inl ⟨by kernel_rfl, ?ya14⟩) (by assumption) ?ra14
                  case ya14 => (intro wq hSw; (try dsimp only at hSw); go_simp; (try with_reducible rfl))
                  (try simp only [Act.put, List.getElem_toArray, List.getElem_cons_succ, List.getElem_cons_zero, List.setIfInBounds_toArray, List.set_cons_zero, List.set_cons_succ])
                  refine wpAnyH_ready (rs := [15]) (by kernel_rfl) (by simp) ?_
                  refine AllReadyH.cons rfl (fun K hK => ?_) AllReadyH.nil
                  go_simp
                  refine hK.out _ _ (by exact ⟨(HYC.out _ (P6.get 2 rfl)).2, (P6.cells HRK2.out).1⟩) (fun hHeld => ?_)
                  clear hK K
                  (try simp only [Act.put, List.getElem_toArray, List.getElem_cons_succ, List.getElem_cons_zero, List.setIfInBounds_toArray, List.set_cons_zero, List.set_cons_succ])
                  refine wpAnyH_done (by kernel_rfl) ?_ _
                  refine NoPanic.normal ?_
                  clear hHeld
                  go_wp2_with fail
                  go_roundw
                  case rel => exact ⟨i + 1, kk + 1, by have := HK.out; omega, by show kk + 1 = fl + (i + 1); have := HK.out; omega, by go_num, by rw [HRS.out]; exact P6⟩
                  case measure => simp [intOf]; omega
                · obtain rfl : i = ql := by have := HK.out; omega
                  have hk1 : ¬ (kk : Int) < ((fl + i : Nat) : Int) := by omega
                  have hk2 : ¬ (kk : Int) < (fl : Int) + (i : Int) := by omega
                  have HX1 := Lib.hid (show (setF now ys (j + 1)).rs = hUp F.rs fl (q.map (prR a b)) i by rw [HE.out, HQL.out])
                  go_wp2_with fail
                  go_roundw
                  case rel => exact ⟨j + 1, by omega, by go_num, by rw [HX1.out, HCX.out]; exact P5.sub (fun p hp => List.mem_cons_of_mem _ hp)⟩
                  case measure => simp [intOf]; omega
            · have HMO := Lib.hid (HRN.out.more b (q := q) (by
                by_cases h : q = []
                · exact .inr h
                · exact .inl (fun e => hq ⟨h, e⟩)))
              have HE := Lib.hid (HNX.out.trans (congrArg (fun R => (⟨R, layL F.rs F.last (q.map (prR a b))⟩ : Fr)) HMO.out))
              obtain ⟨ir, hri, hrz0, hrz1, hrz2⟩ := info_parts rectInfo
              clear HMO HNX hfl
              by_cases hq0 : q = []
              · have hql0 : ql = 0 := by rw [HQL.out, hq0]; rfl
                have hg0 : ¬ (0 : Int) < ((2 * ql : Nat) : Int) := by omega
                have hg1 : ¬ (0 : Int) < 2 * (ql : Int) := by omega
                have P3 := P2
                clear P2 hq hq0 hql0
                go_upto_region 22 with fail
                clear hg0 hg1
                go_loopw [11, 16] (fun vo z wr => ∃ i kk : Nat, i ≤ ql ∧ Asd (kk = 2 * i) ∧ z = .int .i64 kk ∧ Gst w [(.slice pn (2 * ql) cn, flatP q), (u12, flatP C), (.slice (some ⟨gy, oy, none⟩) ny cy, ys), (vx, xs)] vo (F.rs ++ (q.map (prR a b)).take i) wr) (fun _ z _ => 2 * ql - (intOf z).toNat)
                case atStart => exact ⟨0, 0, Nat.zero_le _, rfl, rfl, by rw [List.take_zero, List.append_nil]; exact P3⟩
                case round =>
                  obtain ⟨i, kk, hi, hkk, rfl, P5⟩ := hrel
                  have HK := Lib.hid (show kk = 2 * i from hkk)
                  have hkb : kk ≤ 2 * ql := by have := HK.out; omega
                  clear P3 hkk
                  have hk0 : (0 : Int) ≤ (kk : Int) := by omega
                  by_cases hik : kk < 2 * ql
                  · have hk1 : (kk : Int) < ((2 * ql : Nat) : Int) := by omega
                    have hk2 : (kk : Int) < 2 * (ql : Int) := by omega
                    have hk3 : (kk : Int) + 1 < ((2 * ql : Nat) : Int) := by have := HK.out; omega
                    have hk4 : (kk : Int) + 1 < 2 * (ql : Int) := by have := HK.out; omega
                    have hk5 : (0 : Int) ≤ (kk : Int) + 1 := by omega
                    have hk6 : ((kk : Int) + 1).toNat = kk + 1 := by omega
                    have hwk : IntKind.i64.wrap ((kk : Int) + 1) = (kk : Int) + 1 := IntWalk.i64_in _ (by omega)
                    have hwk2 : IntKind.i64.wrap ((kk : Int) + 2) = ((kk + 2 : Nat) : Int) := by rw [IntWalk.i64_in _ (by omega)]; omega
                    obtain ⟨⟨p1, p2⟩, hp⟩ : ∃ p, q[i]? = some p := ⟨_, List.getElem?_eq_getElem (by rw [← HQL.out]; have := HK.out; omega)⟩
                    obtain ⟨f1, f2⟩ := flatP_get q i _ hp
                    rw [← HK.out] at f1 f2
                    have hpb := HQB.out _ (List.mem_of_getElem? hp)
                    dsimp only at f1 f2 hpb
                    obtain ⟨gn, on, rfl, _, _⟩ := rdI (P5.get 0 rfl).reads f1
                    have HNC := Lib.hid (fun (W : World) (h : OI W (.slice (some ⟨gn, on, none⟩) (2 * ql) cn) (flatP q)) => (show W.cell? ⟨gn, on + kk, none⟩ = some (.int .i64 p1) ∧ W.cell? ⟨gn, on + (kk + 1), none⟩ = some (.int .i64 p2) from by
                      obtain ⟨_, _, ⟨⟩, _, k0⟩ := rdI h.reads f1
                      obtain ⟨_, _, ⟨⟩, _, k1⟩ := rdI h.reads f2
                      exact ⟨k0, k1⟩))
                    have hw1 : IntKind.i64.wrap (p2 - p1) = p2 - p1 := IntWalk.i64_in _ (by omega)
                    have hw2 : IntKind.i64.wrap (b - a) = b - a := IntWalk.i64_in _ (by omega)
                    have HSN := Lib.hid (show F.rs ++ (q.map (prR a b)).take (i + 1) = (F.rs ++ (q.map (prR a b)).take i) ++ [⟨p1, a, p2 - p1, b - a⟩] by
                      rw [take_snoc_get (x := prR a b (p1, p2)) (by rw [List.getElem?_map, hp]; rfl), List.append_assoc]; rfl)
                    obtain ⟨acc, hacc⟩ : ∃ acc, acc = F.rs ++ (q.map (prR a b)).take i := ⟨_, rfl⟩
                    rw [← hacc] at P5 HSN
                    obtain ⟨po', co', rfl⟩ := P5.2.1.slice
                    have HFQ := Lib.hid (show acc.length ≤ 4000000 by
                      have h1 := HFL.out
                      rw [hacc, List.length_append, List.length_take, List.length_map, ← HQL.out]; omega)
                    have HOW := Lib.hid (fun (g' cap' : Nat) (W : World) (h : W.ownsRow w.heap.size 40 4 (.slice (some ⟨g', 0, none⟩) (acc.length + 1) cap') (acc.length + 1) (acc.flatMap encR ++ [.int .i64 p1, .int .i64 a, .int .i64 (p2 - p1), .int .i64 (b - a)])) =>
                      (show OwK encR 40 4 W w.heap.size (.slice (some ⟨g', 0, none⟩) (acc.length + 1) cap') (F.rs ++ (q.map (prR a b)).take (i + 1)) from by
                        rw [HSN.out]; unfold OwK; rw [flat_snoc, List.length_append]; exact h))
                    clear f1 f2 hp hpb hacc
                    have P6 := (P5.alloc (.cells #[.int .i64 p1, .int .i64 a, .int .i64 (p2 - p1), .int .i64 (b - a)] 40)).drew
                    go_upto_region 24 with fail
                    refine wp_region_noPanic ?_
                    refine wp_region_held_drew (S := fun wx => (wx.cell? ⟨gn, on + kk, none⟩ = some (.int .i64 p1) ∧ wx.cell? ⟨gn, on + (kk + 1), none⟩ = some (.int .i64 p2)) ∧ wx.cell? ⟨gy, oy + j, none⟩ = some (.int .i64 a) ∧ wx.cell? ⟨gy, oy + (j + 1), none⟩ = some (.int .i64 b)) (by kernel_rfl) (by exact ⟨HNC.out _ (P5.drew.get 0 rfl), HYC.out _ (P5.drew.get 2 rfl)⟩) (fun hHeld => ?_)
                    refine wpAnyH_take (i := 0) (v := ?vbb0) rfl (by kernel_rfl) (by kernel_rfl) (by kernel_rfl) (fun _ _ _ h => h) (Or.inl ⟨by kernel_rfl, ?ybb0⟩) (by assumption) ?rbb0
                    case ybb0 => (intro wq hSw; (try dsimp only at hSw); go_simp; (try with_reducible rfl))
                    (try simp only [Act.put, List.getElem_toArray, List.getElem_cons_zero, List.setIfInBounds_toArray, List.set_cons_zero, List.set_cons_succ])
                    refine wpAnyH_take (i := 1) (v := ?vbb1) rfl (by kernel_rfl) (by kernel_rfl) (by kernel_rfl) (fun _ _ _ h => h) (Or.inl ⟨by kernel_rfl, ?ybb1⟩) (by assumption) ?rbb1
                    case ybb1 => (intro wq hSw; (try dsimp only at hSw); go_simp; (try with_reducible rfl))
                    (try simp only [Act.put, List.getElem_toArray, List.getElem_cons_succ, List.getElem_cons_zero, List.setIfInBounds_toArray, List.set_cons_zero, List.set_cons_succ])
                    refine wpAnyH_take (i := 2) (v := ?vbb2) rfl (by kernel_rfl) (by kernel_rfl) (by kernel_rfl) (fun _ _ _ h => h) (Or.inl ⟨by kernel_rfl, ?ybb2⟩) (by assumption) ?rbb2
                    case ybb2 => (intro wq hSw; (try dsimp only at hSw); go_simp; (try with_reducible rfl))
                    (try simp only [Act.put, List.getElem_toArray, List.getElem_cons_succ, List.getElem_cons_zero, List.setIfInBounds_toArray, List.set_cons_zero, List.set_cons_succ])
                    refine wpAnyH_take (i := 3) (v := ?vbb3) rfl (by kernel_rfl) (by kernel_rfl) (by kernel_rfl) (fun _ _ _ h => h) (Or.inl ⟨by kernel_rfl, ?ybb3⟩) (by assumption) ?rbb3
                    case ybb3 => (intro wq hSw; (try dsimp only at hSw); go_simp; (try with_reducible rfl))
                    (try simp only [Act.put, List.getElem_toArray, List.getElem_cons_succ, List.getElem_cons_zero, List.setIfInBounds_toArray, List.set_cons_zero, List.set_cons_succ])
                    refine wpAnyH_take (i := 4) (v := ?vbb4) rfl (by kernel_rfl) (by kernel_rfl) (by kernel_rfl) (fun _ _ _ h => h) (Or.inl ⟨by kernel_rfl, ?ybb4⟩) (by assumption) ?rbb4
                    case ybb4 => (intro wq hSw; (try dsimp only at hSw); go_simp; (try with_reducible rfl))
                    (try simp only [Act.put, List.getElem_toArray, List.getElem_cons_succ, List.getElem_cons_zero, List.setIfInBounds_toArray, List.set_cons_zero, List.set_cons_succ])
                    refine wpAnyH_take (i := 5) (v := ?vbb5) rfl (by kernel_rfl) (by kernel_rfl) (by kernel_rfl) (fun _ _ _ h => h) (Or.inl ⟨by kernel_rfl, ?ybb5⟩) (by assumption) ?rbb5
                    case ybb5 => (intro wq hSw; (try dsimp only at hSw); go_simp; (try with_reducible rfl))
                    (try simp only [Act.put, List.getElem_toArray, List.getElem_cons_succ, List.getElem_cons_zero, List.setIfInBounds_toArray, List.set_cons_zero, List.set_cons_succ])
                    refine wpAnyH_take (i := 6) (v := ?vbb6) rfl (by kernel_rfl) (by kernel_rfl) (by kernel_rfl) (fun _ _ _ h => h) (Or.inl ⟨by kernel_rfl, ?ybb6⟩) (by assumption) ?rbb6
                    case ybb6 => (intro wq hSw; (try dsimp only at hSw); go_simp; (try with_reducible rfl))
                    (try simp only [Act.put, List.getElem_toArray, List.getElem_cons_succ, List.getElem_cons_zero, List.setIfInBounds_toArray, List.set_cons_zero, List.set_cons_succ])
                    refine wpAnyH_take (i := 7) (v := ?vbb7) rfl (by kernel_rfl) (by kernel_rfl) (by kernel_rfl) (fun _ _ _ h => h) (Or.inl ⟨by kernel_rfl, ?ybb7⟩) (by assumption) ?rbb7
                    case ybb7 => (intro wq hSw; (try dsimp only at hSw); go_simp; (try with_reducible rfl))
                    (try simp only [Act.put, List.getElem_toArray, List.getElem_cons_succ, List.getElem_cons_zero, List.setIfInBounds_toArray, List.set_cons_zero, List.set_cons_succ])
                    refine wpAnyH_take (i := 8) (v := ?vbb8) rfl (by kernel_rfl) (by kernel_rfl) (by kernel_rfl) (fun _ _ _ h => h) (Or.inl ⟨by kernel_rfl, ?ybb8⟩) (by assumption) ?rbb8
                    case ybb8 => (intro wq hSw; (try dsimp only at hSw); go_simp; (try with_reducible rfl))
                    (try simp only [Act.put, List.getElem_toArray, List.getElem_cons_succ, List.getElem_cons_zero, List.setIfInBounds_toArray, List.set_cons_zero, List.set_cons_succ])
                    refine wpAnyH_take (i := 9) (v := ?vbb9) rfl (by kernel_rfl) (by kernel_rfl) (by kernel_rfl) (fun _ _ _ h => h) (Or.inl ⟨by kernel_rfl, ?ybb9⟩) (by assumption) ?rbb9
                    case ybb9 => (intro wq hSw; (try dsimp only at hSw); go_simp; (try with_reducible rfl))
                    (try simp only [Act.put, List.getElem_toArray, List.getElem_cons_succ, List.getElem_cons_zero, List.setIfInBounds_toArray, List.set_cons_zero, List.set_cons_succ])
                    refine wpAnyH_take (i := 10) (v := ?vbb10) rfl (by kernel_rfl) (by kernel_rfl) (by kernel_rfl) (fun _ _ _ h => h) (Or.inl ⟨by kernel_rfl, ?ybb10⟩) (by assumption) ?rbb10
                    case ybb10 => (intro wq hSw; (try dsimp only at hSw); go_simp; (try with_reducible rfl))
                    (try simp only [Act.put, List.getElem_toArray, List.getElem_cons_succ, List.getElem_cons_zero, List.setIfInBounds_toArray, List.set_cons_zero, List.set_cons_succ])
                    refine wpAnyH_take (i := 11) (v := ?vbb11) rfl (by kernel_rfl) (by kernel_rfl) (by kernel_rfl) (fun _ _ _ h => h) (Or.inl ⟨by kernel_rfl, ?ybb11⟩) (by assumption) ?rbb11
                    case ybb11 => (intro wq hSw; (try dsimp only at hSw); go_simp; (try with_reducible rfl))
                    (try simp only [Act.put, List.getElem_toArray, List.getElem_cons_succ, List.getElem_cons_zero, List.setIfInBounds_toArray, List.set_cons_zero, List.set_cons_succ])
                    refine wpAnyH_take (i := 12) (v := ?vbb12) rfl (by kernel_rfl) (by kernel_rfl) (by kernel_rfl) (fun _ _ _ h => h) (Or.inl ⟨by kernel_rfl, ?ybb12⟩) (by assumption) ?rbb12
                    case ybb12 => (intro wq hSw; (try dsimp only at hSw); go_simp; (try with_reducible rfl))
                    (try simp only [Act.put, List.getElem_toArray, List.getElem_cons_succ, List.getElem_cons_zero, List.setIfInBounds_toArray, List.set_cons_zero, List.set_cons_succ])
                    refine wpAnyH_take (i := 13) (v := ?vbb13) rfl (by kernel_rfl) (by kernel_rfl) (by kernel_rfl) (fun _ _ _ h => h) (Or.inl ⟨by kernel_rfl, ?ybb13⟩) (by assumption) ?rbb13
                    case ybb13 => (intro wq hSw; (try dsimp only at hSw); go_simp; (try with_reducible rfl))
                    (try simp only [Act.put, List.getElem_toArray, List.getElem_cons_succ, List.getElem_cons_zero, List.setIfInBounds_toArray, List.set_cons_zero, List.set_cons_succ])
                    refine wpAnyH_take (i := 14) (v := ?vbb14) rfl (by kernel_rfl) (by kernel_rfl) (by kernel_rfl) (fun _ _ _ h => h) (Or.inl ⟨by kernel_rfl, ?ybb14⟩) (by assumption) ?rbb14
                    case ybb14 => (intro wq hSw; (try dsimp only at hSw); go_simp; (try with_reducible rfl))
                    (try simp only [Act.put, List.getElem_toArray, List.getElem_cons_succ, List.getElem_cons_zero, List.setIfInBounds_toArray, List.set_cons_zero, List.set_cons_succ])
                    refine wpAnyH_take (i := 15) (v := ?vbb15) rfl (by kernel_rfl) (by kernel_rfl) (by kernel_rfl) (fun _ _ _ h => h) (Or.inl ⟨by kernel_rfl, ?ybb15⟩) (by assumption) ?rbb15
                    case ybb15 => (intro wq hSw; (try dsimp only at hSw); go_simp; (try with_reducible rfl))
                    (try simp only [Act.put, List.getElem_toArray, List.getElem_cons_succ, List.getElem_cons_zero, List.setIfInBounds_toArray, List.set_cons_zero, List.set_cons_succ])
                    refine wpAnyH_take (i := 16) (v := ?vbb16) rfl (by kernel_rfl) (by kernel_rfl) (by kernel_rfl) (fun _ _ _ h => h) (Or.inl ⟨by kernel_rfl, ?ybb16⟩) (by assumption) ?rbb16
                    case ybb16 => (intro wq hSw; (try dsimp only at hSw); go_simp; (try with_reducible rfl))
                    (try simp only [Act.put, List.getElem_toArray, List.getElem_cons_succ, List.getElem_cons_zero, List.setIfInBounds_toArray, List.set_cons_zero, List.set_cons_succ])
                    refine wpAnyH_take (i := 17) (v := ?vbb17) rfl (by kernel_rfl) (by kernel_rfl) (by kernel_rfl) (fun _ _ _ h => h) (Or.inl ⟨by kernel_rfl, ?ybb17⟩) (by assumption) ?rbb17
                    case ybb17 => (intro wq hSw; (try dsimp only at hSw); go_simp; (try with_reducible rfl))
                    (try simp only [Act.put, List.getElem_toArray, List.getElem_cons_succ, List.getElem_cons_zero, List.setIfInBounds_toArray, List.set_cons_zero, List.set_cons_succ])
                    refine wpAnyH_take (i := 18) (v := ?vbb18) rfl (by kernel_rfl) (by kernel_rfl) (by kernel_rfl) (fun _ _ _ h => h) (Or.inl ⟨by kernel_rfl, ?ybb18⟩) (by assumption) ?rbb18
                    case ybb18 => (intro wq hSw; (try dsimp only at hSw); go_simp; (try with_reducible rfl))
                    (try simp only [Act.put, List.getElem_toArray, List.getElem_cons_succ, List.getElem_cons_zero, List.setIfInBounds_toArray, List.set_cons_zero, List.set_cons_succ])
                    refine wpAnyH_take (i := 19) (v := ?vbb19) rfl (by kernel_rfl) (by kernel_rfl) (by kernel_rfl) (fun _ _ _ h => h) (Or.inl ⟨by kernel_rfl, ?ybb19⟩) (by assumption) ?rbb19
                    case ybb19 => (intro wq hSw; (try dsimp only at hSw); go_simp; (try with_reducible rfl))
                    (try simp only [Act.put, List.getElem_toArray, List.getElem_cons_succ, List.getElem_cons_zero, List.setIfInBounds_toArray, List.set_cons_zero, List.set_cons_succ])
                    refine wpAnyH_take (i := 20) (v := ?vbb20) rfl (by kernel_rfl) (by kernel_rfl) (by kernel_rfl) (fun _ _ _ h => h) (Or.inl ⟨by kernel_rfl, ?ybb20⟩) (by assumption) ?rbb20
                    case ybb20 => (intro wq hSw; (try dsimp only at hSw); go_simp; (try with_reducible rfl))
                    (try simp only [Act.put, List.getElem_toArray, List.getElem_cons_succ, List.getElem_cons_zero, List.setIfInBounds_toArray, List.set_cons_zero, List.set_cons_succ])
                    refine wpAnyH_take (i := 21) (v := ?vbb21) rfl (by kernel_rfl) (by kernel_rfl) (by kernel_rfl) (fun _ _ _ h => h) (Or.inl ⟨by kernel_rfl, ?ybb21⟩) (by assumption) ?rbb21
                    case ybb21 => (intro wq hSw; (try dsimp only at hSw); go_simp; (try with_reducible rfl))
                    (try simp only [Act.put, List.getElem_toArray, List.getElem_cons_succ, List.getElem_cons_zero, List.setIfInBounds_toArray, List.set_cons_zero, List.set_cons_succ])
                    refine wpAnyH_take (i := 22) (v := ?vbb22) rfl (by kernel_rfl) (by kernel_rfl) (by kernel_rfl) (fun _ _ _ h => h) (Or.inl ⟨by kernel_rfl, ?ybb22⟩) (by assumption) ?rbb22
                    case ybb22 => (intro wq hSw; (try dsimp only at hSw); go_simp; (try with_reducible rfl))
                    (try simp only [Act.put, List.getElem_toArray, List.getElem_cons_succ, List.getElem_cons_zero, List.setIfInBounds_toArray, List.set_cons_zero, List.set_cons_succ])
                    refine wpAnyH_take (i := 23) (v := ?vbb23) rfl (by kernel_rfl) (by kernel_rfl) (by kernel_rfl) (fun _ _ _ h => h) (Or.inl ⟨by kernel_rfl, ?ybb23⟩) (by assumption) ?rbb23
                    case ybb23 => (intro wq hSw; (try dsimp only at hSw); go_simp; (try with_reducible rfl))
                    (try simp only [Act.put, List.getElem_toArray, List.getElem_cons_succ, List.getElem_cons_zero, List.setIfInBounds_toArray, List.set_cons_zero, List.set_cons_succ])
                    refine wpAnyH_take (i := 24) (v := ?vbb24) rfl (by kernel_rfl) (by kernel_rfl) (by kernel_rfl) (fun _ _ _ h => h) (Or.inl ⟨by kernel_rfl, ?ybb24⟩) (by assumption) ?rbb24
                    case ybb24 => (intro wq hSw; (try dsimp only at hSw); go_simp; (try with_reducible rfl))
                    (try simp only [Act.put, List.getElem_toArray, List.getElem_cons_succ, List.getElem_cons_zero, List.setIfInBounds_toArray, List.set_cons_zero, List.set_cons_succ])
                    refine wpAnyH_take (i := 25) (v := ?vbb25) rfl (by kernel_rfl) (by kernel_rfl) (by kernel_rfl) (fun _ _ _ h => h) (Or.inl ⟨by kernel_rfl, ?ybb25⟩) (by assumption) ?rbb25
                    case ybb25 => (intro wq hSw; (try dsimp only at hSw); go_simp; (try with_reducible rfl))
                    (try simp only [Act.put, List.getElem_toArray, List.getElem_cons_succ, List.getElem_cons_zero, List.setIfInBounds_toArray, List.set_cons_zero, List.set_cons_succ])
                    refine wpAnyH_take (i := 26) (v := ?vbb26) rfl (by kernel_rfl) (by kernel_rfl) (by kernel_rfl) (fun _ _ _ h => h) (Or.inl ⟨by kernel_rfl, ?ybb26⟩) (by assumption) ?rbb26
                    case ybb26 => (intro wq hSw; (try dsimp only at hSw); go_simp; (try with_reducible rfl))
                    (try simp only [Act.put, List.getElem_toArray, List.getElem_cons_succ, List.getElem_cons_zero, List.setIfInBounds_toArray, List.set_cons_zero, List.set_cons_succ])
                    refine wpAnyH_take (i := 27) (v := ?vbb27) rfl (by kernel_rfl) (by kernel_rfl) (by kernel_rfl) (fun _ _ _ h => h) (Or.inl ⟨by kernel_rfl, ?ybb27⟩) (by assumption) ?rbb27
                    case ybb27 => (intro wq hSw; (try dsimp only at hSw); go_simp; (try with_reducible rfl))
                    (try simp only [Act.put, List.getElem_toArray, List.getElem_cons_succ, List.getElem_cons_zero, List.setIfInBounds_toArray, List.set_cons_zero, List.set_cons_succ])
                    refine wpAnyH_take (i := 28) (v := ?vbb28) rfl (by kernel_rfl) (by kernel_rfl) (by kernel_rfl) (fun _ _ _ h => h) (Or.inl ⟨by kernel_rfl, ?ybb28⟩) (by assumption) ?rbb28
                    case ybb28 => (intro wq hSw; (try dsimp only at hSw); go_simp; (try with_reducible rfl))
                    (try simp only [Act.put, List.getElem_toArray, List.getElem_cons_succ, List.getElem_cons_zero, List.setIfInBounds_toArray, List.set_cons_zero, List.set_cons_succ])
                    refine wpAnyH_take (i := 29) (v := ?vbb29) rfl (by kernel_rfl) (by kernel_rfl) (by kernel_rfl) (fun _ _ _ h => h) (Or.inl ⟨by kernel_rfl, ?ybb29⟩) (by assumption) ?rbb29
                    case ybb29 => (intro wq hSw; (try dsimp only at hSw); go_simp; (try with_reducible rfl))
                    (try simp only [Act.put, List.getElem_toArray, List.getElem_cons_succ, List.getElem_cons_zero, List.setIfInBounds_toArray, List.set_cons_zero, List.set_cons_succ])
                    refine wpAnyH_ready (rs := [30]) (by kernel_rfl) (by simp) ?_
                    refine AllReadyH.cons rfl (fun K hK => ?_) AllReadyH.nil
                    go_simp
                    refine hK.out _ _ (by exact ⟨HNC.out _ (P6.get 0 rfl), HYC.out _ (P6.get 2 rfl)⟩) (fun hHeld => ?_)
                    clear hK K
                    (try simp only [Act.put, List.getElem_toArray, List.getElem_cons_succ, List.getElem_cons_zero, List.setIfInBounds_toArray, List.set_cons_zero, List.set_cons_succ])
                    refine wpAnyH_ready (rs := [31]) (by kernel_rfl) (by simp) ?_
                    refine AllReadyH.cons rfl (fun K hK => ?_) AllReadyH.nil
                    (refine step_append_lies _ rfl (.tmp 128) (.tmp 158) 22 rfl w.heap.size 40 ir (.agg #[.int .i64 0, .int .i64 0, .int .i64 0, .int .i64 0]) 4 32 Try.underlying22 hri hrz0 hrz1 hrz2 rfl (by decide) _ _ _ rfl P6.2.1 ⟨_, 0, none⟩ 1 1 [.int .i64 p1, .int .i64 a, .int .i64 (p2 - p1), .int .i64 (b - a)] rfl rfl (fun j' u' hu' => cell_list_at _ _ [.int .i64 p1, .int .i64 a, .int .i64 (p2 - p1), .int .i64 (b - a)] _ rfl j' u' hu') (oneCell_ints [p1, a, p2 - p1, b - a]) (by decide) (by unfold maxLen; have := HFQ.out; omega) (by have := HFQ.out; omega) P6.2.2.size _ rfl ?_); intro g' cap' w7 ho hg' _ _; have P7 := P6.grow hg' (HOW.out _ _ _ ho); clear ho hg'
                    refine hK.out _ _ (by exact ⟨HNC.out _ (P7.get 0 rfl), HYC.out _ (P7.get 2 rfl)⟩) (fun hHeld => ?_)
                    clear hK K
                    (try simp only [Act.put, List.getElem_toArray, List.getElem_cons_succ, List.getElem_cons_zero, List.setIfInBounds_toArray, List.set_cons_zero, List.set_cons_succ])
                    refine wpAnyH_take (i := 32) (v := ?vbb32) rfl (by kernel_rfl) (by kernel_rfl) (by kernel_rfl) (fun _ _ _ h => h) (Or.inl ⟨by kernel_rfl, ?ybb32⟩) (by assumption) ?rbb32
                    case ybb32 => (intro wq hSw; (try dsimp only at hSw); go_simp; (try with_reducible rfl))
                    (try simp only [Act.put, List.getElem_toArray, List.getElem_cons_succ, List.getElem_cons_zero, List.setIfInBounds_toArray, List.set_cons_zero, List.set_cons_succ])
                    refine wpAnyH_done (by kernel_rfl) ?_ _
                    refine NoPanic.normal ?_
                    clear hHeld
                    go_wp2_with fail
                    go_roundw
                    case rel => exact ⟨i + 1, kk + 2, by have := HK.out; omega, by show kk + 2 = 2 * (i + 1); have := HK.out; omega, by go_num, P7⟩
                    case measure => simp [intOf]; omega
                  · obtain rfl : i = ql := by have := HK.out; omega
                    have hk1 : ¬ (kk : Int) < ((2 * i : Nat) : Int) := by omega
                    have hk2 : ¬ (kk : Int) < 2 * (i : Int) := by omega
                    have HX1 := Lib.hid (show (setF now ys (j + 1)).rs = F.rs ++ (q.map (prR a b)).take i by rw [HE.out, List.take_of_length_le (by rw [List.length_map, ← HQL.out]; exact Nat.le_refl _)])
                    go_wp2_with fail
                    go_roundw
                    case rel => exact ⟨j + 1, by omega, by go_num, by rw [HX1.out, HCX.out]; exact P5.sub (fun p hp => by
                      rcases List.mem_cons.1 hp with h | h
                      · rw [h]; exact List.mem_cons_self ..
                      · exact List.mem_cons_of_mem _ (List.mem_cons_of_mem _ h))⟩
                    case measure => simp [intOf]; omega
              · have hql0 : 0 < ql := by rw [HQL.out]; exact List.length_pos_iff.2 hq0
                have HS := Lib.hid (sameI_no (xs := flatP q) (ys := flatP C) (fun e => hq ⟨hq0, flatP_inj e⟩))
                have hg0 : (0 : Int) < ((2 * ql : Nat) : Int) := by omega
                have hg1 : (0 : Int) < 2 * (ql : Int) := by omega
                clear hq hq0
                go_upto_region 22 with (go_at_call 27; have g0 := (P2.get 0 rfl).reads; have g1 := (P2.get 1 rfl).reads; (with_reducible refine (rsame_c _ _ _ _ _ g0 g1 (by rw [flatP_len, ← HQL.out]; omega)).mono ?_); rintro e6 w6 ⟨rfl, hb6⟩; have P3 := P2.next hb6; clear hb6 P2 g0 g1; rw [HS.out])
                clear hg0 hg1 hql0 HS
                go_loopw [11, 16] (fun vo z wr => ∃ i kk : Nat, i ≤ ql ∧ Asd (kk = 2 * i) ∧ z = .int .i64 kk ∧ Gst w [(.slice pn (2 * ql) cn, flatP q), (u12, flatP C), (.slice (some ⟨gy, oy, none⟩) ny cy, ys), (vx, xs)] vo (F.rs ++ (q.map (prR a b)).take i) wr) (fun _ z _ => 2 * ql - (intOf z).toNat)
                case atStart => exact ⟨0, 0, Nat.zero_le _, rfl, rfl, by rw [List.take_zero, List.append_nil]; exact P3⟩
                case round =>
                  obtain ⟨i, kk, hi, hkk, rfl, P5⟩ := hrel
                  have HK := Lib.hid (show kk = 2 * i from hkk)
                  have hkb : kk ≤ 2 * ql := by have := HK.out; omega
                  clear P3 hkk
                  have hk0 : (0 : Int) ≤ (kk : Int) := by omega
                  by_cases hik : kk < 2 * ql
                  · have hk1 : (kk : Int) < ((2 * ql : Nat) : Int) := by omega
                    have hk2 : (kk : Int) < 2 * (ql : Int) := by omega
                    have hk3 : (kk : Int) + 1 < ((2 * ql : Nat) : Int) := by have := HK.out; omega
                    have hk4 : (kk : Int) + 1 < 2 * (ql : Int) := by have := HK.out; omega
                    have hk5 : (0 : Int) ≤ (kk : Int) + 1 := by omega
                    have hk6 : ((kk : Int) + 1).toNat = kk + 1 := by omega
                    have hwk : IntKind.i64.wrap ((kk : Int) + 1) = (kk : Int) + 1 := IntWalk.i64_in _ (by omega)
                    have hwk2 : IntKind.i64.wrap ((kk : Int) + 2) = ((kk + 2 : Nat) : Int) := by rw [IntWalk.i64_in _ (by omega)]; omega
                    obtain ⟨⟨p1, p2⟩, hp⟩ : ∃ p, q[i]? = some p := ⟨_, List.getElem?_eq_getElem (by rw [← HQL.out]; have := HK.out; omega)⟩
                    obtain ⟨f1, f2⟩ := flatP_get q i _ hp
                    rw [← HK.out] at f1 f2
                    have hpb := HQB.out _ (List.mem_of_getElem? hp)
                    dsimp only at f1 f2 hpb
                    obtain ⟨gn, on, rfl, _, _⟩ := rdI (P5.get 0 rfl).reads f1
                    have HNC := Lib.hid (fun (W : World) (h : OI W (.slice (some ⟨gn, on, none⟩) (2 * ql) cn) (flatP q)) => (show W.cell? ⟨gn, on + kk, none⟩ = some (.int .i64 p1) ∧ W.cell? ⟨gn, on + (kk + 1), none⟩ = some (.int .i64 p2) from by
                      obtain ⟨_, _, ⟨⟩, _, k0⟩ := rdI h.reads f1
                      obtain ⟨_, _, ⟨⟩, _, k1⟩ := rdI h.reads f2
                      exact ⟨k0, k1⟩))
                    have hw1 : IntKind.i64.wrap (p2 - p1) = p2 - p1 := IntWalk.i64_in _ (by omega)
                    have hw2 : IntKind.i64.wrap (b - a) = b - a := IntWalk.i64_in _ (by omega)
                    have HSN := Lib.hid (show F.rs ++ (q.map (prR a b)).take (i + 1) = (F.rs ++ (q.map (prR a b)).take i) ++ [⟨p1, a, p2 - p1, b - a⟩] by
                      rw [take_snoc_get (x := prR a b (p1, p2)) (by rw [List.getElem?_map, hp]; rfl), List.append_assoc]; rfl)
                    obtain ⟨acc, hacc⟩ : ∃ acc, acc = F.rs ++ (q.map (prR a b)).take i := ⟨_, rfl⟩
                    rw [← hacc] at P5 HSN
                    obtain ⟨po', co', rfl⟩ := P5.2.1.slice
                    have HFQ := Lib.hid (show acc.length ≤ 4000000 by
                      have h1 := HFL.out
                      rw [hacc, List.length_append, List.length_take, List.length_map, ← HQL.out]; omega)
                    have HOW := Lib.hid (fun (g' cap' : Nat) (W : World) (h : W.ownsRow w.heap.size 40 4 (.slice (some ⟨g', 0, none⟩) (acc.length + 1) cap') (acc.length + 1) (acc.flatMap encR ++ [.int .i64 p1, .int .i64 a, .int .i64 (p2 - p1), .int .i64 (b - a)])) =>
                      (show OwK encR 40 4 W w.heap.size (.slice (some ⟨g', 0, none⟩) (acc.length + 1) cap') (F.rs ++ (q.map (prR a b)).take (i + 1)) from by
                        rw [HSN.out]; unfold OwK; rw [flat_snoc, List.length_append]; exact h))
                    clear f1 f2 hp hpb hacc
                    have P6 := (P5.alloc (.cells #[.int .i64 p1, .int .i64 a, .int .i64 (p2 - p1), .int .i64 (b - a)] 40)).drew
                    go_upto_region 24 with fail
                    refine wp_region_noPanic ?_
                    refine wp_region_held_drew (S := fun wx => (wx.cell? ⟨gn, on + kk, none⟩ = some (.int .i64 p1) ∧ wx.cell? ⟨gn, on + (kk + 1), none⟩ = some (.int .i64 p2)) ∧ wx.cell? ⟨gy, oy + j, none⟩ = some (.int .i64 a) ∧ wx.cell? ⟨gy, oy + (j + 1), none⟩ = some (.int .i64 b)) (by kernel_rfl) (by exact ⟨HNC.out _ (P5.drew.get 0 rfl), HYC.out _ (P5.drew.get 2 rfl)⟩) (fun hHeld => ?_)
                    refine wpAnyH_take (i := 0) (v := ?vbc0) rfl (by kernel_rfl) (by kernel_rfl) (by kernel_rfl) (fun _ _ _ h => h) (Or.inl ⟨by kernel_rfl, ?ybc0⟩) (by assumption) ?rbc0
                    case ybc0 => (intro wq hSw; (try dsimp only at hSw); go_simp; (try with_reducible rfl))
                    (try simp only [Act.put, List.getElem_toArray, List.getElem_cons_zero, List.setIfInBounds_toArray, List.set_cons_zero, List.set_cons_succ])
                    refine wpAnyH_take (i := 1) (v := ?vbc1) rfl (by kernel_rfl) (by kernel_rfl) (by kernel_rfl) (fun _ _ _ h => h) (Or.inl ⟨by kernel_rfl, ?ybc1⟩) (by assumption) ?rbc1
                    case ybc1 => (intro wq hSw; (try dsimp only at hSw); go_simp; (try with_reducible rfl))
                    (try simp only [Act.put, List.getElem_toArray, List.getElem_cons_succ, List.getElem_cons_zero, List.setIfInBounds_toArray, List.set_cons_zero, List.set_cons_succ])
                    refine wpAnyH_take (i := 2) (v := ?vbc2) rfl (by kernel_rfl) (by kernel_rfl) (by kernel_rfl) (fun _ _ _ h => h) (Or.inl ⟨by kernel_rfl, ?ybc2⟩) (by assumption) ?rbc2
                    case ybc2 => (intro wq hSw; (try dsimp only at hSw); go_simp; (try with_reducible rfl))
                    (try simp only [Act.put, List.getElem_toArray, List.getElem_cons_succ, List.getElem_cons_zero, List.setIfInBounds_toArray, List.set_cons_zero, List.set_cons_succ])
                    refine wpAnyH_take (i := 3) (v := ?vbc3) rfl (by kernel_rfl) (by kernel_rfl) (by kernel_rfl) (fun _ _ _ h => h) (Or.inl ⟨by kernel_rfl, ?ybc3⟩) (by assumption) ?rbc3
                    case ybc3 => (intro wq hSw; (try dsimp only at hSw); go_simp; (try with_reducible rfl))
                    (try simp only [Act.put, List.getElem_toArray, List.getElem_cons_succ, List.getElem_cons_zero, List.setIfInBounds_toArray, List.set_cons_zero, List.set_cons_succ])
                    refine wpAnyH_take (i := 4) (v := ?vbc4) rfl (by kernel_rfl) (by kernel_rfl) (by kernel_rfl) (fun _ _ _ h => h) (Or.inl ⟨by kernel_rfl, ?ybc4⟩) (by assumption) ?rbc4
                    case ybc4 => (intro wq hSw; (try dsimp only at hSw); go_simp; (try with_reducible rfl))
                    (try simp only [Act.put, List.getElem_toArray, List.getElem_cons_succ, List.getElem_cons_zero, List.setIfInBounds_toArray, List.set_cons_zero, List.set_cons_succ])
                    refine wpAnyH_take (i := 5) (v := ?vbc5) rfl (by kernel_rfl) (by kernel_rfl) (by kernel_rfl) (fun _ _ _ h => h) (Or.inl ⟨by kernel_rfl, ?ybc5⟩) (by assumption) ?rbc5
                    case ybc5 => (intro wq hSw; (try dsimp only at hSw); go_simp; (try with_reducible rfl))
                    (try simp only [Act.put, List.getElem_toArray, List.getElem_cons_succ, List.getElem_cons_zero, List.setIfInBounds_toArray, List.set_cons_zero, List.set_cons_succ])
                    refine wpAnyH_take (i := 6) (v := ?vbc6) rfl (by kernel_rfl) (by kernel_rfl) (by kernel_rfl) (fun _ _ _ h => h) (Or.inl ⟨by kernel_rfl, ?ybc6⟩) (by assumption) ?rbc6
                    case ybc6 => (intro wq hSw; (try dsimp only at hSw); go_simp; (try with_reducible rfl))
                    (try simp only [Act.put, List.getElem_toArray, List.getElem_cons_succ, List.getElem_cons_zero, List.setIfInBounds_toArray, List.set_cons_zero, List.set_cons_succ])
                    refine wpAnyH_take (i := 7) (v := ?vbc7) rfl (by kernel_rfl) (by kernel_rfl) (by kernel_rfl) (fun _ _ _ h => h) (Or.inl ⟨by kernel_rfl, ?ybc7⟩) (by assumption) ?rbc7
                    case ybc7 => (intro wq hSw; (try dsimp only at hSw); go_simp; (try with_reducible rfl))
                    (try simp only [Act.put, List.getElem_toArray, List.getElem_cons_succ, List.getElem_cons_zero, List.setIfInBounds_toArray, List.set_cons_zero, List.set_cons_succ])
                    refine wpAnyH_take (i := 8) (v := ?vbc8) rfl (by kernel_rfl) (by kernel_rfl) (by kernel_rfl) (fun _ _ _ h => h) (Or.inl ⟨by kernel_rfl, ?ybc8⟩) (by assumption) ?rbc8
                    case ybc8 => (intro wq hSw; (try dsimp only at hSw); go_simp; (try with_reducible rfl))
                    (try simp only [Act.put, List.getElem_toArray, List.getElem_cons_succ, List.getElem_cons_zero, List.setIfInBounds_toArray, List.set_cons_zero, List.set_cons_succ])
                    refine wpAnyH_take (i := 9) (v := ?vbc9) rfl (by kernel_rfl) (by kernel_rfl) (by kernel_rfl) (fun _ _ _ h => h) (Or.inl ⟨by kernel_rfl, ?ybc9⟩) (by assumption) ?rbc9
                    case ybc9 => (intro wq hSw; (try dsimp only at hSw); go_simp; (try with_reducible rfl))
                    (try simp only [Act.put, List.getElem_toArray, List.getElem_cons_succ, List.getElem_cons_zero, List.setIfInBounds_toArray, List.set_cons_zero, List.set_cons_succ])
                    refine wpAnyH_take (i := 10) (v := ?vbc10) rfl (by kernel_rfl) (by kernel_rfl) (by kernel_rfl) (fun _ _ _ h => h) (Or.inl ⟨by kernel_rfl, ?ybc10⟩) (by assumption) ?rbc10
                    case ybc10 => (intro wq hSw; (try dsimp only at hSw); go_simp; (try with_reducible rfl))
                    (try simp only [Act.put, List.getElem_toArray, List.getElem_cons_succ, List.getElem_cons_zero, List.setIfInBounds_toArray, List.set_cons_zero, List.set_cons_succ])
                    refine wpAnyH_take (i := 11) (v := ?vbc11) rfl (by kernel_rfl) (by kernel_rfl) (by kernel_rfl) (fun _ _ _ h => h) (Or.inl ⟨by kernel_rfl, ?ybc11⟩) (by assumption) ?rbc11
                    case ybc11 => (intro wq hSw; (try dsimp only at hSw); go_simp; (try with_reducible rfl))
                    (try simp only [Act.put, List.getElem_toArray, List.getElem_cons_succ, List.getElem_cons_zero, List.setIfInBounds_toArray, List.set_cons_zero, List.set_cons_succ])
                    refine wpAnyH_take (i := 12) (v := ?vbc12) rfl (by kernel_rfl) (by kernel_rfl) (by kernel_rfl) (fun _ _ _ h => h) (Or.inl ⟨by kernel_rfl, ?ybc12⟩) (by assumption) ?rbc12
                    case ybc12 => (intro wq hSw; (try dsimp only at hSw); go_simp; (try with_reducible rfl))
                    (try simp only [Act.put, List.getElem_toArray, List.getElem_cons_succ, List.getElem_cons_zero, List.setIfInBounds_toArray, List.set_cons_zero, List.set_cons_succ])
                    refine wpAnyH_take (i := 13) (v := ?vbc13) rfl (by kernel_rfl) (by kernel_rfl) (by kernel_rfl) (fun _ _ _ h => h) (Or.inl ⟨by kernel_rfl, ?ybc13⟩) (by assumption) ?rbc13
                    case ybc13 => (intro wq hSw; (try dsimp only at hSw); go_simp; (try with_reducible rfl))
                    (try simp only [Act.put, List.getElem_toArray, List.getElem_cons_succ, List.getElem_cons_zero, List.setIfInBounds_toArray, List.set_cons_zero, List.set_cons_succ])
                    refine wpAnyH_take (i := 14) (v := ?vbc14) rfl (by kernel_rfl) (by kernel_rfl) (by kernel_rfl) (fun _ _ _ h => h) (Or.inl ⟨by kernel_rfl, ?ybc14⟩) (by assumption) ?rbc14
                    case ybc14 => (intro wq hSw; (try dsimp only at hSw); go_simp; (try with_reducible rfl))
                    (try simp only [Act.put, List.getElem_toArray, List.getElem_cons_succ, List.getElem_cons_zero, List.setIfInBounds_toArray, List.set_cons_zero, List.set_cons_succ])
                    refine wpAnyH_take (i := 15) (v := ?vbc15) rfl (by kernel_rfl) (by kernel_rfl) (by kernel_rfl) (fun _ _ _ h => h) (Or.inl ⟨by kernel_rfl, ?ybc15⟩) (by assumption) ?rbc15
                    case ybc15 => (intro wq hSw; (try dsimp only at hSw); go_simp; (try with_reducible rfl))
                    (try simp only [Act.put, List.getElem_toArray, List.getElem_cons_succ, List.getElem_cons_zero, List.setIfInBounds_toArray, List.set_cons_zero, List.set_cons_succ])
                    refine wpAnyH_take (i := 16) (v := ?vbc16) rfl (by kernel_rfl) (by kernel_rfl) (by kernel_rfl) (fun _ _ _ h => h) (Or.inl ⟨by kernel_rfl, ?ybc16⟩) (by assumption) ?rbc16
                    case ybc16 => (intro wq hSw; (try dsimp only at hSw); go_simp; (try with_reducible rfl))
                    (try simp only [Act.put, List.getElem_toArray, List.getElem_cons_succ, List.getElem_cons_zero, List.setIfInBounds_toArray, List.set_cons_zero, List.set_cons_succ])
                    refine wpAnyH_take (i := 17) (v := ?vbc17) rfl (by kernel_rfl) (by kernel_rfl) (by kernel_rfl) (fun _ _ _ h => h) (Or.inl ⟨by kernel_rfl, ?ybc17⟩) (by assumption) ?rbc17
                    case ybc17 => (intro wq hSw; (try dsimp only at hSw); go_simp; (try with_reducible rfl))
                    (try simp only [Act.put, List.getElem_toArray, List.getElem_cons_succ, List.getElem_cons_zero, List.setIfInBounds_toArray, List.set_cons_zero, List.set_cons_succ])
                    refine wpAnyH_take (i := 18) (v := ?vbc18) rfl (by kernel_rfl) (by kernel_rfl) (by kernel_rfl) (fun _ _ _ h => h) (Or.inl ⟨by kernel_rfl, ?ybc18⟩) (by assumption) ?rbc18
                    case ybc18 => (intro wq hSw; (try dsimp only at hSw); go_simp; (try with_reducible rfl))
                    (try simp only [Act.put, List.getElem_toArray, List.getElem_cons_succ, List.getElem_cons_zero, List.setIfInBounds_toArray, List.set_cons_zero, List.set_cons_succ])
                    refine wpAnyH_take (i := 19) (v := ?vbc19) rfl (by kernel_rfl) (by kernel_rfl) (by kernel_rfl) (fun _ _ _ h => h) (Or.inl ⟨by kernel_rfl, ?ybc19⟩) (by assumption) ?rbc19
                    case ybc19 => (intro wq hSw; (try dsimp only at hSw); go_simp; (try with_reducible rfl))
                    (try simp only [Act.put, List.getElem_toArray, List.getElem_cons_succ, List.getElem_cons_zero, List.setIfInBounds_toArray, List.set_cons_zero, List.set_cons_succ])
                    refine wpAnyH_take (i := 20) (v := ?vbc20) rfl (by kernel_rfl) (by kernel_rfl) (by kernel_rfl) (fun _ _ _ h => h) (Or.inl ⟨by kernel_rfl, ?ybc20⟩) (by assumption) ?rbc20
                    case ybc20 => (intro wq hSw; (try dsimp only at hSw); go_simp; (try with_reducible rfl))
                    (try simp only [Act.put, List.getElem_toArray, List.getElem_cons_succ, List.getElem_cons_zero, List.setIfInBounds_toArray, List.set_cons_zero, List.set_cons_succ])
                    refine wpAnyH_take (i := 21) (v := ?vbc21) rfl (by kernel_rfl) (by kernel_rfl) (by kernel_rfl) (fun _ _ _ h => h) (Or.inl ⟨by kernel_rfl, ?ybc21⟩) (by assumption) ?rbc21
                    case ybc21 => (intro wq hSw; (try dsimp only at hSw); go_simp; (try with_reducible rfl))
                    (try simp only [Act.put, List.getElem_toArray, List.getElem_cons_succ, List.getElem_cons_zero, List.setIfInBounds_toArray, List.set_cons_zero, List.set_cons_succ])
                    refine wpAnyH_take (i := 22) (v := ?vbc22) rfl (by kernel_rfl) (by kernel_rfl) (by kernel_rfl) (fun _ _ _ h => h) (Or.inl ⟨by kernel_rfl, ?ybc22⟩) (by assumption) ?rbc22
                    case ybc22 => (intro wq hSw; (try dsimp only at hSw); go_simp; (try with_reducible rfl))
                    (try simp only [Act.put, List.getElem_toArray, List.getElem_cons_succ, List.getElem_cons_zero, List.setIfInBounds_toArray, List.set_cons_zero, List.set_cons_succ])
                    refine wpAnyH_take (i := 23) (v := ?vbc23) rfl (by kernel_rfl) (by kernel_rfl) (by kernel_rfl) (fun _ _ _ h => h) (Or.inl ⟨by kernel_rfl, ?ybc23⟩) (by assumption) ?rbc23
                    case ybc23 => (intro wq hSw; (try dsimp only at hSw); go_simp; (try with_reducible rfl))
                    (try simp only [Act.put, List.getElem_toArray, List.getElem_cons_succ, List.getElem_cons_zero, List.setIfInBounds_toArray, List.set_cons_zero, List.set_cons_succ])
                    refine wpAnyH_take (i := 24) (v := ?vbc24) rfl (by kernel_rfl) (by kernel_rfl) (by kernel_rfl) (fun _ _ _ h => h) (Or.inl ⟨by kernel_rfl, ?ybc24⟩) (by assumption) ?rbc24
                    case ybc24 => (intro wq hSw; (try dsimp only at hSw); go_simp; (try with_reducible rfl))
                    (try simp only [Act.put, List.getElem_toArray, List.getElem_cons_succ, List.getElem_cons_zero, List.setIfInBounds_toArray, List.set_cons_zero, List.set_cons_succ])
                    refine wpAnyH_take (i := 25) (v := ?vbc25) rfl (by kernel_rfl) (by kernel_rfl) (by kernel_rfl) (fun _ _ _ h => h) (Or.inl ⟨by kernel_rfl, ?ybc25⟩) (by assumption) ?rbc25
                    case ybc25 => (intro wq hSw; (try dsimp only at hSw); go_simp; (try with_reducible rfl))
                    (try simp only [Act.put, List.getElem_toArray, List.getElem_cons_succ, List.getElem_cons_zero, List.setIfInBounds_toArray, List.set_cons_zero, List.set_cons_succ])
                    refine wpAnyH_take (i := 26) (v := ?vbc26) rfl (by kernel_rfl) (by kernel_rfl) (by kernel_rfl) (fun _ _ _ h => h) (Or.inl ⟨by kernel_rfl, ?ybc26⟩) (by assumption) ?rbc26
                    case ybc26 => (intro wq hSw; (try dsimp only at hSw); go_simp; (try with_reducible rfl))
                    (try simp only [Act.put, List.getElem_toArray, List.getElem_cons_succ, List.getElem_cons_zero, List.setIfInBounds_toArray, List.set_cons_zero, List.set_cons_succ])
                    refine wpAnyH_take (i := 27) (v := ?vbc27) rfl (by kernel_rfl) (by kernel_rfl) (by kernel_rfl) (fun _ _ _ h => h) (Or.inl ⟨by kernel_rfl, ?ybc27⟩) (by assumption) ?rbc27
                    case ybc27 => (intro wq hSw; (try dsimp only at hSw); go_simp; (try with_reducible rfl))
                    (try simp only [Act.put, List.getElem_toArray, List.getElem_cons_succ, List.getElem_cons_zero, List.setIfInBounds_toArray, List.set_cons_zero, List.set_cons_succ])
                    refine wpAnyH_take (i := 28) (v := ?vbc28) rfl (by kernel_rfl) (by kernel_rfl) (by kernel_rfl) (fun _ _ _ h => h) (Or.inl ⟨by kernel_rfl, ?ybc28⟩) (by assumption) ?rbc28
                    case ybc28 => (intro wq hSw; (try dsimp only at hSw); go_simp; (try with_reducible rfl))
                    (try simp only [Act.put, List.getElem_toArray, List.getElem_cons_succ, List.getElem_cons_zero, List.setIfInBounds_toArray, List.set_cons_zero, List.set_cons_succ])
                    refine wpAnyH_take (i := 29) (v := ?vbc29) rfl (by kernel_rfl) (by kernel_rfl) (by kernel_rfl) (fun _ _ _ h => h) (Or.inl ⟨by kernel_rfl, ?ybc29⟩) (by assumption) ?rbc29
                    case ybc29 => (intro wq hSw; (try dsimp only at hSw); go_simp; (try with_reducible rfl))
                    (try simp only [Act.put, List.getElem_toArray, List.getElem_cons_succ, List.getElem_cons_zero, List.setIfInBounds_toArray, List.set_cons_zero, List.set_cons_succ])
                    refine wpAnyH_ready (rs := [30]) (by kernel_rfl) (by simp) ?_
                    refine AllReadyH.cons rfl (fun K hK => ?_) AllReadyH.nil
                    go_simp
                    refine hK.out _ _ (by exact ⟨HNC.out _ (P6.get 0 rfl), HYC.out _ (P6.get 2 rfl)⟩) (fun hHeld => ?_)
                    clear hK K
                    (try simp only [Act.put, List.getElem_toArray, List.getElem_cons_succ, List.getElem_cons_zero, List.setIfInBounds_toArray, List.set_cons_zero, List.set_cons_succ])
                    refine wpAnyH_ready (rs := [31]) (by kernel_rfl) (by simp) ?_
                    refine AllReadyH.cons rfl (fun K hK => ?_) AllReadyH.nil
                    (refine step_append_lies _ rfl (.tmp 128) (.tmp 158) 22 rfl w.heap.size 40 ir (.agg #[.int .i64 0, .int .i64 0, .int .i64 0, .int .i64 0]) 4 32 Try.underlying22 hri hrz0 hrz1 hrz2 rfl (by decide) _ _ _ rfl P6.2.1 ⟨_, 0, none⟩ 1 1 [.int .i64 p1, .int .i64 a, .int .i64 (p2 - p1), .int .i64 (b - a)] rfl rfl (fun j' u' hu' => cell_list_at _ _ [.int .i64 p1, .int .i64 a, .int .i64 (p2 - p1), .int .i64 (b - a)] _ rfl j' u' hu') (oneCell_ints [p1, a, p2 - p1, b - a]) (by decide) (by unfold maxLen; have := HFQ.out; omega) (by have := HFQ.out; omega) P6.2.2.size _ rfl ?_); intro g' cap' w7 ho hg' _ _; have P7 := P6.grow hg' (HOW.out _ _ _ ho); clear ho hg'
                    refine hK.out _ _ (by exact ⟨HNC.out _ (P7.get 0 rfl), HYC.out _ (P7.get 2 rfl)⟩) (fun hHeld => ?_)
                    clear hK K
                    (try simp only [Act.put, List.getElem_toArray, List.getElem_cons_succ, List.getElem_cons_zero, List.setIfInBounds_toArray, List.set_cons_zero, List.set_cons_succ])
                    refine wpAnyH_take (i := 32) (v := ?vbc32) rfl (by kernel_rfl) (by kernel_rfl) (by kernel_rfl) (fun _ _ _ h => h) (Or.inl ⟨by kernel_rfl, ?ybc32⟩) (by assumption) ?rbc32
                    case ybc32 => (intro wq hSw; (try dsimp only at hSw); go_simp; (try with_reducible rfl))
                    (try simp only [Act.put, List.getElem_toArray, List.getElem_cons_succ, List.getElem_cons_zero, List.setIfInBounds_toArray, List.set_cons_zero, List.set_cons_succ])
                    refine wpAnyH_done (by kernel_rfl) ?_ _
                    refine NoPanic.normal ?_
                    clear hHeld
                    go_wp2_with fail
                    go_roundw
                    case rel => exact ⟨i + 1, kk + 2, by have := HK.out; omega, by show kk + 2 = 2 * (i + 1); have := HK.out; omega, by go_num, P7⟩
                    case measure => simp [intOf]; omega
                  · obtain rfl : i = ql := by have := HK.out; omega
                    have hk1 : ¬ (kk : Int) < ((2 * i : Nat) : Int) := by omega
                    have hk2 : ¬ (kk : Int) < 2 * (i : Int) := by omega
                    have HX1 := Lib.hid (show (setF now ys (j + 1)).rs = F.rs ++ (q.map (prR a b)).take i by rw [HE.out, List.take_of_length_le (by rw [List.length_map, ← HQL.out]; exact Nat.le_refl _)])
                    go_wp2_with fail
                    go_roundw
                    case rel => exact ⟨j + 1, by omega, by go_num, by rw [HX1.out, HCX.out]; exact P5.sub (fun p hp => by
                      rcases List.mem_cons.1 hp with h | h
                      · rw [h]; exact List.mem_cons_self ..
                      · exact List.mem_cons_of_mem _ (List.mem_cons_of_mem _ h))⟩
                    case measure => simp [intOf]; omega
          · have hl : ¬ (j : Int) + 1 < (ny : Int) := by omega
            have HE := Lib.hid (show setF now ys j = setF now ys (ys.length - 1) by rw [← HNY.out, show ny - 1 = j by omega])
            rw [HE.out] at P1
            generalize (setF now ys (ys.length - 1)).rs = FR at P1 HFO
            obtain ⟨po, co, rfl⟩ := P1.2.1.slice
            have HFI := Lib.hid ((fault_iff la lb).2 HOO.out)
            obtain ⟨fl, hfl⟩ : ∃ fl, fl = FR.length := ⟨_, rfl⟩
            rw [← hfl] at P1 ⊢
            have HFL := Lib.hid hfl
            clear hfl
            by_cases h256 : 256 < fl
            · have h1 : (256 : Int) < (fl : Int) := by omega
              go_wp2_with fail
              refine bodyPost_ret (v := .tuple #[.slice none 0 0, .int .i64 2]) (by simp [results, Try.results12, go_sem]) rfl ?_
              exact ⟨_, _, [], rfl, .inr ⟨HFI.out, FR, HFO.out, .inl ⟨by rw [← HFL.out]; exact h256, rfl, rfl⟩⟩, RdK.nil _ _, P1.2.2⟩
            · have h1 : ¬ (256 : Int) < (fl : Int) := by omega
              go_wp2_with fail
              refine bodyPost_ret (v := .tuple #[.slice po fl co, .int .i64 0]) (by simp [results, Try.results12, go_sem]) rfl ?_
              exact ⟨_, _, FR, rfl, .inr ⟨HFI.out, FR, HFO.out, .inr ⟨by rw [← HFL.out]; omega, rfl, rfl⟩⟩, OwK.reads encR_len P1.2.1, P1.2.2⟩
end Go.Proofs.Ytfabknabkcfpjaa
