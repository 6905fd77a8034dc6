/- The reference's tree: seen, Under. -/
import Derived.Test.YtphmlfklmleafaaJak
import Derived.Test.YtphmlfklmleafaaJan
section
namespace Go.Proofs.Ytphmlfklmleafaa
open Go.RowKit Go.Shelf
/-- Each number is one window's. -/
def Uniq (R : RT) (L : List Win) : Prop := ∀ v ∈ L, getR R L v.id = some v
def hitW (i px py : Int) (v : Win) : Bool := v.par == i && (v.on && hasB v.x v.y v.w v.h px py)
theorem nd_of {R : RT} {L : List Win} (hU : Uniq R L) {v : Win} (hv : v ∈ L) : ndL R L v.id = some ⟨v, kidsL L v.id⟩ := by
  unfold ndL; rw [hU v hv]; rfl
theorem hit_of {R : RT} {L : List Win} (hU : Uniq R L) {v : Win} (hv : v ∈ L) (px py : Int) : hitB (ndL R L) px py v.id = (v.on && hasB v.x v.y v.w v.h px py) := by
  simp only [hitB, onOf, xOf, yOf, wOf, hOf, nd_of hU hv]
theorem ndL_id {R : RT} {L : List Win} {i : Int} {d : Nd} (h : ndL R L i = some d) : d.win.id = i := by
  obtain ⟨h1, _⟩ := ndL_some h
  unfold getR at h1
  split at h1
  · next e => injection h1 with h1; rw [← h1, e]; rfl
  · unfold findL at h1
    cases hp : placeN i L with
    | none => rw [hp] at h1; cases h1
    | some k =>
      rw [hp] at h1
      obtain ⟨v, h2, h3, _⟩ := placeN_get L k hp
      rw [show L[k]? = some d.win from h1] at h2
      injection h2 with h2
      rw [h2]; exact h3
/-- No window from place r on is seen there. -/
def NoHit (L : List Win) (i px py : Int) (r : Nat) : Prop := ∀ (j : Nat) (u : Win), r ≤ j → L[j]? = some u → hitW i px py u = false
theorem kids_miss {R : RT} {L : List Win} (hU : Uniq R L) {i px py : Int} (M : List Win) (hM : ∀ u ∈ M, u ∈ L ∧ hitW i px py u = false) : ∀ k ∈ kidsL M i, hitB (ndL R L) px py k = false := by
  intro k hk
  unfold kidsL at hk
  obtain ⟨u, hu, rfl⟩ := List.mem_map.1 hk
  obtain ⟨h1, h2⟩ := List.mem_filter.1 hu
  obtain ⟨h3, h4⟩ := hM u h1
  rw [hit_of hU h3]
  unfold hitW at h4
  rw [h2, Bool.true_and] at h4
  exact h4
theorem seen_hit {R : RT} {L : List Win} (hU : Uniq R L) {i px py : Int} {r : Nat} {v : Win} (hv : L[r]? = some v) (hn : NoHit L i px py (r + 1)) (hh : hitW i px py v = true) {d : Nd} (hd : ndL R L i = some d) (n : Nat) :
    seenB (ndL R L) (n + 1) i px py = seenB (ndL R L) n v.id (wrap64 (px - v.x)) (wrap64 (py - v.y)) := by
  have hrl := (List.getElem?_eq_some_iff.1 hv).1
  have hvL : v ∈ L := List.mem_of_getElem? hv
  obtain ⟨-, hk⟩ := ndL_some hd
  have hsplit : L = L.take r ++ ([v] ++ L.drop (r + 1)) := by
    rw [← List.append_assoc, ← take_snoc_get hv, List.take_append_drop]
  have hpar : v.par = i := by unfold hitW at hh; simp at hh; exact hh.1
  have hke : kidsL L i = kidsL (L.take r) i ++ ([v.id] ++ kidsL (L.drop (r + 1)) i) := by
    conv => lhs; rw [hsplit]
    unfold kidsL
    simp [List.filter_append, hpar]
  have hB : ∀ k ∈ kidsL (L.drop (r + 1)) i, hitB (ndL R L) px py k = false := kids_miss hU _ fun u hu => by
    obtain ⟨j, hj⟩ := List.getElem?_of_mem hu
    rw [List.getElem?_drop] at hj
    exact ⟨List.mem_of_getElem? hj, hn _ u (by omega) hj⟩
  have hf : d.kids.reverse.find? (hitB (ndL R L) px py) = some v.id := by
    rw [hk, hke, List.reverse_append, List.reverse_append]
    refine find_pre (A := (kidsL (L.drop (r + 1)) i).reverse) (B := (kidsL (L.take r) i).reverse) rfl (fun x hx => hB x (by simpa using hx)) ?_
    rw [hit_of hU hvL]
    unfold hitW at hh; simp at hh; simp [hh.2]
  simp only [seenB, hd, hf]
  simp only [xOf, yOf, nd_of hU hvL, IntWalk.i64_left]
theorem seen_none {R : RT} {L : List Win} (hU : Uniq R L) {i px py : Int} (hn : NoHit L i px py 0) {d : Nd} (hd : ndL R L i = some d) (n : Nat) : seenB (ndL R L) (n + 1) i px py = i := by
  obtain ⟨-, hk⟩ := ndL_some hd
  have hf : d.kids.reverse.find? (hitB (ndL R L) px py) = none := by
    rw [hk, List.find?_eq_none]
    intro x hx
    have := kids_miss hU L (fun u hu => by
      obtain ⟨j, hj⟩ := List.getElem?_of_mem hu
      exact ⟨hu, hn j u (Nat.zero_le _) hj⟩) x (by simpa using hx)
    simp [this]
  simp only [seenB, hd, hf]
  exact ndL_id hd
theorem NoHit.step {L : List Win} {i px py : Int} {r : Nat} {v : Win} (h : NoHit L i px py (r + 1)) (hv : L[r]? = some v) (hh : hitW i px py v = false) : NoHit L i px py r := fun j u hj hu => by
  rcases Nat.lt_or_ge r j with h1 | h1
  · exact h j u (by omega) hu
  · obtain rfl : j = r := by omega
    rw [hv] at hu; injection hu with hu; rw [← hu]; exact hh
theorem below_window {wb wr w1 : World} {v : Array Value} (h : Below wb.heap.size wb wr) (hb : Below (wr.alloc (.cells v 50)).heap.size (wr.alloc (.cells v 50)) w1) : Below wb.heap.size wb w1 := hb.on (h.alloc h.size _) (by have := h.size; simp; omega)
theorem win_kept7 {w w' : World} {v : Array Value} (hb : Below (w.alloc (.cells v 50)).heap.size (w.alloc (.cells v 50)) w') : Blk w' w.heap.size 50 v := (Blk.new w _ _).next hb
section
variable {R : RT} {L : List Win}
set_option maxRecDepth 100000 in
set_option maxHeartbeats 16000000 in
theorem rseen_c (hU : Uniq R L) (hL : L.length ≤ 1048576) : ∀ (n : Nat) (i px py : Int) (sv : Value) (w : World), RW w sv L → Tall (ndL R L) n i →
    Calls Try.prog 45 #[refV R sv, .int .i64 i, .agg #[.int .i64 px, .int .i64 py]] w fun e w' => e = .returned (.int .i64 (seenB (ndL R L) n i px py)) ∧ Below w.heap.size w w'
  | 0, _, _, _, _, _, _, hT => hT.elim
  | n + 1, i, px, py, sv, w, h, hT => by
    obtain ⟨d, hd, hkids⟩ := hT
    obtain ⟨wb, hwb⟩ : ∃ wb, wb = (w.alloc (.cells (refA R sv) 36)).alloc (.cells #[.int .i64 px, .int .i64 py] 26) := ⟨_, rfl⟩
    have hbel : Below w.heap.size w wb := by rw [hwb]; exact ((Below.refl _ _).alloc (Nat.le_refl _) _).alloc (by simp) _
    have hbA : Blk wb w.heap.size 36 (refA R sv) := by rw [hwb]; exact (Blk.new w _ _).alloc _
    have hbB : Blk wb (w.heap.size + 1) 26 #[.int .i64 px, .int .i64 py] := by
      rw [hwb]
      have := Blk.new (w.alloc (.cells (refA R sv) 36)) 26 #[.int .i64 px, .int .i64 py]
      rwa [World.size_alloc] at this
    have HRW := Lib.hid (fun W (hW : Below w.heap.size w W) => h.below hW)
    obtain ⟨p, c, rfl, hcell⟩ := id h
    have HC := Lib.hid (fun (W : World) (hW : Below wb.heap.size wb W) (j : Nat) (v : Win) (hv : L[j]? = some v) => (show ∃ b o, p = some ⟨b, o, none⟩ ∧ ∀ (i : Nat) (u : Value), (encW v)[i]? = some u → W.cell? ⟨b, o + j * 7 + i, none⟩ = some u from by
      obtain ⟨b, o, h1, h2, h3⟩ := hcell j v hv
      exact ⟨b, o, h1, fun i u hu => (hW.cell (p := ⟨b, o + j * 7 + i, none⟩) (Nat.lt_of_lt_of_le h2 hbel.size)).trans ((hbel.cell (p := ⟨b, o + j * 7 + i, none⟩) h2).trans (h3 i u hu))⟩))
    have HKID := Lib.hid (fun (k : Int) (hk : k ∈ kidsL L i) => hkids k ((ndL_some hd).2 ▸ hk))
    have HD := Lib.hid hd
    have HB := Lib.hid hbel
    have HW := Lib.hid hwb
    obtain ⟨m, hm⟩ : ∃ m, m = L.length := ⟨_, rfl⟩
    rw [← hm] at hbA hwb HW HRW ⊢
    have HX := Lib.hid (fun (W : World) (hW : Below wb.heap.size wb W) => And.intro (hbA.next hW) (hbB.next hW))
    have HM := Lib.hid hm
    have hm0 : (m : Int) ≤ 1048576 := by omega
    have hm1 : (0 : Int) ≤ (m : Int) := by omega
    have x5 := hbA.at_ (i := 5) rfl
    clear h hbel hbA hbB hcell hd hkids hm
    go_enter Try.func45, Try.ntmps45
    go_upto_region 1 with fail
    rw [← HW.out]
    clear hwb
    go_wp2_with fail
    go_loopw [7] (fun z wr => ∃ (r : Nat) (y : Int), r ≤ m ∧ z = .int .i64 y ∧ y + 1 = (r : Int) ∧ Below wb.heap.size wb wr ∧ Asd (NoHit L i px py r)) (fun z _ => (intOf z + 1).toNat)
    case atStart => exact ⟨m, _, Nat.le_refl _, rfl, by omega, Below.refl _ _, fun j u hj hu => by have h1 := (List.getElem?_eq_some_iff.1 hu).1; have h2 := HM.out; omega⟩
    case round =>
      obtain ⟨r, y, hr, rfl, hy, hbl, hA⟩ := hrel
      have HA := Lib.hid (show NoHit L i px py r from hA)
      have HBL := Lib.hid hbl
      obtain ⟨hx1, hx2⟩ := HX.out wr hbl
      have z0 := hx1.at_ (i := 0) rfl
      have z1 := hx1.at_ (i := 1) rfl
      have z2 := hx1.at_ (i := 2) rfl
      have z3 := hx1.at_ (i := 3) rfl
      have z4 := hx1.at_ (i := 4) rfl
      have z5 := hx1.at_ (i := 5) rfl
      obtain ⟨⟨q0, q1⟩, -⟩ := hx2.c2
      clear hA hx1 hx2 x5
      cases r with
      | zero =>
        obtain rfl : y = -1 := by omega
        have HR := Lib.hid (seen_none hU HA.out HD.out n)
        clear hbl hy
        go_wp2_with fail
        go_ret
        exact ⟨ret_int HR.out.symm, HBL.out.on HB.out HB.out.size⟩
      | succ r =>
        obtain rfl : y = (r : Int) := by omega
        obtain ⟨v, hv⟩ : ∃ v, L[r]? = some v := ⟨_, List.getElem?_eq_getElem (by rw [← HM.out]; omega)⟩
        obtain ⟨b, o, rfl, hb2⟩ := HC.out wr hbl r v hv
        obtain ⟨r0, r1, r2, r3, r4, r5, r6⟩ := RW.cells hb2
        have HV := Lib.hid hv
        have hk0 : (0 : Int) ≤ (r : Int) := by omega
        have hk1 : (r : Int) < (m : Int) := by omega
        obtain ⟨vid, vpar, vx, vy, vw, vh, von⟩ := v
        clear hb2 hv hbl hy
        by_cases hp : vpar = i
        · have hp1 : (vpar == i) = true := by simpa using hp
          cases von with
          | false =>
            have HH := Lib.hid (HA.out.step HV.out (by unfold hitW; simp))
            clear hp
            go_wp2_with fail
            go_roundw
            case rel => exact ⟨r, _, by omega, rfl, by omega, HBL.out.alloc HBL.out.size _, HH.out⟩
            case measure => simp [intOf]
          | true =>
            obtain ⟨hh, hhe⟩ : ∃ hh, hh = hasB vx vy vw vh px py := ⟨_, rfl⟩
            have HHA := Lib.hid (fun W1 => (show Calls Try.prog 63 #[.agg #[.int .i64 vx, .int .i64 vy, .int .i64 vw, .int .i64 vh], .agg #[.int .i64 px, .int .i64 py]] W1 fun e w' => e = .returned (.bool hh) ∧ Below W1.heap.size W1 w' from by rw [hhe]; exact rhas_c _ _ _ _ _ _ W1))
            have HHH := Lib.hid (show hitW i px py ⟨vid, vpar, vx, vy, vw, vh, true⟩ = hh by unfold hitW; simp [hp, hhe])
            have HPI := Lib.hid hp
            clear hp hhe
            cases hh with
            | false =>
              have HH := Lib.hid (HA.out.step HV.out HHH.out)
              obtain ⟨⟨qa0, qa1⟩, -⟩ := (HX.out _ (HBL.out.alloc HBL.out.size (.cells #[.int .i64 vid, .int .i64 vpar, .int .i64 vx, .int .i64 vy, .int .i64 vw, .int .i64 vh, .bool true] 50))).2.c2
              go_wp2_with (go_at_call 63; ((with_reducible refine (HHA.out _).mono ?_); rintro e w1 ⟨rfl, hb⟩); have HB1 := Lib.hid ((below_window HBL.out hb)); clear hb)
              go_roundw
              case rel => exact ⟨r, _, by omega, rfl, by omega, HB1.out, HH.out⟩
              case measure => simp [intOf]
            | true =>
              have HR := Lib.hid (seen_hit hU HV.out HA.out HHH.out HD.out n)
              have HKT := Lib.hid (HKID.out vid (by
                unfold kidsL
                exact List.mem_map.2 ⟨_, List.mem_filter.2 ⟨List.mem_of_getElem? HV.out, by simpa using HPI.out⟩, rfl⟩))
              have HRE := Lib.hid (fun (W : World) (hW : Below w.heap.size w W) => rseen_c hU hL n vid (wrap64 (px - vx)) (wrap64 (py - vy)) _ W (HRW.out W hW) HKT.out)
              obtain ⟨⟨qa0, qa1⟩, -⟩ := (HX.out _ (HBL.out.alloc HBL.out.size (.cells #[.int .i64 vid, .int .i64 vpar, .int .i64 vx, .int .i64 vy, .int .i64 vw, .int .i64 vh, .bool true] 50))).2.c2
              go_wp2_with (first
                | (go_at_call 63; ((with_reducible refine (HHA.out _).mono ?_); rintro e w1 ⟨rfl, hb⟩); have hbb := Lib.hid hb; have hB1 := below_window HBL.out hb; have HB1 := Lib.hid (hB1.on HB.out HB.out.size); obtain ⟨hy1, hy2⟩ := HX.out _ hB1; have z0 := hy1.at_ (i := 0) rfl; have z1 := hy1.at_ (i := 1) rfl; have z2 := hy1.at_ (i := 2) rfl; have z3 := hy1.at_ (i := 3) rfl; have z4 := hy1.at_ (i := 4) rfl; have z5 := hy1.at_ (i := 5) rfl; obtain ⟨⟨q0, q1⟩, -⟩ := hy2.c2; have hw7 := win_kept7 hbb.out; obtain ⟨⟨s0, -, s2, s3, -, -, -⟩, -⟩ := hw7.c7; clear hb hB1 hy1 hy2 hw7)
                | (go_at_call 45; ((with_reducible refine (HRE.out _ HB1.out).mono ?_); rintro e w2 ⟨rfl, hb2⟩); have HB2 := Lib.hid (hb2.on HB1.out HB1.out.size); clear hb2))
              go_ret
              exact ⟨ret_int HR.out.symm, HB2.out⟩
        · have hp1 : (vpar == i) = false := by simpa using hp
          have HH := Lib.hid (HA.out.step HV.out (by unfold hitW; rw [hp1]; rfl))
          clear hp
          go_wp2_with fail
          go_roundw
          case rel => exact ⟨r, _, by omega, rfl, by omega, HBL.out.alloc HBL.out.size _, HH.out⟩
          case measure => simp [intOf]
end
end Go.Proofs.Ytphmlfklmleafaa
end
