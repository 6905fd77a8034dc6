/- order.Bands; the document's Place, Check, next, cut, younger, lower. -/
import Derived.Test.YtgioeijdgoogkaaOdO
namespace Go.Proofs.Ytgioeijdgoogkaa.Od
open Go.RowKit Go.Maps Go.Shelf
set_option linter.unusedSimpArgs false
set_option maxHeartbeats 2000000 in
set_option maxRecDepth 100000 in
theorem Bands_c (v0 : Value) (l : List It) (w : World) (hR : RdT w v0 l) (hs : OkI l) :
    Calls Try.prog 14 #[v0] w fun e w' => ∃ v zs, e = .returned v ∧ RdI w' v zs ∧ BdsR l zs ∧ Below w.heap.size w w' := by
  have HK := Lib.hid (Check_c v0 l w hR fun j t h => (hs j t h).1)
  have HOW := Lib.hid (fun (W : World) (h : Below w.heap.size w W) hd hn => owners_c v0 l W (hR.below h) hd hn hs)
  have HBD := Lib.hid (fun g2 c2 (W : World) (h : Below w.heap.size w W) hd hn hq => bands_c v0 l g2 c2 W (hR.below h) hd hn hq)
  obtain ⟨p, c, rfl, -⟩ := hR
  obtain ⟨n, hln⟩ : ∃ n, n = l.length := ⟨_, rfl⟩
  rw [← hln] at HK HOW HBD ⊢
  have HN := Lib.hid hln
  clear hs hln
  go_enter Try.func14, Try.ntmps14
  go_wp2_with fail
  refine HK.out.mono ?_
  rintro e w1 ⟨z, rfl, hz, hb⟩
  have HZ := Lib.hid hz
  have HB1 := Lib.hid hb
  clear hz hb HK
  by_cases hz0 : z = 0
  rotate_left
  · have e1 : (z == 0) = false := by simpa using hz0
    have HO : Hid (BdsR l []) := ⟨z, HZ.out, .inl ⟨hz0, rfl⟩⟩
    go_wp2_with fail
    go_ret
    exact ⟨_, _, rfl, RdI.nil _ _, HO.out, HB1.out⟩
  · have HG := Lib.hid (HZ.out.good hz0)
    have HO : Hid (BdsR l (l.map fun x => bd l x.c)) := ⟨z, HZ.out, .inr ⟨hz0, rfl⟩⟩
    subst hz0
    have HN128 := Lib.hid (show n ≤ 128 by have := HN.out; have := HG.out.1; omega)
    have HCL := Lib.hid (HOW.out w1 HB1.out HG.out.2.1 HN128.out)
    clear HOW
    go_wp2_with fail
    with_reducible refine HCL.out.mono ?_
    rintro e w2 ⟨gO, rfl, hO, hgO, hb⟩
    have HB2 := Lib.hid (HB1.out.trans (hb.mono HB1.out.size))
    have HCB := Lib.hid (HBD.out gO n w2 HB2.out HG.out.2.1 HN128.out hO)
    clear hO hgO hb HBD HCL
    go_wp2_with fail
    with_reducible refine HCB.out.mono ?_
    rintro e w3 ⟨gB, rfl, hB, hgB, hb⟩
    have HB3 := Lib.hid (HB2.out.trans (hb.mono HB2.out.size))
    have HRD : Hid (RdI w3 (.slice (some ⟨gB, 0, none⟩) n n) (l.map fun x => bd l x.c)) := RdI.blk hB (by rw [List.length_map, HN.out])
    clear hB hgB hb HCB
    go_wp2_with fail
    go_ret
    exact ⟨_, _, rfl, HRD.out, HO.out, HB3.out⟩
/-! ### the document's -/
theorem idx_first : ∀ {s : List Int} {k : Nat} {c : Int}, s[k]? = some c → (∀ j, j < k → s[j]? ≠ some c) → s.idxOf c = k
  | [], _, _, h, _ => by simp at h
  | a :: t, 0, c, h, _ => by simp at h; subst h; simp
  | a :: t, k + 1, c, h, hn => by
    have h0 : a ≠ c := fun e => hn 0 (by omega) (by simp [e])
    have hb : (a == c) = false := by simpa using h0
    rw [List.idxOf_cons, hb]
    show t.idxOf c + 1 = k + 1
    rw [idx_first (k := k) (by simpa using h) fun j hj => by simpa using hn (j + 1) (by omega)]
/-- Place's answer. -/
def plc (l : List It) (c : Int) : Int := if c ∈ cl l then pl l c else -1
set_option maxHeartbeats 2000000 in
theorem place_c (v0 : Value) (l : List It) (c : Int) (w : World) (hR : RdT w v0 l) (hn : l.length ≤ 9223372036854775807) :
    Calls Try.prog 19 #[v0, .int .i64 c] w fun e w' => e = .returned (.int .i64 (plc l c)) ∧ w' = w := by
  have hR0 := hR
  obtain ⟨p, cc, rfl, -⟩ := hR
  have HR := Lib.hid hR0
  obtain ⟨n, hln⟩ : ∃ n, n = l.length := ⟨_, rfl⟩
  rw [← hln] at hn HR ⊢
  have HN := Lib.hid hln
  obtain ⟨z, hz⟩ : ∃ z, z = plc l c := ⟨_, rfl⟩
  rw [← hz]
  have HZ := Lib.hid hz
  clear hR0 hln hz
  go_enter Try.func19, Try.ntmps19
  go_wp2_with fail
  go_loopw [5] (fun z wr => ∃ k : Nat, k ≤ n ∧ z = .int .i64 k ∧ wr = w ∧ Asd (∀ j, j < k → (cl l)[j]? ≠ some c)) (fun z _ => n - (intOf z).toNat)
  case atStart => exact ⟨0, Nat.zero_le _, rfl, rfl, fun j hj => absurd hj (Nat.not_lt_zero j)⟩
  case round =>
    obtain ⟨k, hk, rfl, rfl, hA⟩ := hrel
    have HA := Lib.hid (show ∀ j, j < k → (cl l)[j]? ≠ some c from hA)
    clear hA
    by_cases hlt : k < n
    · obtain ⟨x, hx⟩ : ∃ x, l[k]? = some x := ⟨_, List.getElem?_eq_getElem (by rw [← HN.out]; exact hlt)⟩
      obtain ⟨b, o, rfl, hRB⟩ := HR.out.open hx
      obtain ⟨y0, y1, y2, y3, y4, y5⟩ := hRB.get hx
      have hi0 : (0 : Int) ≤ (k : Int) := by omega
      have hi1 : (k : Int) < (n : Int) := by omega
      have hcx : (cl l)[k]? = some x.c := by unfold cl; rw [List.getElem?_map, hx]; rfl
      by_cases hxc : x.c = c
      · have HZ2 : Hid (z = (k : Int)) := by
          rw [HZ.out]; unfold plc pl
          rw [if_pos (by rw [← hxc]; exact List.mem_of_getElem? hcx), idx_first (k := k) (by rw [hcx, hxc]) HA.out]
          exact rfl
        have e1 : (x.c == c) = true := by simpa using hxc
        clear hRB hx hcx
        go_wp2_with fail
        go_ret
        exact ⟨by rw [HZ2.out]; rfl, rfl⟩
      · have HA2 : Hid (∀ j, j < k + 1 → (cl l)[j]? ≠ some c) := fun j hj => by
          rcases Nat.lt_or_ge j k with h | h
          · exact HA.out j h
          · obtain rfl : j = k := by omega
            rw [hcx]; intro e; exact hxc (Option.some.inj e)
        have e1 : (x.c == c) = false := by simpa using hxc
        clear hRB hx hcx
        go_wp2_with fail
        go_roundw
        case rel => exact ⟨k + 1, by omega, by go_num, by simp, HA2.out⟩
        case measure => simp [intOf]; omega
    · have HZ2 : Hid (z = -1) := by
        rw [HZ.out]; unfold plc
        rw [if_neg (fun h => by
          obtain ⟨j, hj⟩ := List.getElem?_of_mem h
          have h1 := (List.getElem?_eq_some_iff.1 hj).1
          unfold cl at h1; rw [List.length_map, ← HN.out] at h1
          exact HA.out j (by omega) hj)]
        exact rfl
      go_wp2_with fail
      go_ret
      exact ⟨by rw [HZ2.out]; rfl, rfl⟩
theorem plc_at {l : List It} {c : Int} {j : Nat} (h : (cl l)[j]? = some c) (hd : Dis l) : plc l c = (j : Int) := by
  unfold plc pl
  rw [if_pos (List.mem_of_getElem? h)]
  obtain ⟨hl, he⟩ := List.getElem?_eq_some_iff.1 h
  rw [← he, List.Nodup.idxOf_getElem hd j hl]
/-- Place finds a thing itself, if each client stands there once. -/
theorem plc_dis {l : List It} (h : ∀ (j : Nat) (x : It), l[j]? = some x → plc l x.c = (j : Int)) : Dis l := by
  show List.Pairwise _ _
  rw [List.pairwise_iff_getElem]
  intro i j hi hj hij e
  have hi' : i < l.length := by unfold cl at hi; simpa using hi
  have hj' : j < l.length := by unfold cl at hj; simpa using hj
  have h1 := h i _ (List.getElem?_eq_getElem hi')
  have h2 := h j _ (List.getElem?_eq_getElem hj')
  have a1 : (cl l)[i]? = some l[i].c := by unfold cl; rw [List.getElem?_map, List.getElem?_eq_getElem hi']; rfl
  have a2 : (cl l)[j]? = some l[j].c := by unfold cl; rw [List.getElem?_map, List.getElem?_eq_getElem hj']; rfl
  rw [List.getElem?_eq_getElem hi] at a1
  rw [List.getElem?_eq_getElem hj] at a2
  have e2 : l[i].c = l[j].c := by rw [← Option.some.inj a1, ← Option.some.inj a2, e]
  rw [e2, h2] at h1
  omega
theorem okT_parts {t : It} (h : okT t = true) : 1 ≤ t.c ∧ 0 ≤ t.b ∧ t.b < 5 ∧ 0 ≤ t.r ∧ 0 ≤ t.n := by unfold okT at h; simpa using h
theorem okT_no {t : It} (h : ¬ (1 ≤ t.c ∧ 0 ≤ t.b ∧ t.b < 5 ∧ 0 ≤ t.r ∧ 0 ≤ t.n)) : okT t = false := by
  cases e : okT t with
  | false => rfl
  | true => exact absurd (okT_parts e) h
/-- A thing that may not be, or whose client stands there ahead of it. -/
theorem chk_bad {l : List It} (h : ¬ 128 < l.length) {k : Nat} {x : It} (hx : l[k]? = some x) (hb : okT x = false ∨ plc l x.c ≠ (k : Int)) : ChkR l 1 := by
  refine .inr (.inr ⟨h, fun hg => ?_, rfl⟩)
  rcases hb with hb | hb
  · rw [hg.2 x (List.mem_of_getElem? hx)] at hb; cases hb
  · exact hb (plc_at (by unfold cl; rw [List.getElem?_map, hx]; rfl) hg.1)
set_option maxHeartbeats 4000000 in
set_option maxRecDepth 100000 in
theorem rcheck_c (v0 : Value) (l : List It) (w : World) (hR : RdT w v0 l) :
    Calls Try.prog 10 #[v0] w fun e w' => ∃ z, e = .returned (.int .i64 z) ∧ ChkR l z ∧ w' = w := by
  have hR0 := hR
  obtain ⟨p, cc, rfl, -⟩ := hR
  have HR := Lib.hid hR0
  obtain ⟨n, hln⟩ : ∃ n, n = l.length := ⟨_, rfl⟩
  rw [← hln] at HR ⊢
  have HN := Lib.hid hln
  by_cases h128 : 128 < n
  · have HZ : Hid (ChkR l 2) := .inl ⟨by omega, rfl⟩
    have h1 : (128 : Int) < (n : Int) := by omega
    clear hR0 hln h128
    go_enter Try.func10, Try.ntmps10
    go_wp2_with fail
    go_ret
    exact ⟨2, rfl, HZ.out, rfl⟩
  · have h1 : ¬ (128 : Int) < (n : Int) := by omega
    have H128 := Lib.hid (show ¬ 128 < l.length by omega)
    have HPL := Lib.hid (fun (c : Int) => place_c _ l c w (by rw [hln] at HR; exact HR.out) (by omega))
    rw [← hln] at HPL
    have hn9 : n ≤ 128 := by omega
    clear hR0 hln h128
    go_enter Try.func10, Try.ntmps10
    go_wp2_with fail
    go_loopw [3] (fun z wr => ∃ k : Nat, k ≤ n ∧ z = .int .i64 k ∧ wr = w ∧ Asd (∀ (j : Nat) (x : It), j < k → l[j]? = some x → okT x = true ∧ plc l x.c = (j : Int))) (fun z _ => n - (intOf z).toNat)
    case atStart => exact ⟨0, Nat.zero_le _, rfl, rfl, fun j x hj => absurd hj (Nat.not_lt_zero j)⟩
    case round =>
      obtain ⟨k, hk, rfl, rfl, hA⟩ := hrel
      have HA := Lib.hid (show ∀ (j : Nat) (x : It), j < k → l[j]? = some x → okT x = true ∧ plc l x.c = (j : Int) from hA)
      clear hA
      by_cases hlt : k < n
      · obtain ⟨x, hx⟩ : ∃ x, l[k]? = some x := ⟨_, List.getElem?_eq_getElem (by rw [← HN.out]; exact hlt)⟩
        obtain ⟨b, o, rfl, hRB⟩ := HR.out.open hx
        obtain ⟨y0, y1, y2, y3, y4, y5⟩ := hRB.get hx
        have hi0 : (0 : Int) ≤ (k : Int) := by omega
        have hi1 : (k : Int) < (n : Int) := by omega
        have HX := Lib.hid hx
        have HCX := Lib.hid (HPL.out x.c)
        obtain ⟨pz, hpz⟩ : ∃ pz, pz = plc l x.c := ⟨_, rfl⟩
        rw [← hpz] at HCX
        have HPZ := Lib.hid hpz
        have HBAD := Lib.hid (fun hb => chk_bad H128.out hx hb)
        clear hRB hx hpz
        by_cases q1 : x.c < 1
        · have HZ := Lib.hid (HBAD.out (.inl (okT_no fun h => by omega)))
          go_wp2_with fail
          go_ret
          exact ⟨1, rfl, HZ.out, rfl⟩
        · go_wp2_with fail
          refine HCX.out.mono ?_
          rintro e w1 ⟨rfl, rfl⟩
          by_cases q2 : pz = (k : Int)
          rotate_left
          · have HZ := Lib.hid (HBAD.out (.inr (by rw [← HPZ.out]; exact q2)))
            have e1 : (pz == (k : Int)) = false := by simpa using q2
            go_wp2_with fail
            all_goals (go_ret; exact ⟨1, rfl, HZ.out, rfl⟩)
          · have e1 : (pz == (k : Int)) = true := by simpa using q2
            by_cases q3 : 0 ≤ x.b ∧ x.b < 5 ∧ 0 ≤ x.r ∧ 0 ≤ x.n
            · obtain ⟨q4, q5, q6, q7⟩ := q3
              have r4 : ¬ x.b < 0 := by omega
              have r5 : ¬ 4 < x.b := by omega
              have r6 : ¬ x.r < 0 := by omega
              have r7 : ¬ x.n < 0 := by omega
              have HA2 : Hid (∀ (j : Nat) (y : It), j < k + 1 → l[j]? = some y → okT y = true ∧ plc l y.c = (j : Int)) := fun j y hj hy => by
                rcases Nat.lt_or_ge j k with h | h
                · exact HA.out j y h hy
                · obtain rfl : j = k := by omega
                  rw [HX.out] at hy; injection hy with hy; subst hy
                  exact ⟨by unfold okT; simp; omega, by rw [← HPZ.out]; exact q2⟩
              clear q4 q5 q6 q7
              go_wp2_with fail
              go_roundw
              case rel => exact ⟨k + 1, by omega, by go_num, by simp, HA2.out⟩
              case measure => simp [intOf]; omega
            · have HZ := Lib.hid (HBAD.out (.inl (okT_no fun h => q3 (by omega))))
              have q3' : x.b < 0 ∨ (¬ x.b < 0 ∧ (4 < x.b ∨ (¬ 4 < x.b ∧ (x.r < 0 ∨ (¬ x.r < 0 ∧ x.n < 0))))) := by omega
              clear q2 q3
              rcases q3' with r4 | ⟨r4, r5 | ⟨r5, r6 | ⟨r6, r7⟩⟩⟩ <;> (go_wp2_with fail; all_goals (go_ret; exact ⟨1, rfl, HZ.out, rfl⟩))
      · have HZ : Hid (ChkR l 0) := .inr (.inl ⟨H128.out, ⟨plc_dis fun j x hx => (HA.out j x (by have := (List.getElem?_eq_some_iff.1 hx).1; have := HN.out; omega) hx).2, fun t ht => by
          obtain ⟨j, hj⟩ := List.getElem?_of_mem ht
          exact (HA.out j t (by have := (List.getElem?_eq_some_iff.1 hj).1; have := HN.out; omega) hj).1⟩, rfl⟩)
        go_wp2_with fail
        go_ret
        exact ⟨0, rfl, HZ.out, rfl⟩
end Go.Proofs.Ytgioeijdgoogkaa.Od
