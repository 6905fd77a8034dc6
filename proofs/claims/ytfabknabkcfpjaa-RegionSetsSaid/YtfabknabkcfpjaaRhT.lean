/- The three calls as their answers are told; Same of the reference; Area. -/
import Derived.Test.YtfabknabkcfpjaaRhR
import Derived.Test.YtfabknabkcfpjaaRhP
namespace Go.Proofs.Ytfabknabkcfpjaa
open Go.RowKit Go.Shelf
def SetOut (rl : Bool → Bool → Bool) (la lb : List Rc) (w w' : World) (e : Ending) : Prop :=
  ∃ v k L, e = .returned (.tuple #[v, .int .i64 k]) ∧ Told rl la lb k L ∧ OwK encR 40 4 w' w.heap.size v L
theorem set_of {rl : Bool → Bool → Bool} (hr : rl false false = false) {la lb : List Rc} {w w' : World} {e : Ending} (h : CmbOut rl la lb w w' e) : SetOut rl la lb w w' e := by
  rcases h with ⟨h1, h2⟩ | ⟨h1, ds, ys, h2, h3, h4, h5, h6⟩
  · exact ⟨_, _, [], h2, .inl ⟨h1, rfl, rfl⟩, OwK.nil _ _⟩
  · have hok := (fault_iff la lb).1 h1
    have hF := cmb_form rl hr la lb hok.1.2 hok.2.2 ds ys h2 h3 h4 h5
    rcases h6 with ⟨h6, h7⟩ | ⟨h6, v, h7, h8⟩
    · exact ⟨_, _, [], h7, .inr ⟨h1, _, hF, .inl ⟨h6, rfl, rfl⟩⟩, OwK.nil _ _⟩
    · exact ⟨_, _, _, h7, .inr ⟨h1, _, hF, .inr ⟨h6, rfl, rfl⟩⟩, h8⟩
section
variable (va vb : Value) (la lb : List Rc) (w : World) (ha : RdK encR 4 w va la) (hb : RdK encR 4 w vb lb) (hla : la.length ≤ 1152921504606846976) (hlb : lb.length ≤ 1152921504606846976)
include ha hb hla hlb
theorem union_t : Calls Try.prog 11 #[va, vb] w fun e w' => SetOut rlU la lb w w' e ∧ Below w.heap.size w w' :=
  (rgUnion_c va vb la lb w ha hb hla hlb).mono fun _ _ h => ⟨set_of rfl h.1, h.2⟩
theorem inter_t : Calls Try.prog 13 #[va, vb] w fun e w' => SetOut rlI la lb w w' e ∧ Below w.heap.size w w' :=
  (rgInter_c va vb la lb w ha hb hla hlb).mono fun _ _ h => ⟨set_of rfl h.1, h.2⟩
theorem sub_t : Calls Try.prog 14 #[va, vb] w fun e w' => SetOut rlS la lb w w' e ∧ Below w.heap.size w w' :=
  (rgSub_c va vb la lb w ha hb hla hlb).mono fun _ _ h => ⟨set_of rfl h.1, h.2⟩
end
def rqE (a b c d a' b' c' d' : Int) : Bool := a == a' && (b == b' && (c == c' && d == d'))
theorem rqE_iff (a b c d a' b' c' d' : Int) : rqE a b c d a' b' c' d' = true ↔ (a = a' ∧ b = b' ∧ c = c' ∧ d = d') := by unfold rqE; simp
theorem rqE_rc (r s : Rc) : rqE r.x r.y r.w r.h s.x s.y s.w s.h = true ↔ r = s := by
  rw [rqE_iff]
  constructor
  · rintro ⟨h1, h2, h3, h4⟩
    obtain ⟨a, b, c, d⟩ := r
    obtain ⟨a', b', c', d'⟩ := s
    dsimp only at h1 h2 h3 h4
    subst h1; subst h2; subst h3; subst h4; rfl
  · rintro rfl; exact ⟨rfl, rfl, rfl, rfl⟩
theorem nqe_rect (a b c d a' b' c' d' : Int) (w : World) : (binOp .neq 40 (.agg #[.int .i64 a, .int .i64 b, .int .i64 c, .int .i64 d]) (.agg #[.int .i64 a', .int .i64 b', .int .i64 c', .int .i64 d'])).run Try.prog w = .ok (.bool (!rqE a b c d a' b' c' d')) w := by
  simp only [rqE]
  by_cases h1 : a = a' <;> by_cases h2 : b = b' <;> by_cases h3 : c = c' <;> by_cases h4 : d = d' <;> simp [go_sem, h1, h2, h3, h4]
theorem eqe_rect (a b c d a' b' c' d' : Int) (w : World) : (binOp .eql 40 (.agg #[.int .i64 a, .int .i64 b, .int .i64 c, .int .i64 d]) (.agg #[.int .i64 a', .int .i64 b', .int .i64 c', .int .i64 d'])).run Try.prog w = .ok (.bool (rqE a b c d a' b' c' d')) w := by
  simp only [rqE]
  by_cases h1 : a = a' <;> by_cases h2 : b = b' <;> by_cases h3 : c = c' <;> by_cases h4 : d = d' <;> simp [go_sem, h1, h2, h3, h4]
attribute [local go_sem ↓] nqe_rect eqe_rect
def sameL (la lb : List Rc) : Bool := decide (la.map tp = lb.map tp)
theorem sameL_iff (la lb : List Rc) : sameL la lb = true ↔ la = lb := by
  unfold sameL; rw [decide_eq_true_eq]; exact ⟨tps_inj, fun h => by rw [h]⟩
theorem sameL_no {la lb : List Rc} (h : la ≠ lb) : sameL la lb = false := by
  cases hs : sameL la lb with
  | false => rfl
  | true => exact absurd ((sameL_iff _ _).1 hs) h
set_option maxHeartbeats 2000000 in
theorem rfSame_c (va vb : Value) (la lb : List Rc) (w : World) (ha : RdK encR 4 w va la) (hb : RdK encR 4 w vb lb) (hl : la.length ≤ 1073741824) :
    Calls Try.prog 15 #[va, vb] w fun e w' => e = .returned (.bool (sameL la lb)) ∧ Below w.heap.size w w' := by
  obtain ⟨p, c, rfl, ha⟩ := ha
  obtain ⟨p', c', rfl, hb⟩ := hb
  have HA := Lib.hid ha
  have HB := Lib.hid hb
  obtain ⟨n, hn⟩ : ∃ n, n = la.length := ⟨_, rfl⟩
  obtain ⟨m, hm⟩ : ∃ m, m = lb.length := ⟨_, rfl⟩
  rw [← hn] at hl ⊢
  rw [← hm]
  have HN := Lib.hid hn
  have HM := Lib.hid hm
  clear ha hb hn hm
  go_enter Try.func15, Try.ntmps15
  by_cases hnm : n = m
  · subst hnm
    go_wp2_with fail
    go_loopw [5] (fun v wr => ∃ k q : Nat, k ≤ n ∧ v = .int .i64 k ∧ la.take k = lb.take k ∧ wr = w.drewN q) (fun v _ => n - (intOf v).toNat)
    case atStart => exact ⟨0, 0, Nat.zero_le _, rfl, rfl, rfl⟩
    case round =>
      obtain ⟨k, q, hk, rfl, ht, rfl⟩ := hrel
      have HT := Lib.hid ht
      clear ht
      by_cases hlt : k < n
      · obtain ⟨r, hr⟩ : ∃ r, la[k]? = some r := ⟨_, List.getElem?_eq_getElem (by rw [← HN.out]; exact hlt)⟩
        obtain ⟨s, hs⟩ : ∃ s, lb[k]? = some s := ⟨_, List.getElem?_eq_getElem (by rw [← HM.out]; exact hlt)⟩
        obtain ⟨b, o, rfl, hb1, hb2⟩ := HA.out k r hr
        obtain ⟨b', o', rfl, hc1, hc2⟩ := HB.out k s hs
        obtain ⟨r0, r1, r2, r3⟩ := RdK.rect (w := w) hb2
        obtain ⟨s0, s1, s2, s3⟩ := RdK.rect (w := w) hc2
        have HR := Lib.hid hr
        have HS := Lib.hid hs
        clear hr hs hb2 hc2
        have hi0 : (0 : Int) ≤ (k : Int) := by omega
        have hi1 : (k : Int) < (n : Int) := by omega
        by_cases he : r = s
        · have hq : rqE r.x r.y r.w r.h s.x s.y s.w s.h = true := (rqE_rc r s).2 he
          have HE := Lib.hid he
          clear he
          go_wp2_with fail
          go_quiet (fail)
          go_wp2_with fail
          go_roundw
          case rel => exact ⟨k + 1, _, by omega, by go_num, by rw [take_snoc_get HR.out, take_snoc_get HS.out, HT.out, HE.out], rfl⟩
          case measure => simp [intOf]; omega
        · have hq : rqE r.x r.y r.w r.h s.x s.y s.w s.h = false := by
            cases hx : rqE r.x r.y r.w r.h s.x s.y s.w s.h
            · rfl
            · exact absurd ((rqE_rc r s).1 hx) he
          have HE : sameL la lb = false := sameL_no fun e => he (by have h1 := HR.out; have h2 := HS.out; rw [e, h2] at h1; injection h1 with h1; exact h1.symm)
          have HE2 := Lib.hid HE
          clear he HE
          go_wp2_with fail
          go_quiet (fail)
          go_wp2_with fail
          go_ret
          exact ⟨by rw [HE2.out]; rfl, below_drewN (below_drewN (Below.refl _ _) _) _⟩
      · have HE : sameL la lb = true := (sameL_iff _ _).2 (by have := HT.out; rwa [List.take_of_length_le (by rw [← HN.out]; omega), List.take_of_length_le (by rw [← HM.out]; omega)] at this)
        have HE2 := Lib.hid HE
        clear HE
        go_wp2_with fail
        go_ret
        exact ⟨by rw [HE2.out]; rfl, below_drewN (Below.refl _ _) _⟩
  · have HE : sameL la lb = false := sameL_no fun e => hnm (by rw [HN.out, HM.out, e])
    rw [HE]
    have hnm' : (n : Int) ≠ (m : Int) := by omega
    go_wp2_with fail
    go_ret
    exact ⟨rfl, Below.refl _ _⟩
def Arst (w0 : World) (v : Value) (L : List Rc) (wx : World) : Prop := RdK encR 4 wx v L ∧ Below w0.heap.size w0 wx
theorem Arst.next {w0 wx w1 : World} {v : Value} {L : List Rc} (h : Arst w0 v L wx) (hb : Below wx.heap.size wx w1) : Arst w0 v L w1 := ⟨h.1.below hb, h.2.trans (hb.mono h.2.size)⟩
set_option maxHeartbeats 2000000 in
theorem rgArea_c (v : Value) (la : List Rc) (w : World) (ha : RdK encR 4 w v la) (hla : la.length ≤ 1152921504606846976) :
    Calls Try.prog 16 #[v] w fun e w' => ∃ k L, Told rlU la [] k L ∧ e = .returned (.tuple #[.int .i64 (areaL L), .int .i64 k]) ∧ Below w.heap.size w w' := by
  have HC := Lib.hid (union_t v (.slice none 0 0) la [] w ha (RdK.nil _ _) hla (by simp))
  clear ha
  go_enter Try.func16, Try.ntmps16
  go_wp2_with fail
  refine HC.out.mono ?_
  rintro e1 w1 ⟨⟨u, k, L, rfl, hT, hO⟩, hb⟩
  have HT := Lib.hid hT
  have P0 : Arst w u L w1 := ⟨OwK.reads encR_len hO, hb⟩
  have hLn := hT.len
  obtain ⟨p, c, rfl⟩ := hO.slice
  obtain ⟨n, hn⟩ : ∃ n, n = L.length := ⟨_, rfl⟩
  rw [← hn] at hLn P0 ⊢
  have HN := Lib.hid hn
  clear hT hO hb HC hn
  go_wp2_with fail
  go_loopw [6, 8, 16] (fun a q z wr => ∃ j : Nat, j ≤ n ∧ z = .int .i64 j ∧ a = .int .i64 (areaL (L.take j)) ∧ Arst w (.slice p n c) L wr) (fun _ _ z _ => n - (intOf z).toNat)
  case atStart => exact ⟨0, Nat.zero_le _, rfl, rfl, P0⟩
  case round =>
    obtain ⟨j, hj, rfl, rfl, P1⟩ := hrel
    clear P0
    have hA := areaL_le L j
    by_cases hlt : j < n
    · obtain ⟨r, hr⟩ : ∃ r, L[j]? = some r := ⟨_, List.getElem?_eq_getElem (by rw [← HN.out]; exact hlt)⟩
      obtain ⟨p0, c0, hv, hcell⟩ := P1.1
      simp only [Value.slice.injEq] at hv
      obtain ⟨rfl, -, rfl⟩ := hv
      obtain ⟨b, o, rfl, hb1, hb2⟩ := hcell j r hr
      obtain ⟨r0, r1, r2, r3⟩ := RdK.rect (w := wr) hb2
      have HS := Lib.hid (areaL_snoc hr)
      have hR := area_le (r := r)
      generalize areaL (L.take j) = acc at *
      clear hcell hb2 hr
      have hi0 : (0 : Int) ≤ (j : Int) := by omega
      have hi1 : (j : Int) < (n : Int) := by omega
      go_wp2_with fail
      have P2 := P1.next ((Below.refl _ _).alloc (Nat.le_refl _) (.cells #[.int .i64 r.x, .int .i64 r.y, .int .i64 r.w, .int .i64 r.h] 40))
      refine (area_c r.x r.y r.w r.h _).mono ?_
      rintro e w2 ⟨rfl, hb⟩
      have P3 := P2.next hb
      generalize areaI r.x r.y r.w r.h = ar at *
      go_wp2_with fail
      go_roundw
      case rel => exact ⟨j + 1, by omega, by go_num, by rw [HS.out], P3⟩
      case measure => simp [intOf]; omega
    · obtain rfl : j = n := by omega
      have HS : areaL (L.take j) = areaL L := by rw [HN.out, List.take_length]
      rw [HS] at hA ⊢
      go_wp2_with fail
      refine bodyPost_ret (v := .tuple #[.int .i64 (areaL L), .int .i64 k]) (by simp [results, Try.results16, go_sem]) rfl ?_
      exact ⟨k, L, HT.out, rfl, P1.2⟩
end Go.Proofs.Ytfabknabkcfpjaa
