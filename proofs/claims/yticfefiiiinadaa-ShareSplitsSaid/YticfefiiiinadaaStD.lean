/- slices.symMergeCmpFunc: the main case, and the whole by induction. -/
import Derived.Test.YticfefiiiinadaaStC
import Derived.Deep.DeepCutAuto
namespace Go.Proofs.Yticfefiiiinadaa
open Go.Shelf Go.RowKit Go.Lib Go.Sort

section
variable {α : Type} [Inhabited α] {lt lex : α → α → Bool} {bef : α → α → Prop}

theorem halves_keep {a k e b : Nat} {d1 d2 : Array α} (hke : k ≤ e) (H : Halves lex bef k e b (at_ d1)) (hP : PermIn a k d1 d2) : Halves lex bef k e b (at_ d2) := by
  have he : ∀ x, k ≤ x → d2[x]! = d1[x]! := fun x hx => hP.2.1 x (.inr hx)
  refine ⟨fun i j h1 h2 h3 => ?_, fun i j h1 h2 h3 => ?_, fun i j h1 h2 h3 h4 => ?_⟩
  · show lex d2[i]! d2[j]! = true
    rw [he i h1, he j (by omega)]; exact H.left i j h1 h2 h3
  · show lex d2[i]! d2[j]! = true
    rw [he i (by omega), he j (by omega)]; exact H.right i j h1 h2 h3
  · show bef d2[i]! d2[j]!
    rw [he i h1, he j (by omega)]; exact H.cross i j h1 h2 h3 h4

theorem sym_join {a k b : Nat} {d1 d2 d3 : Array α} (hak : a ≤ k) (hkb : k ≤ b) (hb : b ≤ d1.size) (hc : ∀ i j, a ≤ i → i < k → k ≤ j → j < b → lex d1[i]! d1[j]! = true)
    (hP2 : PermIn a k d1 d2) (hP3 : PermIn k b d2 d3) (h2 : Asc lex a k (at_ d2)) (h3 : Asc lex k b (at_ d3)) : PermIn a b d1 d3 ∧ Asc lex a b (at_ d3) := by
  have hs2 : d2.size = d1.size := hP2.1
  refine ⟨permIn_trans _ _ _ _ _ (permIn_mono _ _ a k a b (Nat.le_refl _) hkb hb hP2) (permIn_mono _ _ k b a b hak (Nat.le_refl _) (by omega) hP3), asc_join (fun i j g1 g2 g3 => ?_) h3 fun i j g1 g2 g3 g4 => ?_⟩
  · show lex d3[i]! d3[j]! = true
    rw [hP3.2.1 i (.inl (by omega)), hP3.2.1 j (.inl g3)]
    exact h2 i j g1 g2 g3
  · show lex d3[i]! d3[j]! = true
    rw [hP3.2.1 i (.inl g2)]
    refine permIn_all d2 d3 k b (fun y => lex d2[i]! y = true) (by omega) hP3 (fun j' k1 k2 => ?_) j g3 g4
    show lex d2[i]! d2[j']! = true
    rw [hP2.2.1 j' (.inr k1)]
    exact permIn_all d1 d2 a k (fun x => lex x d1[j']! = true) (by omega) hP2 (fun i' k3 k4 => hc i' j' k3 k4 k1 k2) i g1 g2
end

section
variable {α : Type} [Inhabited α]
set_option maxHeartbeats 32000000 in
set_option maxRecDepth 1000000 in
theorem sym_main1 (enc : α → Value) (cf : α → α → Int) (lex : α → α → Bool) (bef : α → α → Prop) (T : Stable (ltOf cf) lex bef) (g : Nat) (cb : Array Value) (blk off cap a m b mid s0 r0 : Nat) (d0 d : Array α) (w0 w : World)
    (eg : ∀ args w, (callFunc g args).run Try.prog w = .ok (.enter g args) w) (hcmp : CmpLays1 Try.prog g cb enc cf blk off d0.size w0) (R : Row1 enc w0 blk off d0) (hs : d0.size = d.size) (S : SW enc w0 blk off d w)
    (ham : a + 1 < m) (hmb : m + 1 < b) (hb : b ≤ d.size) (hsz : d.size < 4611686018427387904) (H : Halves lex bef a m b (at_ d)) (hmid : mid = (a + b) / 2) (hcase : mid < m ∧ s0 + b = mid + m ∧ r0 = mid)
    (ih : ∀ (a' m' b' : Nat) (d' : Array α) (w' : World), b' - a' < b - a → a' < m' → m' < b' → b' ≤ d'.size → d'.size = d.size → SW enc w0 blk off d' w' → Halves lex bef a' m' b' (at_ d') →
      Calls Try.prog 36 #[.slice (some ⟨blk, off, none⟩) d'.size cap, .int .i64 a', .int .i64 m', .int .i64 b', .func (.func g) #[] cb] w' (SymDone enc lex blk off a' b' d' w0)) :
    Calls Try.prog 36 #[.slice (some ⟨blk, off, none⟩) d.size cap, .int .i64 a, .int .i64 m, .int .i64 b, .func (.func g) #[] cb] w (SymDone enc lex blk off a b d w0) := by
  have mixed : Try.prog.follows .mixedOrders = true := by kernel_rfl
  have hcl0 := R.hO.cells
  simp only [Value.cells] at hcl0
  have hst := R.hO.store Try.prog
  have S0 : Aside (SW enc w0 blk off d w) := S
  have HC : Aside _ := hcmp
  have HH := Lib.hid H
  have IH := Lib.hid ih
  clear S hcmp H ih
  have hm1 : ¬ (m : Int) - (a : Int) = 1 := by omega
  have hm1b : ((m : Int) - (a : Int) == 1) = false := by rw [beq_eq_false_iff_ne]; exact hm1
  have hm2 : ¬ (b : Int) - (m : Int) = 1 := by omega
  have hm2b : ((b : Int) - (m : Int) == 1) = false := by rw [beq_eq_false_iff_ne]; exact hm2
  have hz0 : ((a : Int) + (b : Int)) / 2 = (mid : Int) := by omega
  have hwm : IntKind.i64.wrap (mid : Int) = (mid : Int) := by rw [IntKind.wrap_i64]; omega
  have hmd1 : 2 * mid ≤ a + b := by omega
  have hmd2 : a + b ≤ 2 * mid + 1 := by omega
  have HMID := Lib.hid hmid
  clear hmid
  obtain ⟨hcm, hc0, hcr⟩ := hcase
  have hcmz : (mid : Int) < (m : Int) := by omega
  have hcmb : decide ((mid : Int) < (m : Int)) = true := decide_eq_true hcmz
  have hz1 : (mid : Int) + (m : Int) - (b : Int) = (s0 : Int) := by omega
  have hsr : s0 ≤ r0 := by omega
  have HR := Lib.hid hcr
  have hr0 : r0 ≤ mid := by omega
  have hr1 : mid ≤ r0 := by omega
  clear hcr
  go_enter Try.func36, Try.ntmps36
  go_wp2
  go_loopg [20, 21] b (fun kx vs vr wr => ∃ (s r : Nat), vs = .int .i64 s ∧ vr = .int .i64 r ∧ s0 ≤ s ∧ s ≤ r ∧ r ≤ r0 ∧ r - s ≤ kx ∧ Aside (SW enc w0 blk off d wr) ∧ Hid ((s0 < s → ltOf cf d[mid + m - s]! d[s - 1]! = false) ∧ (r < r0 → ltOf cf d[mid + m - 1 - r]! d[r]! = true)))
  case atStart => exact ⟨s0, r0, rfl, by rw [HR.out], Nat.le_refl _, hsr, Nat.le_refl _, by omega, S0, fun h => absurd h (by omega), fun h => absurd h (by omega)⟩
  case round =>
    clear S0
    obtain ⟨s, r, rfl, rfl, hss, hsr2, hrr, hkx, S1, HI⟩ := hrel
    by_cases hlt : s < r
    · have hltz : (s : Int) < (r : Int) := by omega
      obtain ⟨h, hh⟩ : ∃ h : Nat, h = (s + r) / 2 := ⟨_, rfl⟩
      have hh1 : s ≤ h := by omega
      have hh2 : h < r := by omega
      have hz2 : ((s : Int) + (r : Int)) / 2 = (h : Int) := by omega
      have hwh : IntKind.i64.wrap (h : Int) = (h : Int) := by rw [IntKind.wrap_i64]; omega
      clear hh
      obtain ⟨q, hq⟩ : ∃ q : Nat, q = mid + m - 1 - h := ⟨_, rfl⟩
      have hqz : (mid : Int) + (m : Int) - 1 - (h : Int) = (q : Int) := by omega
      have rq : IntKind.i64.wrap (q : Int) = (q : Int) := by rw [IntKind.wrap_i64]; omega
      have hqs : q < d.size := by omega
      have hhs : h < d.size := by omega
      have pa1 : (h : Int) < (d.size : Int) := by omega
      have pc1 : (q : Int) < (d.size : Int) := by omega
      obtain ⟨x1, hx1⟩ : ∃ x, x = d[q]! := ⟨_, rfl⟩
      obtain ⟨y1, hy1⟩ : ∃ x, x = d[h]! := ⟨_, rfl⟩
      have l1a := S1.out.cl R (by omega) q hqs
      have l1b := S1.out.cl R (by omega) h hhs
      rw [← hx1] at l1a
      rw [← hy1] at l1b
      have hc1 := S1.out.cmp HC.out (by omega) x1 y1
      cases hlv : ltOf cf d[q]! d[h]! with
      | true =>
        have hv1 : cf x1 y1 < 0 := by rw [hx1, hy1]; exact of_decide_eq_true hlv
        have hd1 : decide (cf x1 y1 < 0) = true := decide_eq_true hv1
        have hN : Hid ((s0 < s → ltOf cf d[mid + m - s]! d[s - 1]! = false) ∧ (h < r0 → ltOf cf d[mid + m - 1 - h]! d[h]! = true)) := ⟨HI.out.1, fun _ => by rw [← hq]; exact hlv⟩
        clear hx1 hy1 hlv HI hq
        go_wp2_with fail
        go_quiet_grown (first | (go_at_fn g; refine Calls.grown_of (hc1 _ _)))
        have S2 : Aside (SW enc w0 blk off d (grow (wr.drewN nq) osq)) := S1.out.grown nq osq
        clear l1a l1b hc1 S1
        generalize grow (wr.drewN nq) osq = w2 at S2 ⊢
        clear nq osq
        go_wp2
        go_roundg (h - s)
        case measure => omega
        case rel => exact ⟨s, h, rfl, rfl, hss, by omega, by omega, Nat.le_refl _, S2, hN⟩
      | false =>
        have hv1 : ¬ cf x1 y1 < 0 := by rw [hx1, hy1]; exact of_decide_eq_false hlv
        have hd1 : decide (cf x1 y1 < 0) = false := decide_eq_false hv1
        have hN : Hid ((s0 < h + 1 → ltOf cf d[mid + m - (h + 1)]! d[h + 1 - 1]! = false) ∧ (r < r0 → ltOf cf d[mid + m - 1 - r]! d[r]! = true)) := ⟨fun _ => by rw [show mid + m - (h + 1) = q by omega]; exact hlv, HI.out.2⟩
        clear hx1 hy1 hlv HI hq
        go_wp2_with fail
        go_quiet_grown (first | (go_at_fn g; refine Calls.grown_of (hc1 _ _)))
        have S2 : Aside (SW enc w0 blk off d (grow (wr.drewN nq) osq)) := S1.out.grown nq osq
        clear l1a l1b hc1 S1
        generalize grow (wr.drewN nq) osq = w2 at S2 ⊢
        clear nq osq
        go_wp2
        go_roundg (r - (h + 1))
        case measure => omega
        case rel => exact ⟨h + 1, r, by go_num, rfl, by omega, by omega, hrr, Nat.le_refl _, S2, hN⟩
    · have hltz : ¬ (s : Int) < (r : Int) := by omega
      obtain rfl : s = r := by omega
      obtain ⟨e, he⟩ : ∃ e : Nat, e = mid + m - s := ⟨_, rfl⟩
      have hez : (mid : Int) + (m : Int) - (s : Int) = (e : Int) := by omega
      have hsa : a ≤ s := by omega
      have hsm : s ≤ m := by omega
      have hsmid : s ≤ mid := by omega
      have hem : m ≤ e := by omega
      have heb : e ≤ b := by omega
      have hemid : mid ≤ e := by omega
      have hcut := cut_halves T HH.out hsa hsm hem heb (fun h1 h2 => by rw [he]; exact HI.out.1 (by omega)) (fun h1 h2 => by have h3 := HI.out.2 (by omega); rw [show mid + m - 1 - s = e - 1 by omega] at h3; exact h3)
      rw [show s + (e - m) = mid by omega] at hcut
      have HCUT := Lib.hid hcut
      have hrot := rotate_c enc g cb blk off cap s m e d0 d w0 wr R hs S1.out
      clear hcut HI HC HH he
      -- what stands when the middle is exchanged
      have hnext : ∀ (d1 : Array α), d1.size = d.size → PermIn a b d d1 → (∀ x, d1[x]! = rotF s m e (at_ d) x) → Hid (d1.size = d.size ∧ PermIn a b d d1 ∧ (∀ i j, a ≤ i → i < mid → mid ≤ j → j < b → lex d1[i]! d1[j]! = true) ∧ Halves lex bef a s mid (at_ d1) ∧ Halves lex bef mid e b (at_ d1)) := by
        intro d1 h1 h2 h3
        have hf : at_ d1 = rotF s m e (at_ d) := funext h3
        have := HCUT.out
        rw [← hf] at this
        exact ⟨h1, h2, this.1, this.2.1, this.2.2⟩
      have HNX := Lib.hid hnext
      clear hnext HCUT
      by_cases hA : s < m ∧ m < e
      · obtain ⟨hA1, hA2⟩ := hA
        have hA1z : (s : Int) < (m : Int) := by omega
        have hA2z : (m : Int) < (e : Int) := by omega
        have hr0 := hrot hA1 hA2 (by omega) hsz
        clear hrot
        go_upto_region 41 with (go_at_call 37; refine hr0.mono ?_; rintro ee w1 ⟨rfl, d1, SD1, hs1, hP1, hF1⟩)
        have K := HNX.out d1 hs1 (permIn_mono _ _ s e a b (by omega) (by omega) (by omega) hP1) hF1
        have HS1 : Aside (SW enc w0 blk off d1 w1) := SD1
        clear SD1 hs1 hP1 hF1 hr0 S1
        by_cases hB : a < s ∧ s < mid
        · obtain ⟨hB1, hB2⟩ := hB
          have hB1z : (a : Int) < (s : Int) := by omega
          have hB2z : (s : Int) < (mid : Int) := by omega
          have hl := IH.out a s mid d1 w1 (by omega) hB1 hB2 (by rw [K.out.1]; omega) K.out.1 HS1.out K.out.2.2.2.1
          rw [K.out.1] at hl
          go_upto_region 43 with (go_at_call 36; refine hl.mono ?_; rintro ee w2 ⟨rfl, d2, S2, hs2, hP2, hA2⟩)
          have hsz2 : d2.size = d.size := hs2.trans K.out.1
          have P2 : Hid (PermIn a mid d1 d2 ∧ Asc lex a mid (at_ d2)) := ⟨hP2, hA2⟩
          have HS2 : Aside (SW enc w0 blk off d2 w2) := S2
          clear hP2 hA2 hl hs2 S2
          by_cases hC : mid < e ∧ e < b
          · obtain ⟨hC1, hC2⟩ := hC
            have hC1z : (mid : Int) < (e : Int) := by omega
            have hC2z : (e : Int) < (b : Int) := by omega
            have hr := IH.out mid e b d2 w2 (by omega) hC1 hC2 (by rw [hsz2]; exact hb) hsz2 HS2.out (halves_keep hemid K.out.2.2.2.2 P2.out.1)
            rw [hsz2] at hr
            go_wp2_with (first | (go_at_call 36; refine hr.mono ?_; rintro ee w3 ⟨rfl, d3, S3, hs3, hP3, hA3⟩))
            go_end0
            have hj := sym_join (by omega) (by omega) (by rw [K.out.1]; exact hb) K.out.2.2.1 P2.out.1 hP3 P2.out.2 hA3
            exact ⟨rfl, d3, S3, hs3.trans hsz2, permIn_trans _ _ _ _ _ K.out.2.1 hj.1, hj.2⟩
          · have hA3 : Asc lex mid b (at_ d2) := (halves_keep hemid K.out.2.2.2.2 P2.out.1).asc_left (by omega)
            have hj := Lib.hid (sym_join (by omega) (by omega) (by rw [K.out.1]; exact hb) K.out.2.2.1 P2.out.1 (permIn_refl _ _ _) P2.out.2 hA3)
            have hF := Lib.hid hA3
            clear hA3
            by_cases hC1 : mid < e
            · have hC1z : (mid : Int) < (e : Int) := by omega
              have hC2z : ¬ (e : Int) < (b : Int) := by omega
              go_wp2
              go_end0
              exact ⟨rfl, d2, HS2.out, hsz2, permIn_trans _ _ _ _ _ K.out.2.1 hj.out.1, hj.out.2⟩
            · have hC1z : ¬ (mid : Int) < (e : Int) := by omega
              go_wp2
              go_end0
              exact ⟨rfl, d2, HS2.out, hsz2, permIn_trans _ _ _ _ _ K.out.2.1 hj.out.1, hj.out.2⟩
        · obtain ⟨d2, hsz2, P2, HS2⟩ : ∃ d2 : Array α, d2.size = d.size ∧ Hid (PermIn a mid d1 d2 ∧ Asc lex a mid (at_ d2)) ∧ Aside (SW enc w0 blk off d2 w1) := ⟨d1, K.out.1, ⟨permIn_refl _ _ _, K.out.2.2.2.1.asc_left (by omega)⟩, HS1.out⟩
          by_cases hB1 : a < s
          · have hB1z : (a : Int) < (s : Int) := by omega
            have hB2z : ¬ (s : Int) < (mid : Int) := by omega
            go_upto_region 43 with fail
            by_cases hC : mid < e ∧ e < b
            · obtain ⟨hC1, hC2⟩ := hC
              have hC1z : (mid : Int) < (e : Int) := by omega
              have hC2z : (e : Int) < (b : Int) := by omega
              have hr := IH.out mid e b d2 w1 (by omega) hC1 hC2 (by rw [hsz2]; exact hb) hsz2 HS2.out (halves_keep hemid K.out.2.2.2.2 P2.out.1)
              rw [hsz2] at hr
              go_wp2_with (first | (go_at_call 36; refine hr.mono ?_; rintro ee w3 ⟨rfl, d3, S3, hs3, hP3, hA3⟩))
              go_end0
              have hj := sym_join (by omega) (by omega) (by rw [K.out.1]; exact hb) K.out.2.2.1 P2.out.1 hP3 P2.out.2 hA3
              exact ⟨rfl, d3, S3, hs3.trans hsz2, permIn_trans _ _ _ _ _ K.out.2.1 hj.1, hj.2⟩
            · have hA3 : Asc lex mid b (at_ d2) := (halves_keep hemid K.out.2.2.2.2 P2.out.1).asc_left (by omega)
              have hj := Lib.hid (sym_join (by omega) (by omega) (by rw [K.out.1]; exact hb) K.out.2.2.1 P2.out.1 (permIn_refl _ _ _) P2.out.2 hA3)
              have hF := Lib.hid hA3
              clear hA3
              by_cases hC1 : mid < e
              · have hC1z : (mid : Int) < (e : Int) := by omega
                have hC2z : ¬ (e : Int) < (b : Int) := by omega
                go_wp2
                go_end0
                exact ⟨rfl, d2, HS2.out, hsz2, permIn_trans _ _ _ _ _ K.out.2.1 hj.out.1, hj.out.2⟩
              · have hC1z : ¬ (mid : Int) < (e : Int) := by omega
                go_wp2
                go_end0
                exact ⟨rfl, d2, HS2.out, hsz2, permIn_trans _ _ _ _ _ K.out.2.1 hj.out.1, hj.out.2⟩
          · have hB1z : ¬ (a : Int) < (s : Int) := by omega
            go_upto_region 43 with fail
            by_cases hC : mid < e ∧ e < b
            · obtain ⟨hC1, hC2⟩ := hC
              have hC1z : (mid : Int) < (e : Int) := by omega
              have hC2z : (e : Int) < (b : Int) := by omega
              have hr := IH.out mid e b d2 w1 (by omega) hC1 hC2 (by rw [hsz2]; exact hb) hsz2 HS2.out (halves_keep hemid K.out.2.2.2.2 P2.out.1)
              rw [hsz2] at hr
              go_wp2_with (first | (go_at_call 36; refine hr.mono ?_; rintro ee w3 ⟨rfl, d3, S3, hs3, hP3, hA3⟩))
              go_end0
              have hj := sym_join (by omega) (by omega) (by rw [K.out.1]; exact hb) K.out.2.2.1 P2.out.1 hP3 P2.out.2 hA3
              exact ⟨rfl, d3, S3, hs3.trans hsz2, permIn_trans _ _ _ _ _ K.out.2.1 hj.1, hj.2⟩
            · have hA3 : Asc lex mid b (at_ d2) := (halves_keep hemid K.out.2.2.2.2 P2.out.1).asc_left (by omega)
              have hj := Lib.hid (sym_join (by omega) (by omega) (by rw [K.out.1]; exact hb) K.out.2.2.1 P2.out.1 (permIn_refl _ _ _) P2.out.2 hA3)
              have hF := Lib.hid hA3
              clear hA3
              by_cases hC1 : mid < e
              · have hC1z : (mid : Int) < (e : Int) := by omega
                have hC2z : ¬ (e : Int) < (b : Int) := by omega
                go_wp2
                go_end0
                exact ⟨rfl, d2, HS2.out, hsz2, permIn_trans _ _ _ _ _ K.out.2.1 hj.out.1, hj.out.2⟩
              · have hC1z : ¬ (mid : Int) < (e : Int) := by omega
                go_wp2
                go_end0
                exact ⟨rfl, d2, HS2.out, hsz2, permIn_trans _ _ _ _ _ K.out.2.1 hj.out.1, hj.out.2⟩
      · clear hrot
        have K0 := HNX.out d rfl (permIn_refl _ _ _) (fun x => by
          by_cases hx : s = m
          · rw [hx]; exact (rotF_left _ _ _ _).symm
          · have : m = e := by omega
            rw [← this]; exact (rotF_right _ _ _ _).symm)
        obtain ⟨d1, K, HS1⟩ : ∃ d1 : Array α, Hid (d1.size = d.size ∧ PermIn a b d d1 ∧ (∀ i j, a ≤ i → i < mid → mid ≤ j → j < b → lex d1[i]! d1[j]! = true) ∧ Halves lex bef a s mid (at_ d1) ∧ Halves lex bef mid e b (at_ d1)) ∧ Aside (SW enc w0 blk off d1 wr) := ⟨d, K0, S1⟩
        clear S1 K0
        by_cases hA1 : s < m
        · have hA1z : (s : Int) < (m : Int) := by omega
          have hA2z : ¬ (m : Int) < (e : Int) := by omega
          go_upto_region 41 with fail
          by_cases hB : a < s ∧ s < mid
          · obtain ⟨hB1, hB2⟩ := hB
            have hB1z : (a : Int) < (s : Int) := by omega
            have hB2z : (s : Int) < (mid : Int) := by omega
            have hl := IH.out a s mid d1 wr (by omega) hB1 hB2 (by rw [K.out.1]; omega) K.out.1 HS1.out K.out.2.2.2.1
            rw [K.out.1] at hl
            go_upto_region 43 with (go_at_call 36; refine hl.mono ?_; rintro ee w2 ⟨rfl, d2, S2, hs2, hP2, hA2⟩)
            have hsz2 : d2.size = d.size := hs2.trans K.out.1
            have P2 : Hid (PermIn a mid d1 d2 ∧ Asc lex a mid (at_ d2)) := ⟨hP2, hA2⟩
            have HS2 : Aside (SW enc w0 blk off d2 w2) := S2
            clear hP2 hA2 hl hs2 S2
            by_cases hC : mid < e ∧ e < b
            · obtain ⟨hC1, hC2⟩ := hC
              have hC1z : (mid : Int) < (e : Int) := by omega
              have hC2z : (e : Int) < (b : Int) := by omega
              have hr := IH.out mid e b d2 w2 (by omega) hC1 hC2 (by rw [hsz2]; exact hb) hsz2 HS2.out (halves_keep hemid K.out.2.2.2.2 P2.out.1)
              rw [hsz2] at hr
              go_wp2_with (first | (go_at_call 36; refine hr.mono ?_; rintro ee w3 ⟨rfl, d3, S3, hs3, hP3, hA3⟩))
              go_end0
              have hj := sym_join (by omega) (by omega) (by rw [K.out.1]; exact hb) K.out.2.2.1 P2.out.1 hP3 P2.out.2 hA3
              exact ⟨rfl, d3, S3, hs3.trans hsz2, permIn_trans _ _ _ _ _ K.out.2.1 hj.1, hj.2⟩
            · have hA3 : Asc lex mid b (at_ d2) := (halves_keep hemid K.out.2.2.2.2 P2.out.1).asc_left (by omega)
              have hj := Lib.hid (sym_join (by omega) (by omega) (by rw [K.out.1]; exact hb) K.out.2.2.1 P2.out.1 (permIn_refl _ _ _) P2.out.2 hA3)
              have hF := Lib.hid hA3
              clear hA3
              by_cases hC1 : mid < e
              · have hC1z : (mid : Int) < (e : Int) := by omega
                have hC2z : ¬ (e : Int) < (b : Int) := by omega
                go_wp2
                go_end0
                exact ⟨rfl, d2, HS2.out, hsz2, permIn_trans _ _ _ _ _ K.out.2.1 hj.out.1, hj.out.2⟩
              · have hC1z : ¬ (mid : Int) < (e : Int) := by omega
                go_wp2
                go_end0
                exact ⟨rfl, d2, HS2.out, hsz2, permIn_trans _ _ _ _ _ K.out.2.1 hj.out.1, hj.out.2⟩
          · obtain ⟨d2, hsz2, P2, HS2⟩ : ∃ d2 : Array α, d2.size = d.size ∧ Hid (PermIn a mid d1 d2 ∧ Asc lex a mid (at_ d2)) ∧ Aside (SW enc w0 blk off d2 wr) := ⟨d1, K.out.1, ⟨permIn_refl _ _ _, K.out.2.2.2.1.asc_left (by omega)⟩, HS1.out⟩
            by_cases hB1 : a < s
            · have hB1z : (a : Int) < (s : Int) := by omega
              have hB2z : ¬ (s : Int) < (mid : Int) := by omega
              go_upto_region 43 with fail
              by_cases hC : mid < e ∧ e < b
              · obtain ⟨hC1, hC2⟩ := hC
                have hC1z : (mid : Int) < (e : Int) := by omega
                have hC2z : (e : Int) < (b : Int) := by omega
                have hr := IH.out mid e b d2 wr (by omega) hC1 hC2 (by rw [hsz2]; exact hb) hsz2 HS2.out (halves_keep hemid K.out.2.2.2.2 P2.out.1)
                rw [hsz2] at hr
                go_wp2_with (first | (go_at_call 36; refine hr.mono ?_; rintro ee w3 ⟨rfl, d3, S3, hs3, hP3, hA3⟩))
                go_end0
                have hj := sym_join (by omega) (by omega) (by rw [K.out.1]; exact hb) K.out.2.2.1 P2.out.1 hP3 P2.out.2 hA3
                exact ⟨rfl, d3, S3, hs3.trans hsz2, permIn_trans _ _ _ _ _ K.out.2.1 hj.1, hj.2⟩
              · have hA3 : Asc lex mid b (at_ d2) := (halves_keep hemid K.out.2.2.2.2 P2.out.1).asc_left (by omega)
                have hj := Lib.hid (sym_join (by omega) (by omega) (by rw [K.out.1]; exact hb) K.out.2.2.1 P2.out.1 (permIn_refl _ _ _) P2.out.2 hA3)
                have hF := Lib.hid hA3
                clear hA3
                by_cases hC1 : mid < e
                · have hC1z : (mid : Int) < (e : Int) := by omega
                  have hC2z : ¬ (e : Int) < (b : Int) := by omega
                  go_wp2
                  go_end0
                  exact ⟨rfl, d2, HS2.out, hsz2, permIn_trans _ _ _ _ _ K.out.2.1 hj.out.1, hj.out.2⟩
                · have hC1z : ¬ (mid : Int) < (e : Int) := by omega
                  go_wp2
                  go_end0
                  exact ⟨rfl, d2, HS2.out, hsz2, permIn_trans _ _ _ _ _ K.out.2.1 hj.out.1, hj.out.2⟩
            · have hB1z : ¬ (a : Int) < (s : Int) := by omega
              go_upto_region 43 with fail
              by_cases hC : mid < e ∧ e < b
              · obtain ⟨hC1, hC2⟩ := hC
                have hC1z : (mid : Int) < (e : Int) := by omega
                have hC2z : (e : Int) < (b : Int) := by omega
                have hr := IH.out mid e b d2 wr (by omega) hC1 hC2 (by rw [hsz2]; exact hb) hsz2 HS2.out (halves_keep hemid K.out.2.2.2.2 P2.out.1)
                rw [hsz2] at hr
                go_wp2_with (first | (go_at_call 36; refine hr.mono ?_; rintro ee w3 ⟨rfl, d3, S3, hs3, hP3, hA3⟩))
                go_end0
                have hj := sym_join (by omega) (by omega) (by rw [K.out.1]; exact hb) K.out.2.2.1 P2.out.1 hP3 P2.out.2 hA3
                exact ⟨rfl, d3, S3, hs3.trans hsz2, permIn_trans _ _ _ _ _ K.out.2.1 hj.1, hj.2⟩
              · have hA3 : Asc lex mid b (at_ d2) := (halves_keep hemid K.out.2.2.2.2 P2.out.1).asc_left (by omega)
                have hj := Lib.hid (sym_join (by omega) (by omega) (by rw [K.out.1]; exact hb) K.out.2.2.1 P2.out.1 (permIn_refl _ _ _) P2.out.2 hA3)
                have hF := Lib.hid hA3
                clear hA3
                by_cases hC1 : mid < e
                · have hC1z : (mid : Int) < (e : Int) := by omega
                  have hC2z : ¬ (e : Int) < (b : Int) := by omega
                  go_wp2
                  go_end0
                  exact ⟨rfl, d2, HS2.out, hsz2, permIn_trans _ _ _ _ _ K.out.2.1 hj.out.1, hj.out.2⟩
                · have hC1z : ¬ (mid : Int) < (e : Int) := by omega
                  go_wp2
                  go_end0
                  exact ⟨rfl, d2, HS2.out, hsz2, permIn_trans _ _ _ _ _ K.out.2.1 hj.out.1, hj.out.2⟩
        · have hA1z : ¬ (s : Int) < (m : Int) := by omega
          go_upto_region 41 with fail
          by_cases hB : a < s ∧ s < mid
          · obtain ⟨hB1, hB2⟩ := hB
            have hB1z : (a : Int) < (s : Int) := by omega
            have hB2z : (s : Int) < (mid : Int) := by omega
            have hl := IH.out a s mid d1 wr (by omega) hB1 hB2 (by rw [K.out.1]; omega) K.out.1 HS1.out K.out.2.2.2.1
            rw [K.out.1] at hl
            go_upto_region 43 with (go_at_call 36; refine hl.mono ?_; rintro ee w2 ⟨rfl, d2, S2, hs2, hP2, hA2⟩)
            have hsz2 : d2.size = d.size := hs2.trans K.out.1
            have P2 : Hid (PermIn a mid d1 d2 ∧ Asc lex a mid (at_ d2)) := ⟨hP2, hA2⟩
            have HS2 : Aside (SW enc w0 blk off d2 w2) := S2
            clear hP2 hA2 hl hs2 S2
            by_cases hC : mid < e ∧ e < b
            · obtain ⟨hC1, hC2⟩ := hC
              have hC1z : (mid : Int) < (e : Int) := by omega
              have hC2z : (e : Int) < (b : Int) := by omega
              have hr := IH.out mid e b d2 w2 (by omega) hC1 hC2 (by rw [hsz2]; exact hb) hsz2 HS2.out (halves_keep hemid K.out.2.2.2.2 P2.out.1)
              rw [hsz2] at hr
              go_wp2_with (first | (go_at_call 36; refine hr.mono ?_; rintro ee w3 ⟨rfl, d3, S3, hs3, hP3, hA3⟩))
              go_end0
              have hj := sym_join (by omega) (by omega) (by rw [K.out.1]; exact hb) K.out.2.2.1 P2.out.1 hP3 P2.out.2 hA3
              exact ⟨rfl, d3, S3, hs3.trans hsz2, permIn_trans _ _ _ _ _ K.out.2.1 hj.1, hj.2⟩
            · have hA3 : Asc lex mid b (at_ d2) := (halves_keep hemid K.out.2.2.2.2 P2.out.1).asc_left (by omega)
              have hj := Lib.hid (sym_join (by omega) (by omega) (by rw [K.out.1]; exact hb) K.out.2.2.1 P2.out.1 (permIn_refl _ _ _) P2.out.2 hA3)
              have hF := Lib.hid hA3
              clear hA3
              by_cases hC1 : mid < e
              · have hC1z : (mid : Int) < (e : Int) := by omega
                have hC2z : ¬ (e : Int) < (b : Int) := by omega
                go_wp2
                go_end0
                exact ⟨rfl, d2, HS2.out, hsz2, permIn_trans _ _ _ _ _ K.out.2.1 hj.out.1, hj.out.2⟩
              · have hC1z : ¬ (mid : Int) < (e : Int) := by omega
                go_wp2
                go_end0
                exact ⟨rfl, d2, HS2.out, hsz2, permIn_trans _ _ _ _ _ K.out.2.1 hj.out.1, hj.out.2⟩
          · obtain ⟨d2, hsz2, P2, HS2⟩ : ∃ d2 : Array α, d2.size = d.size ∧ Hid (PermIn a mid d1 d2 ∧ Asc lex a mid (at_ d2)) ∧ Aside (SW enc w0 blk off d2 wr) := ⟨d1, K.out.1, ⟨permIn_refl _ _ _, K.out.2.2.2.1.asc_left (by omega)⟩, HS1.out⟩
            by_cases hB1 : a < s
            · have hB1z : (a : Int) < (s : Int) := by omega
              have hB2z : ¬ (s : Int) < (mid : Int) := by omega
              go_upto_region 43 with fail
              by_cases hC : mid < e ∧ e < b
              · obtain ⟨hC1, hC2⟩ := hC
                have hC1z : (mid : Int) < (e : Int) := by omega
                have hC2z : (e : Int) < (b : Int) := by omega
                have hr := IH.out mid e b d2 wr (by omega) hC1 hC2 (by rw [hsz2]; exact hb) hsz2 HS2.out (halves_keep hemid K.out.2.2.2.2 P2.out.1)
                rw [hsz2] at hr
                go_wp2_with (first | (go_at_call 36; refine hr.mono ?_; rintro ee w3 ⟨rfl, d3, S3, hs3, hP3, hA3⟩))
                go_end0
                have hj := sym_join (by omega) (by omega) (by rw [K.out.1]; exact hb) K.out.2.2.1 P2.out.1 hP3 P2.out.2 hA3
                exact ⟨rfl, d3, S3, hs3.trans hsz2, permIn_trans _ _ _ _ _ K.out.2.1 hj.1, hj.2⟩
              · have hA3 : Asc lex mid b (at_ d2) := (halves_keep hemid K.out.2.2.2.2 P2.out.1).asc_left (by omega)
                have hj := Lib.hid (sym_join (by omega) (by omega) (by rw [K.out.1]; exact hb) K.out.2.2.1 P2.out.1 (permIn_refl _ _ _) P2.out.2 hA3)
                have hF := Lib.hid hA3
                clear hA3
                by_cases hC1 : mid < e
                · have hC1z : (mid : Int) < (e : Int) := by omega
                  have hC2z : ¬ (e : Int) < (b : Int) := by omega
                  go_wp2
                  go_end0
                  exact ⟨rfl, d2, HS2.out, hsz2, permIn_trans _ _ _ _ _ K.out.2.1 hj.out.1, hj.out.2⟩
                · have hC1z : ¬ (mid : Int) < (e : Int) := by omega
                  go_wp2
                  go_end0
                  exact ⟨rfl, d2, HS2.out, hsz2, permIn_trans _ _ _ _ _ K.out.2.1 hj.out.1, hj.out.2⟩
            · have hB1z : ¬ (a : Int) < (s : Int) := by omega
              go_upto_region 43 with fail
              by_cases hC : mid < e ∧ e < b
              · obtain ⟨hC1, hC2⟩ := hC
                have hC1z : (mid : Int) < (e : Int) := by omega
                have hC2z : (e : Int) < (b : Int) := by omega
                have hr := IH.out mid e b d2 wr (by omega) hC1 hC2 (by rw [hsz2]; exact hb) hsz2 HS2.out (halves_keep hemid K.out.2.2.2.2 P2.out.1)
                rw [hsz2] at hr
                go_wp2_with (first | (go_at_call 36; refine hr.mono ?_; rintro ee w3 ⟨rfl, d3, S3, hs3, hP3, hA3⟩))
                go_end0
                have hj := sym_join (by omega) (by omega) (by rw [K.out.1]; exact hb) K.out.2.2.1 P2.out.1 hP3 P2.out.2 hA3
                exact ⟨rfl, d3, S3, hs3.trans hsz2, permIn_trans _ _ _ _ _ K.out.2.1 hj.1, hj.2⟩
              · have hA3 : Asc lex mid b (at_ d2) := (halves_keep hemid K.out.2.2.2.2 P2.out.1).asc_left (by omega)
                have hj := Lib.hid (sym_join (by omega) (by omega) (by rw [K.out.1]; exact hb) K.out.2.2.1 P2.out.1 (permIn_refl _ _ _) P2.out.2 hA3)
                have hF := Lib.hid hA3
                clear hA3
                by_cases hC1 : mid < e
                · have hC1z : (mid : Int) < (e : Int) := by omega
                  have hC2z : ¬ (e : Int) < (b : Int) := by omega
                  go_wp2
                  go_end0
                  exact ⟨rfl, d2, HS2.out, hsz2, permIn_trans _ _ _ _ _ K.out.2.1 hj.out.1, hj.out.2⟩
                · have hC1z : ¬ (mid : Int) < (e : Int) := by omega
                  go_wp2
                  go_end0
                  exact ⟨rfl, d2, HS2.out, hsz2, permIn_trans _ _ _ _ _ K.out.2.1 hj.out.1, hj.out.2⟩
set_option maxHeartbeats 32000000 in
set_option maxRecDepth 1000000 in
theorem sym_main2 (enc : α → Value) (cf : α → α → Int) (lex : α → α → Bool) (bef : α → α → Prop) (T : Stable (ltOf cf) lex bef) (g : Nat) (cb : Array Value) (blk off cap a m b mid s0 r0 : Nat) (d0 d : Array α) (w0 w : World)
    (eg : ∀ args w, (callFunc g args).run Try.prog w = .ok (.enter g args) w) (hcmp : CmpLays1 Try.prog g cb enc cf blk off d0.size w0) (R : Row1 enc w0 blk off d0) (hs : d0.size = d.size) (S : SW enc w0 blk off d w)
    (ham : a + 1 < m) (hmb : m + 1 < b) (hb : b ≤ d.size) (hsz : d.size < 4611686018427387904) (H : Halves lex bef a m b (at_ d)) (hmid : mid = (a + b) / 2) (hcase : m ≤ mid ∧ s0 = a ∧ r0 = m)
    (ih : ∀ (a' m' b' : Nat) (d' : Array α) (w' : World), b' - a' < b - a → a' < m' → m' < b' → b' ≤ d'.size → d'.size = d.size → SW enc w0 blk off d' w' → Halves lex bef a' m' b' (at_ d') →
      Calls Try.prog 36 #[.slice (some ⟨blk, off, none⟩) d'.size cap, .int .i64 a', .int .i64 m', .int .i64 b', .func (.func g) #[] cb] w' (SymDone enc lex blk off a' b' d' w0)) :
    Calls Try.prog 36 #[.slice (some ⟨blk, off, none⟩) d.size cap, .int .i64 a, .int .i64 m, .int .i64 b, .func (.func g) #[] cb] w (SymDone enc lex blk off a b d w0) := by
  have mixed : Try.prog.follows .mixedOrders = true := by kernel_rfl
  have hcl0 := R.hO.cells
  simp only [Value.cells] at hcl0
  have hst := R.hO.store Try.prog
  have S0 : Aside (SW enc w0 blk off d w) := S
  have HC : Aside _ := hcmp
  have HH := Lib.hid H
  have IH := Lib.hid ih
  clear S hcmp H ih
  have hm1 : ¬ (m : Int) - (a : Int) = 1 := by omega
  have hm1b : ((m : Int) - (a : Int) == 1) = false := by rw [beq_eq_false_iff_ne]; exact hm1
  have hm2 : ¬ (b : Int) - (m : Int) = 1 := by omega
  have hm2b : ((b : Int) - (m : Int) == 1) = false := by rw [beq_eq_false_iff_ne]; exact hm2
  have hz0 : ((a : Int) + (b : Int)) / 2 = (mid : Int) := by omega
  have hwm : IntKind.i64.wrap (mid : Int) = (mid : Int) := by rw [IntKind.wrap_i64]; omega
  have hmd1 : 2 * mid ≤ a + b := by omega
  have hmd2 : a + b ≤ 2 * mid + 1 := by omega
  have HMID := Lib.hid hmid
  clear hmid
  obtain ⟨hcm, hc0, hcr⟩ := hcase
  have hcmz : ¬ (mid : Int) < (m : Int) := by omega
  have hcmb : decide ((mid : Int) < (m : Int)) = false := decide_eq_false hcmz
  have hsr : s0 ≤ r0 := by omega
  have hs00 : s0 ≤ a := by omega
  have hs01 : a ≤ s0 := by omega
  have hr0 : r0 ≤ m := by omega
  have hr1 : m ≤ r0 := by omega
  clear hc0 hcr
  go_enter Try.func36, Try.ntmps36
  go_wp2
  go_loopg [20, 21] b (fun kx vs vr wr => ∃ (s r : Nat), vs = .int .i64 s ∧ vr = .int .i64 r ∧ s0 ≤ s ∧ s ≤ r ∧ r ≤ r0 ∧ r - s ≤ kx ∧ Aside (SW enc w0 blk off d wr) ∧ Hid ((s0 < s → ltOf cf d[mid + m - s]! d[s - 1]! = false) ∧ (r < r0 → ltOf cf d[mid + m - 1 - r]! d[r]! = true)))
  case atStart => exact ⟨s0, r0, by congr 1; omega, by congr 1; omega, Nat.le_refl _, hsr, Nat.le_refl _, by omega, S0, fun h => absurd h (by omega), fun h => absurd h (by omega)⟩
  case round =>
    clear S0
    obtain ⟨s, r, rfl, rfl, hss, hsr2, hrr, hkx, S1, HI⟩ := hrel
    by_cases hlt : s < r
    · have hltz : (s : Int) < (r : Int) := by omega
      obtain ⟨h, hh⟩ : ∃ h : Nat, h = (s + r) / 2 := ⟨_, rfl⟩
      have hh1 : s ≤ h := by omega
      have hh2 : h < r := by omega
      have hz2 : ((s : Int) + (r : Int)) / 2 = (h : Int) := by omega
      have hwh : IntKind.i64.wrap (h : Int) = (h : Int) := by rw [IntKind.wrap_i64]; omega
      clear hh
      obtain ⟨q, hq⟩ : ∃ q : Nat, q = mid + m - 1 - h := ⟨_, rfl⟩
      have hqz : (mid : Int) + (m : Int) - 1 - (h : Int) = (q : Int) := by omega
      have rq : IntKind.i64.wrap (q : Int) = (q : Int) := by rw [IntKind.wrap_i64]; omega
      have hqs : q < d.size := by omega
      have hhs : h < d.size := by omega
      have pa1 : (h : Int) < (d.size : Int) := by omega
      have pc1 : (q : Int) < (d.size : Int) := by omega
      obtain ⟨x1, hx1⟩ : ∃ x, x = d[q]! := ⟨_, rfl⟩
      obtain ⟨y1, hy1⟩ : ∃ x, x = d[h]! := ⟨_, rfl⟩
      have l1a := S1.out.cl R (by omega) q hqs
      have l1b := S1.out.cl R (by omega) h hhs
      rw [← hx1] at l1a
      rw [← hy1] at l1b
      have hc1 := S1.out.cmp HC.out (by omega) x1 y1
      cases hlv : ltOf cf d[q]! d[h]! with
      | true =>
        have hv1 : cf x1 y1 < 0 := by rw [hx1, hy1]; exact of_decide_eq_true hlv
        have hd1 : decide (cf x1 y1 < 0) = true := decide_eq_true hv1
        have hN : Hid ((s0 < s → ltOf cf d[mid + m - s]! d[s - 1]! = false) ∧ (h < r0 → ltOf cf d[mid + m - 1 - h]! d[h]! = true)) := ⟨HI.out.1, fun _ => by rw [← hq]; exact hlv⟩
        clear hx1 hy1 hlv HI hq
        go_wp2_with fail
        go_quiet_grown (first | (go_at_fn g; refine Calls.grown_of (hc1 _ _)))
        have S2 : Aside (SW enc w0 blk off d (grow (wr.drewN nq) osq)) := S1.out.grown nq osq
        clear l1a l1b hc1 S1
        generalize grow (wr.drewN nq) osq = w2 at S2 ⊢
        clear nq osq
        go_wp2
        go_roundg (h - s)
        case measure => omega
        case rel => exact ⟨s, h, rfl, rfl, hss, by omega, by omega, Nat.le_refl _, S2, hN⟩
      | false =>
        have hv1 : ¬ cf x1 y1 < 0 := by rw [hx1, hy1]; exact of_decide_eq_false hlv
        have hd1 : decide (cf x1 y1 < 0) = false := decide_eq_false hv1
        have hN : Hid ((s0 < h + 1 → ltOf cf d[mid + m - (h + 1)]! d[h + 1 - 1]! = false) ∧ (r < r0 → ltOf cf d[mid + m - 1 - r]! d[r]! = true)) := ⟨fun _ => by rw [show mid + m - (h + 1) = q by omega]; exact hlv, HI.out.2⟩
        clear hx1 hy1 hlv HI hq
        go_wp2_with fail
        go_quiet_grown (first | (go_at_fn g; refine Calls.grown_of (hc1 _ _)))
        have S2 : Aside (SW enc w0 blk off d (grow (wr.drewN nq) osq)) := S1.out.grown nq osq
        clear l1a l1b hc1 S1
        generalize grow (wr.drewN nq) osq = w2 at S2 ⊢
        clear nq osq
        go_wp2
        go_roundg (r - (h + 1))
        case measure => omega
        case rel => exact ⟨h + 1, r, by go_num, rfl, by omega, by omega, hrr, Nat.le_refl _, S2, hN⟩
    · have hltz : ¬ (s : Int) < (r : Int) := by omega
      obtain rfl : s = r := by omega
      obtain ⟨e, he⟩ : ∃ e : Nat, e = mid + m - s := ⟨_, rfl⟩
      have hez : (mid : Int) + (m : Int) - (s : Int) = (e : Int) := by omega
      have hsa : a ≤ s := by omega
      have hsm : s ≤ m := by omega
      have hsmid : s ≤ mid := by omega
      have hem : m ≤ e := by omega
      have heb : e ≤ b := by omega
      have hemid : mid ≤ e := by omega
      have hcut := cut_halves T HH.out hsa hsm hem heb (fun h1 h2 => by rw [he]; exact HI.out.1 (by omega)) (fun h1 h2 => by have h3 := HI.out.2 (by omega); rw [show mid + m - 1 - s = e - 1 by omega] at h3; exact h3)
      rw [show s + (e - m) = mid by omega] at hcut
      have HCUT := Lib.hid hcut
      have hrot := rotate_c enc g cb blk off cap s m e d0 d w0 wr R hs S1.out
      clear hcut HI HC HH he
      -- what stands when the middle is exchanged
      have hnext : ∀ (d1 : Array α), d1.size = d.size → PermIn a b d d1 → (∀ x, d1[x]! = rotF s m e (at_ d) x) → Hid (d1.size = d.size ∧ PermIn a b d d1 ∧ (∀ i j, a ≤ i → i < mid → mid ≤ j → j < b → lex d1[i]! d1[j]! = true) ∧ Halves lex bef a s mid (at_ d1) ∧ Halves lex bef mid e b (at_ d1)) := by
        intro d1 h1 h2 h3
        have hf : at_ d1 = rotF s m e (at_ d) := funext h3
        have := HCUT.out
        rw [← hf] at this
        exact ⟨h1, h2, this.1, this.2.1, this.2.2⟩
      have HNX := Lib.hid hnext
      clear hnext HCUT
      by_cases hA : s < m ∧ m < e
      · obtain ⟨hA1, hA2⟩ := hA
        have hA1z : (s : Int) < (m : Int) := by omega
        have hA2z : (m : Int) < (e : Int) := by omega
        have hr0 := hrot hA1 hA2 (by omega) hsz
        clear hrot
        go_upto_region 41 with (go_at_call 37; refine hr0.mono ?_; rintro ee w1 ⟨rfl, d1, SD1, hs1, hP1, hF1⟩)
        have K := HNX.out d1 hs1 (permIn_mono _ _ s e a b (by omega) (by omega) (by omega) hP1) hF1
        have HS1 : Aside (SW enc w0 blk off d1 w1) := SD1
        clear SD1 hs1 hP1 hF1 hr0 S1
        by_cases hB : a < s ∧ s < mid
        · obtain ⟨hB1, hB2⟩ := hB
          have hB1z : (a : Int) < (s : Int) := by omega
          have hB2z : (s : Int) < (mid : Int) := by omega
          have hl := IH.out a s mid d1 w1 (by omega) hB1 hB2 (by rw [K.out.1]; omega) K.out.1 HS1.out K.out.2.2.2.1
          rw [K.out.1] at hl
          go_upto_region 43 with (go_at_call 36; refine hl.mono ?_; rintro ee w2 ⟨rfl, d2, S2, hs2, hP2, hA2⟩)
          have hsz2 : d2.size = d.size := hs2.trans K.out.1
          have P2 : Hid (PermIn a mid d1 d2 ∧ Asc lex a mid (at_ d2)) := ⟨hP2, hA2⟩
          have HS2 : Aside (SW enc w0 blk off d2 w2) := S2
          clear hP2 hA2 hl hs2 S2
          by_cases hC : mid < e ∧ e < b
          · obtain ⟨hC1, hC2⟩ := hC
            have hC1z : (mid : Int) < (e : Int) := by omega
            have hC2z : (e : Int) < (b : Int) := by omega
            have hr := IH.out mid e b d2 w2 (by omega) hC1 hC2 (by rw [hsz2]; exact hb) hsz2 HS2.out (halves_keep hemid K.out.2.2.2.2 P2.out.1)
            rw [hsz2] at hr
            go_wp2_with (first | (go_at_call 36; refine hr.mono ?_; rintro ee w3 ⟨rfl, d3, S3, hs3, hP3, hA3⟩))
            go_end0
            have hj := sym_join (by omega) (by omega) (by rw [K.out.1]; exact hb) K.out.2.2.1 P2.out.1 hP3 P2.out.2 hA3
            exact ⟨rfl, d3, S3, hs3.trans hsz2, permIn_trans _ _ _ _ _ K.out.2.1 hj.1, hj.2⟩
          · have hA3 : Asc lex mid b (at_ d2) := (halves_keep hemid K.out.2.2.2.2 P2.out.1).asc_left (by omega)
            have hj := Lib.hid (sym_join (by omega) (by omega) (by rw [K.out.1]; exact hb) K.out.2.2.1 P2.out.1 (permIn_refl _ _ _) P2.out.2 hA3)
            have hF := Lib.hid hA3
            clear hA3
            by_cases hC1 : mid < e
            · have hC1z : (mid : Int) < (e : Int) := by omega
              have hC2z : ¬ (e : Int) < (b : Int) := by omega
              go_wp2
              go_end0
              exact ⟨rfl, d2, HS2.out, hsz2, permIn_trans _ _ _ _ _ K.out.2.1 hj.out.1, hj.out.2⟩
            · have hC1z : ¬ (mid : Int) < (e : Int) := by omega
              go_wp2
              go_end0
              exact ⟨rfl, d2, HS2.out, hsz2, permIn_trans _ _ _ _ _ K.out.2.1 hj.out.1, hj.out.2⟩
        · obtain ⟨d2, hsz2, P2, HS2⟩ : ∃ d2 : Array α, d2.size = d.size ∧ Hid (PermIn a mid d1 d2 ∧ Asc lex a mid (at_ d2)) ∧ Aside (SW enc w0 blk off d2 w1) := ⟨d1, K.out.1, ⟨permIn_refl _ _ _, K.out.2.2.2.1.asc_left (by omega)⟩, HS1.out⟩
          by_cases hB1 : a < s
          · have hB1z : (a : Int) < (s : Int) := by omega
            have hB2z : ¬ (s : Int) < (mid : Int) := by omega
            go_upto_region 43 with fail
            by_cases hC : mid < e ∧ e < b
            · obtain ⟨hC1, hC2⟩ := hC
              have hC1z : (mid : Int) < (e : Int) := by omega
              have hC2z : (e : Int) < (b : Int) := by omega
              have hr := IH.out mid e b d2 w1 (by omega) hC1 hC2 (by rw [hsz2]; exact hb) hsz2 HS2.out (halves_keep hemid K.out.2.2.2.2 P2.out.1)
              rw [hsz2] at hr
              go_wp2_with (first | (go_at_call 36; refine hr.mono ?_; rintro ee w3 ⟨rfl, d3, S3, hs3, hP3, hA3⟩))
              go_end0
              have hj := sym_join (by omega) (by omega) (by rw [K.out.1]; exact hb) K.out.2.2.1 P2.out.1 hP3 P2.out.2 hA3
              exact ⟨rfl, d3, S3, hs3.trans hsz2, permIn_trans _ _ _ _ _ K.out.2.1 hj.1, hj.2⟩
            · have hA3 : Asc lex mid b (at_ d2) := (halves_keep hemid K.out.2.2.2.2 P2.out.1).asc_left (by omega)
              have hj := Lib.hid (sym_join (by omega) (by omega) (by rw [K.out.1]; exact hb) K.out.2.2.1 P2.out.1 (permIn_refl _ _ _) P2.out.2 hA3)
              have hF := Lib.hid hA3
              clear hA3
              by_cases hC1 : mid < e
              · have hC1z : (mid : Int) < (e : Int) := by omega
                have hC2z : ¬ (e : Int) < (b : Int) := by omega
                go_wp2
                go_end0
                exact ⟨rfl, d2, HS2.out, hsz2, permIn_trans _ _ _ _ _ K.out.2.1 hj.out.1, hj.out.2⟩
              · have hC1z : ¬ (mid : Int) < (e : Int) := by omega
                go_wp2
                go_end0
                exact ⟨rfl, d2, HS2.out, hsz2, permIn_trans _ _ _ _ _ K.out.2.1 hj.out.1, hj.out.2⟩
          · have hB1z : ¬ (a : Int) < (s : Int) := by omega
            go_upto_region 43 with fail
            by_cases hC : mid < e ∧ e < b
            · obtain ⟨hC1, hC2⟩ := hC
              have hC1z : (mid : Int) < (e : Int) := by omega
              have hC2z : (e : Int) < (b : Int) := by omega
              have hr := IH.out mid e b d2 w1 (by omega) hC1 hC2 (by rw [hsz2]; exact hb) hsz2 HS2.out (halves_keep hemid K.out.2.2.2.2 P2.out.1)
              rw [hsz2] at hr
              go_wp2_with (first | (go_at_call 36; refine hr.mono ?_; rintro ee w3 ⟨rfl, d3, S3, hs3, hP3, hA3⟩))
              go_end0
              have hj := sym_join (by omega) (by omega) (by rw [K.out.1]; exact hb) K.out.2.2.1 P2.out.1 hP3 P2.out.2 hA3
              exact ⟨rfl, d3, S3, hs3.trans hsz2, permIn_trans _ _ _ _ _ K.out.2.1 hj.1, hj.2⟩
            · have hA3 : Asc lex mid b (at_ d2) := (halves_keep hemid K.out.2.2.2.2 P2.out.1).asc_left (by omega)
              have hj := Lib.hid (sym_join (by omega) (by omega) (by rw [K.out.1]; exact hb) K.out.2.2.1 P2.out.1 (permIn_refl _ _ _) P2.out.2 hA3)
              have hF := Lib.hid hA3
              clear hA3
              by_cases hC1 : mid < e
              · have hC1z : (mid : Int) < (e : Int) := by omega
                have hC2z : ¬ (e : Int) < (b : Int) := by omega
                go_wp2
                go_end0
                exact ⟨rfl, d2, HS2.out, hsz2, permIn_trans _ _ _ _ _ K.out.2.1 hj.out.1, hj.out.2⟩
              · have hC1z : ¬ (mid : Int) < (e : Int) := by omega
                go_wp2
                go_end0
                exact ⟨rfl, d2, HS2.out, hsz2, permIn_trans _ _ _ _ _ K.out.2.1 hj.out.1, hj.out.2⟩
      · clear hrot
        have K0 := HNX.out d rfl (permIn_refl _ _ _) (fun x => by
          by_cases hx : s = m
          · rw [hx]; exact (rotF_left _ _ _ _).symm
          · have : m = e := by omega
            rw [← this]; exact (rotF_right _ _ _ _).symm)
        obtain ⟨d1, K, HS1⟩ : ∃ d1 : Array α, Hid (d1.size = d.size ∧ PermIn a b d d1 ∧ (∀ i j, a ≤ i → i < mid → mid ≤ j → j < b → lex d1[i]! d1[j]! = true) ∧ Halves lex bef a s mid (at_ d1) ∧ Halves lex bef mid e b (at_ d1)) ∧ Aside (SW enc w0 blk off d1 wr) := ⟨d, K0, S1⟩
        clear S1 K0
        by_cases hA1 : s < m
        · have hA1z : (s : Int) < (m : Int) := by omega
          have hA2z : ¬ (m : Int) < (e : Int) := by omega
          go_upto_region 41 with fail
          by_cases hB : a < s ∧ s < mid
          · obtain ⟨hB1, hB2⟩ := hB
            have hB1z : (a : Int) < (s : Int) := by omega
            have hB2z : (s : Int) < (mid : Int) := by omega
            have hl := IH.out a s mid d1 wr (by omega) hB1 hB2 (by rw [K.out.1]; omega) K.out.1 HS1.out K.out.2.2.2.1
            rw [K.out.1] at hl
            go_upto_region 43 with (go_at_call 36; refine hl.mono ?_; rintro ee w2 ⟨rfl, d2, S2, hs2, hP2, hA2⟩)
            have hsz2 : d2.size = d.size := hs2.trans K.out.1
            have P2 : Hid (PermIn a mid d1 d2 ∧ Asc lex a mid (at_ d2)) := ⟨hP2, hA2⟩
            have HS2 : Aside (SW enc w0 blk off d2 w2) := S2
            clear hP2 hA2 hl hs2 S2
            by_cases hC : mid < e ∧ e < b
            · obtain ⟨hC1, hC2⟩ := hC
              have hC1z : (mid : Int) < (e : Int) := by omega
              have hC2z : (e : Int) < (b : Int) := by omega
              have hr := IH.out mid e b d2 w2 (by omega) hC1 hC2 (by rw [hsz2]; exact hb) hsz2 HS2.out (halves_keep hemid K.out.2.2.2.2 P2.out.1)
              rw [hsz2] at hr
              go_wp2_with (first | (go_at_call 36; refine hr.mono ?_; rintro ee w3 ⟨rfl, d3, S3, hs3, hP3, hA3⟩))
              go_end0
              have hj := sym_join (by omega) (by omega) (by rw [K.out.1]; exact hb) K.out.2.2.1 P2.out.1 hP3 P2.out.2 hA3
              exact ⟨rfl, d3, S3, hs3.trans hsz2, permIn_trans _ _ _ _ _ K.out.2.1 hj.1, hj.2⟩
            · have hA3 : Asc lex mid b (at_ d2) := (halves_keep hemid K.out.2.2.2.2 P2.out.1).asc_left (by omega)
              have hj := Lib.hid (sym_join (by omega) (by omega) (by rw [K.out.1]; exact hb) K.out.2.2.1 P2.out.1 (permIn_refl _ _ _) P2.out.2 hA3)
              have hF := Lib.hid hA3
              clear hA3
              by_cases hC1 : mid < e
              · have hC1z : (mid : Int) < (e : Int) := by omega
                have hC2z : ¬ (e : Int) < (b : Int) := by omega
                go_wp2
                go_end0
                exact ⟨rfl, d2, HS2.out, hsz2, permIn_trans _ _ _ _ _ K.out.2.1 hj.out.1, hj.out.2⟩
              · have hC1z : ¬ (mid : Int) < (e : Int) := by omega
                go_wp2
                go_end0
                exact ⟨rfl, d2, HS2.out, hsz2, permIn_trans _ _ _ _ _ K.out.2.1 hj.out.1, hj.out.2⟩
          · obtain ⟨d2, hsz2, P2, HS2⟩ : ∃ d2 : Array α, d2.size = d.size ∧ Hid (PermIn a mid d1 d2 ∧ Asc lex a mid (at_ d2)) ∧ Aside (SW enc w0 blk off d2 wr) := ⟨d1, K.out.1, ⟨permIn_refl _ _ _, K.out.2.2.2.1.asc_left (by omega)⟩, HS1.out⟩
            by_cases hB1 : a < s
            · have hB1z : (a : Int) < (s : Int) := by omega
              have hB2z : ¬ (s : Int) < (mid : Int) := by omega
              go_upto_region 43 with fail
              by_cases hC : mid < e ∧ e < b
              · obtain ⟨hC1, hC2⟩ := hC
                have hC1z : (mid : Int) < (e : Int) := by omega
                have hC2z : (e : Int) < (b : Int) := by omega
                have hr := IH.out mid e b d2 wr (by omega) hC1 hC2 (by rw [hsz2]; exact hb) hsz2 HS2.out (halves_keep hemid K.out.2.2.2.2 P2.out.1)
                rw [hsz2] at hr
                go_wp2_with (first | (go_at_call 36; refine hr.mono ?_; rintro ee w3 ⟨rfl, d3, S3, hs3, hP3, hA3⟩))
                go_end0
                have hj := sym_join (by omega) (by omega) (by rw [K.out.1]; exact hb) K.out.2.2.1 P2.out.1 hP3 P2.out.2 hA3
                exact ⟨rfl, d3, S3, hs3.trans hsz2, permIn_trans _ _ _ _ _ K.out.2.1 hj.1, hj.2⟩
              · have hA3 : Asc lex mid b (at_ d2) := (halves_keep hemid K.out.2.2.2.2 P2.out.1).asc_left (by omega)
                have hj := Lib.hid (sym_join (by omega) (by omega) (by rw [K.out.1]; exact hb) K.out.2.2.1 P2.out.1 (permIn_refl _ _ _) P2.out.2 hA3)
                have hF := Lib.hid hA3
                clear hA3
                by_cases hC1 : mid < e
                · have hC1z : (mid : Int) < (e : Int) := by omega
                  have hC2z : ¬ (e : Int) < (b : Int) := by omega
                  go_wp2
                  go_end0
                  exact ⟨rfl, d2, HS2.out, hsz2, permIn_trans _ _ _ _ _ K.out.2.1 hj.out.1, hj.out.2⟩
                · have hC1z : ¬ (mid : Int) < (e : Int) := by omega
                  go_wp2
                  go_end0
                  exact ⟨rfl, d2, HS2.out, hsz2, permIn_trans _ _ _ _ _ K.out.2.1 hj.out.1, hj.out.2⟩
            · have hB1z : ¬ (a : Int) < (s : Int) := by omega
              go_upto_region 43 with fail
              by_cases hC : mid < e ∧ e < b
              · obtain ⟨hC1, hC2⟩ := hC
                have hC1z : (mid : Int) < (e : Int) := by omega
                have hC2z : (e : Int) < (b : Int) := by omega
                have hr := IH.out mid e b d2 wr (by omega) hC1 hC2 (by rw [hsz2]; exact hb) hsz2 HS2.out (halves_keep hemid K.out.2.2.2.2 P2.out.1)
                rw [hsz2] at hr
                go_wp2_with (first | (go_at_call 36; refine hr.mono ?_; rintro ee w3 ⟨rfl, d3, S3, hs3, hP3, hA3⟩))
                go_end0
                have hj := sym_join (by omega) (by omega) (by rw [K.out.1]; exact hb) K.out.2.2.1 P2.out.1 hP3 P2.out.2 hA3
                exact ⟨rfl, d3, S3, hs3.trans hsz2, permIn_trans _ _ _ _ _ K.out.2.1 hj.1, hj.2⟩
              · have hA3 : Asc lex mid b (at_ d2) := (halves_keep hemid K.out.2.2.2.2 P2.out.1).asc_left (by omega)
                have hj := Lib.hid (sym_join (by omega) (by omega) (by rw [K.out.1]; exact hb) K.out.2.2.1 P2.out.1 (permIn_refl _ _ _) P2.out.2 hA3)
                have hF := Lib.hid hA3
                clear hA3
                by_cases hC1 : mid < e
                · have hC1z : (mid : Int) < (e : Int) := by omega
                  have hC2z : ¬ (e : Int) < (b : Int) := by omega
                  go_wp2
                  go_end0
                  exact ⟨rfl, d2, HS2.out, hsz2, permIn_trans _ _ _ _ _ K.out.2.1 hj.out.1, hj.out.2⟩
                · have hC1z : ¬ (mid : Int) < (e : Int) := by omega
                  go_wp2
                  go_end0
                  exact ⟨rfl, d2, HS2.out, hsz2, permIn_trans _ _ _ _ _ K.out.2.1 hj.out.1, hj.out.2⟩
        · have hA1z : ¬ (s : Int) < (m : Int) := by omega
          go_upto_region 41 with fail
          by_cases hB : a < s ∧ s < mid
          · obtain ⟨hB1, hB2⟩ := hB
            have hB1z : (a : Int) < (s : Int) := by omega
            have hB2z : (s : Int) < (mid : Int) := by omega
            have hl := IH.out a s mid d1 wr (by omega) hB1 hB2 (by rw [K.out.1]; omega) K.out.1 HS1.out K.out.2.2.2.1
            rw [K.out.1] at hl
            go_upto_region 43 with (go_at_call 36; refine hl.mono ?_; rintro ee w2 ⟨rfl, d2, S2, hs2, hP2, hA2⟩)
            have hsz2 : d2.size = d.size := hs2.trans K.out.1
            have P2 : Hid (PermIn a mid d1 d2 ∧ Asc lex a mid (at_ d2)) := ⟨hP2, hA2⟩
            have HS2 : Aside (SW enc w0 blk off d2 w2) := S2
            clear hP2 hA2 hl hs2 S2
            by_cases hC : mid < e ∧ e < b
            · obtain ⟨hC1, hC2⟩ := hC
              have hC1z : (mid : Int) < (e : Int) := by omega
              have hC2z : (e : Int) < (b : Int) := by omega
              have hr := IH.out mid e b d2 w2 (by omega) hC1 hC2 (by rw [hsz2]; exact hb) hsz2 HS2.out (halves_keep hemid K.out.2.2.2.2 P2.out.1)
              rw [hsz2] at hr
              go_wp2_with (first | (go_at_call 36; refine hr.mono ?_; rintro ee w3 ⟨rfl, d3, S3, hs3, hP3, hA3⟩))
              go_end0
              have hj := sym_join (by omega) (by omega) (by rw [K.out.1]; exact hb) K.out.2.2.1 P2.out.1 hP3 P2.out.2 hA3
              exact ⟨rfl, d3, S3, hs3.trans hsz2, permIn_trans _ _ _ _ _ K.out.2.1 hj.1, hj.2⟩
            · have hA3 : Asc lex mid b (at_ d2) := (halves_keep hemid K.out.2.2.2.2 P2.out.1).asc_left (by omega)
              have hj := Lib.hid (sym_join (by omega) (by omega) (by rw [K.out.1]; exact hb) K.out.2.2.1 P2.out.1 (permIn_refl _ _ _) P2.out.2 hA3)
              have hF := Lib.hid hA3
              clear hA3
              by_cases hC1 : mid < e
              · have hC1z : (mid : Int) < (e : Int) := by omega
                have hC2z : ¬ (e : Int) < (b : Int) := by omega
                go_wp2
                go_end0
                exact ⟨rfl, d2, HS2.out, hsz2, permIn_trans _ _ _ _ _ K.out.2.1 hj.out.1, hj.out.2⟩
              · have hC1z : ¬ (mid : Int) < (e : Int) := by omega
                go_wp2
                go_end0
                exact ⟨rfl, d2, HS2.out, hsz2, permIn_trans _ _ _ _ _ K.out.2.1 hj.out.1, hj.out.2⟩
          · obtain ⟨d2, hsz2, P2, HS2⟩ : ∃ d2 : Array α, d2.size = d.size ∧ Hid (PermIn a mid d1 d2 ∧ Asc lex a mid (at_ d2)) ∧ Aside (SW enc w0 blk off d2 wr) := ⟨d1, K.out.1, ⟨permIn_refl _ _ _, K.out.2.2.2.1.asc_left (by omega)⟩, HS1.out⟩
            by_cases hB1 : a < s
            · have hB1z : (a : Int) < (s : Int) := by omega
              have hB2z : ¬ (s : Int) < (mid : Int) := by omega
              go_upto_region 43 with fail
              by_cases hC : mid < e ∧ e < b
              · obtain ⟨hC1, hC2⟩ := hC
                have hC1z : (mid : Int) < (e : Int) := by omega
                have hC2z : (e : Int) < (b : Int) := by omega
                have hr := IH.out mid e b d2 wr (by omega) hC1 hC2 (by rw [hsz2]; exact hb) hsz2 HS2.out (halves_keep hemid K.out.2.2.2.2 P2.out.1)
                rw [hsz2] at hr
                go_wp2_with (first | (go_at_call 36; refine hr.mono ?_; rintro ee w3 ⟨rfl, d3, S3, hs3, hP3, hA3⟩))
                go_end0
                have hj := sym_join (by omega) (by omega) (by rw [K.out.1]; exact hb) K.out.2.2.1 P2.out.1 hP3 P2.out.2 hA3
                exact ⟨rfl, d3, S3, hs3.trans hsz2, permIn_trans _ _ _ _ _ K.out.2.1 hj.1, hj.2⟩
              · have hA3 : Asc lex mid b (at_ d2) := (halves_keep hemid K.out.2.2.2.2 P2.out.1).asc_left (by omega)
                have hj := Lib.hid (sym_join (by omega) (by omega) (by rw [K.out.1]; exact hb) K.out.2.2.1 P2.out.1 (permIn_refl _ _ _) P2.out.2 hA3)
                have hF := Lib.hid hA3
                clear hA3
                by_cases hC1 : mid < e
                · have hC1z : (mid : Int) < (e : Int) := by omega
                  have hC2z : ¬ (e : Int) < (b : Int) := by omega
                  go_wp2
                  go_end0
                  exact ⟨rfl, d2, HS2.out, hsz2, permIn_trans _ _ _ _ _ K.out.2.1 hj.out.1, hj.out.2⟩
                · have hC1z : ¬ (mid : Int) < (e : Int) := by omega
                  go_wp2
                  go_end0
                  exact ⟨rfl, d2, HS2.out, hsz2, permIn_trans _ _ _ _ _ K.out.2.1 hj.out.1, hj.out.2⟩
            · have hB1z : ¬ (a : Int) < (s : Int) := by omega
              go_upto_region 43 with fail
              by_cases hC : mid < e ∧ e < b
              · obtain ⟨hC1, hC2⟩ := hC
                have hC1z : (mid : Int) < (e : Int) := by omega
                have hC2z : (e : Int) < (b : Int) := by omega
                have hr := IH.out mid e b d2 wr (by omega) hC1 hC2 (by rw [hsz2]; exact hb) hsz2 HS2.out (halves_keep hemid K.out.2.2.2.2 P2.out.1)
                rw [hsz2] at hr
                go_wp2_with (first | (go_at_call 36; refine hr.mono ?_; rintro ee w3 ⟨rfl, d3, S3, hs3, hP3, hA3⟩))
                go_end0
                have hj := sym_join (by omega) (by omega) (by rw [K.out.1]; exact hb) K.out.2.2.1 P2.out.1 hP3 P2.out.2 hA3
                exact ⟨rfl, d3, S3, hs3.trans hsz2, permIn_trans _ _ _ _ _ K.out.2.1 hj.1, hj.2⟩
              · have hA3 : Asc lex mid b (at_ d2) := (halves_keep hemid K.out.2.2.2.2 P2.out.1).asc_left (by omega)
                have hj := Lib.hid (sym_join (by omega) (by omega) (by rw [K.out.1]; exact hb) K.out.2.2.1 P2.out.1 (permIn_refl _ _ _) P2.out.2 hA3)
                have hF := Lib.hid hA3
                clear hA3
                by_cases hC1 : mid < e
                · have hC1z : (mid : Int) < (e : Int) := by omega
                  have hC2z : ¬ (e : Int) < (b : Int) := by omega
                  go_wp2
                  go_end0
                  exact ⟨rfl, d2, HS2.out, hsz2, permIn_trans _ _ _ _ _ K.out.2.1 hj.out.1, hj.out.2⟩
                · have hC1z : ¬ (mid : Int) < (e : Int) := by omega
                  go_wp2
                  go_end0
                  exact ⟨rfl, d2, HS2.out, hsz2, permIn_trans _ _ _ _ _ K.out.2.1 hj.out.1, hj.out.2⟩
end
end Go.Proofs.Yticfefiiiinadaa
