/- The law RegionOne, walked. -/
import Derived.Test.YtfabknabkcfpjaaRiD
namespace Go.Proofs.Ytfabknabkcfpjaa
open Go.RowKit Go.Shelf
theorem Ok.drop {l : List Rc} (h : Ok l) (k : Nat) : Ok (l.drop k) := ⟨by rw [List.length_drop]; have := h.1; omega, fun r hr => h.2 r (List.mem_of_mem_drop hr)⟩
theorem Ok.take {l : List Rc} (h : Ok l) (k : Nat) : Ok (l.take k) := ⟨by rw [List.length_take]; have := h.1; omega, fun r hr => h.2 r (List.mem_of_mem_take hr)⟩
theorem one_pure1 {l A B : List Rc} {kf : Int} (hA : Told rlU l [] 0 A) (hB : Told rlU A [] kf B) : kf = 0 ∧ B = A := by
  have mA := hA.made rfl
  exact hB.same mA.ok Ok.nil mA (fun x v => by rw [inS_nil]; unfold rlU; rw [Bool.or_false])
theorem one_pure2 {l A C : List Rc} {kg : Int} {k : Nat} (hA : Told rlU l [] 0 A) (hC : Told rlU (l.drop k) (l.take k) kg C) : kg = 0 ∧ C = A := by
  have mA := hA.made rfl
  refine hC.same (mA.a.drop k) (mA.a.take k) mA (fun x v => ?_)
  rw [mA.has, inS_nil]
  unfold rlU
  rw [Bool.or_false, Bool.or_comm, ← inS_append, List.take_append_drop]
theorem one_pure3 {l A M : List Rc} {r : Rc} {kh : Int} {i : Nat} (hA : Told rlU l [] 0 A) (hr : A[i]? = some r) (hM : Told rlI [r] (A.take i) kh M) : kh = 0 ∧ M = [] := by
  have mA := hA.made rfl
  exact hM.none ⟨by simp, fun s hs => by rw [List.mem_singleton.1 hs]; exact mA.ok.2 r (List.mem_of_getElem? hr)⟩ (mA.ok.take i) (fun x v => mA.apart hr x v)
theorem RdK.tail {w : World} {p : Option Addr} {n c k c' : Nat} {L : List Rc} (h : RdK encR 4 w (.slice p n c) L) (hn : n = L.length) (hk : k < n) (hc : n ≤ c) :
    RdK encR 4 w (.slice (if c = k then p else Option.map (fun x => x.add (k * 4)) p) (n - k) c') (L.drop k) := by
  obtain ⟨p', c0, hv, h2⟩ := h
  simp only [Value.slice.injEq] at hv
  obtain ⟨rfl, -, rfl⟩ := hv
  refine ⟨_, c', by rw [List.length_drop, hn], fun j x hx => ?_⟩
  rw [List.getElem?_drop] at hx
  obtain ⟨b, o, hp, hb, hcell⟩ := h2 _ x hx
  refine ⟨b, o + k * 4, ?_, hb, fun i u hu => ?_⟩
  · rw [if_neg (by omega), hp]; simp [Addr.add]
  · have := hcell i u hu
    rw [show o + k * 4 + j * 4 + i = o + (k + j) * 4 + i by omega]; exact this
theorem RdK.head {w : World} {p : Option Addr} {n c k c' : Nat} {L : List Rc} (h : RdK encR 4 w (.slice p n c) L) (hn : n = L.length) (hk : k ≤ n) : RdK encR 4 w (.slice p k c') (L.take k) := by
  obtain ⟨p', c0, hv, h2⟩ := h
  simp only [Value.slice.injEq] at hv
  obtain ⟨rfl, -, rfl⟩ := hv
  refine ⟨_, c', by rw [List.length_take, ← hn, Nat.min_eq_left hk], fun j x hx => ?_⟩
  have hj := (List.getElem?_eq_some_iff.1 hx).1
  rw [List.length_take] at hj
  rw [List.getElem?_take_of_lt (by omega)] at hx
  exact h2 j x hx
theorem RdK.at_one {w : World} {p : Option Addr} {n c k c' m : Nat} {L : List Rc} {r : Rc} (h : RdK encR 4 w (.slice p n c) L) (hn : n = L.length) (hr : L[k]? = some r) (hc : n ≤ c) (hm : m = 1) :
    RdK encR 4 w (.slice (if c = k then p else Option.map (fun x => x.add (k * 4)) p) m c') [r] := by
  subst hm
  have hk := (List.getElem?_eq_some_iff.1 hr).1
  have h1 := (h.tail (c' := c') hn (by omega) hc).head (n := n - k) (k := 1) (c' := c') (by rw [List.length_drop, hn]) (by omega)
  have e : (L.drop k).take 1 = [r] := by
    apply List.ext_getElem?
    intro j
    by_cases hj : j < 1
    · obtain rfl : j = 0 := by omega
      rw [List.getElem?_take_of_lt (by omega), List.getElem?_drop]; simpa using hr
    · rw [List.getElem?_eq_none (by simp; omega), List.getElem?_eq_none (by simp; omega)]
  rwa [e] at h1
theorem Stt.drew {w0 wx : World} {l : List (Value × List Rc)} (h : Stt w0 l wx) : Stt w0 l wx.drew := ⟨h.1, h.2.drew⟩
theorem wf_u64 {a : Int} (h : (Lit.int .u64 a).wf = true) : 0 ≤ a ∧ a < 18446744073709551616 := by
  simp only [Lit.wf, decide_eq_true_eq, Bool.and_eq_true] at h
  have h1 : IntKind.u64.min = 0 := rfl
  have h2 : IntKind.u64.max = 18446744073709551615 := rfl
  omega
theorem own_cap {w : World} {k : Nat} {T : TypeId} {p : Option Addr} {n c : Nat} {L : List Rc} (h : OwK encR T 4 w k (.slice p n c) L) : n ≤ c := by
  obtain ⟨_, h1⟩ := h
  rcases h1 with ⟨h2, h3⟩ | ⟨g, cap, cur, h2, _, _, h3, _⟩
  · simp only [Value.slice.injEq] at h2; omega
  · simp only [Value.slice.injEq] at h2; omega
theorem own_len {w : World} {k : Nat} {T : TypeId} {p : Option Addr} {n c : Nat} {L : List Rc} (h : OwK encR T 4 w k (.slice p n c) L) : n = L.length := by
  obtain ⟨p', c', h2⟩ := h.slice
  simp only [Value.slice.injEq] at h2; exact h2.2.1
set_option maxRecDepth 100000 in
set_option maxHeartbeats 16000000 in
theorem one_w (va : Value) (la : List Rc) (t : Int) (w : World) (ha : RdK encR 4 w va la) (hla : la.length ≤ 4398046511104) (hcap : ∀ p n c, va = .slice p n c → n ≤ c) (ht : (Lit.int .u64 t).wf = true) :
    Calls Try.prog 6 #[va, .int .u64 t] w fun e w' => e = .returned (.bool true) ∧ Below w.heap.size w w' := by
  have P0 : Stt w [(va, la)] w := ⟨fun p hp => by rw [List.mem_singleton.1 hp]; exact ha, Below.refl _ _⟩
  have HLA := Lib.hid (show la.length ≤ 1152921504606846976 by omega)
  have ht2 := wf_u64 ht
  obtain ⟨p, c, rfl, -⟩ := ha
  have hc := hcap _ _ _ rfl
  obtain ⟨n, hn⟩ : ∃ n, n = la.length := ⟨_, rfl⟩
  rw [← hn] at P0 hc hla ⊢
  have HN := Lib.hid hn
  clear hcap ht hn
  go_enter Try.func6, Try.ntmps6
  go_upto_region 2 with (go_at_call 11; have g0 := P0.get 0 rfl; (with_reducible refine (union_t (.slice p n c) (.slice none 0 0) la [] _ g0 (RdK.nil _ _) HLA.out (by simp)).mono ?_); rintro e1 w1 ⟨⟨av, ke, A, rfl, hTA, hO⟩, hb⟩; obtain ⟨pa, ca, rfl⟩ := hO.slice; have P1 := P0.made hb hO; have HCA := Lib.hid (own_cap hO); have TA := Lib.hid hTA; clear hTA hO hb P0 g0)
  by_cases hk : ke = 0 ∧ n ≠ 0
  · obtain ⟨rfl, hn0⟩ := hk
    have mA := TA.out.made rfl
    have hn256 : n ≤ 256 := by rw [HN.out]; exact mA.a.1
    have HA1 := Lib.hid mA.ok.1
    obtain ⟨m, hm⟩ : ∃ m, m = A.length := ⟨_, rfl⟩
    rw [← hm] at P1 HCA HA1 ⊢
    have HMA := Lib.hid hm
    have HLM := Lib.hid (show A.length ≤ 1152921504606846976 by rw [← HMA.out]; have := HA1.out; omega)
    have hn0' : ¬ (n : Int) = 0 := by omega
    clear mA hm
    go_upto_region 5 with (go_at_call 11; have g0 := P1.get 0 rfl; (with_reducible refine (union_t (.slice pa m ca) (.slice none 0 0) A [] _ g0 (RdK.nil _ _) HLM.out (by simp)).mono ?_); rintro e2 w2 ⟨⟨bv, kf, B, rfl, hTB, hO⟩, hb⟩; have P2 := P1.made hb hO; have TB := Lib.hid hTB; clear hTB hO hb P1 g0)
    obtain ⟨k, hk⟩ : ∃ k : Nat, t % (n : Int) = k := ⟨(t % (n : Int)).toNat, by have := Int.emod_nonneg t (show (n : Int) ≠ 0 by omega); omega⟩
    have hkn : (k : Int) < n := by rw [← hk]; exact Int.emod_lt_of_pos _ (by omega)
    go_upto_region 6 with fail
    have hkn1 : k ≤ n := by omega
    have hkc1 : k ≤ c := by omega
    have hkn2 : (k : Int) ≤ (n : Int) := by omega
    have hkc2 : (k : Int) ≤ (c : Int) := by omega
    have HC := Lib.hid (union_t _ _ (la.drop k) (la.take k) w2.drew (RdK.tail (P2.drew.get 2 rfl) HN.out (by omega) hc (k := k) (c' := c - k)) (RdK.head (P2.drew.get 2 rfl) HN.out (by omega) (k := k) (c' := c)) (by have := HLA.out; rw [List.length_drop]; omega) (by have := HLA.out; rw [List.length_take]; omega))
    obtain ⟨q, hq⟩ : ∃ q, (if c = k then p else Option.map (fun x => x.add (k * 4)) p) = q := ⟨_, rfl⟩
    rw [hq] at HC
    refine wp_region_noPanic ?_
    refine wp_region_held_drew (S := fun _ => True) (by kernel_rfl) (by trivial) (fun hHeld => ?_)
    refine wpAnyH_take (i := 0) (v := ?va0) rfl (by kernel_rfl) (by kernel_rfl) (by kernel_rfl) (fun _ _ _ h => h) (Or.inl ⟨by kernel_rfl, ?ya0⟩) (by assumption) ?ra0
    case ya0 => (intro wq hSw; (try dsimp only at hSw); go_simp; (try with_reducible rfl))
    (try simp only [Act.put, List.getElem_toArray, List.getElem_cons_zero, List.setIfInBounds_toArray, List.set_cons_zero, List.set_cons_succ])
    refine wpAnyH_take (i := 1) (v := ?va1) rfl (by kernel_rfl) (by kernel_rfl) (by kernel_rfl) (fun _ _ _ h => h) (Or.inl ⟨by kernel_rfl, ?ya1⟩) (by assumption) ?ra1
    case ya1 => (intro wq hSw; (try dsimp only at hSw); go_simp; (try with_reducible rfl))
    (try simp only [Act.put, List.getElem_toArray, List.getElem_cons_succ, List.getElem_cons_zero, List.setIfInBounds_toArray, List.set_cons_zero, List.set_cons_succ])
    refine wpAnyH_take (i := 2) (v := ?va2) rfl (by kernel_rfl) (by kernel_rfl) (by kernel_rfl) (fun _ _ _ h => h) (Or.inl ⟨by kernel_rfl, ?ya2⟩) (by assumption) ?ra2
    case ya2 => (intro wq hSw; (try dsimp only at hSw); go_simp; (try with_reducible rfl))
    (try simp only [Act.put, List.getElem_toArray, List.getElem_cons_succ, List.getElem_cons_zero, List.setIfInBounds_toArray, List.set_cons_zero, List.set_cons_succ])
    refine wpAnyH_take (i := 3) (v := ?va3) rfl (by kernel_rfl) (by kernel_rfl) (by kernel_rfl) (fun _ _ _ h => h) (Or.inl ⟨by kernel_rfl, ?ya3⟩) (by assumption) ?ra3
    case ya3 => (intro wq hSw; (try dsimp only at hSw); go_simp; (try with_reducible rfl))
    (try simp only [Act.put, List.getElem_toArray, List.getElem_cons_succ, List.getElem_cons_zero, List.setIfInBounds_toArray, List.set_cons_zero, List.set_cons_succ])
    refine wpAnyH_take (i := 4) (v := ?va4) rfl (by kernel_rfl) (by kernel_rfl) (by kernel_rfl) (fun _ _ _ h => h) (Or.inl ⟨by kernel_rfl, ?ya4⟩) (by assumption) ?ra4
    case ya4 => (intro wq hSw; (try dsimp only at hSw); go_simp; (try with_reducible rfl))
    (try simp only [Act.put, List.getElem_toArray, List.getElem_cons_succ, List.getElem_cons_zero, List.setIfInBounds_toArray, List.set_cons_zero, List.set_cons_succ])
    refine wpAnyH_take (i := 5) (v := ?va5) rfl (by kernel_rfl) (by kernel_rfl) (by kernel_rfl) (fun _ _ _ h => h) (Or.inl ⟨by kernel_rfl, ?ya5⟩) (by assumption) ?ra5
    case ya5 => (intro wq hSw; (try dsimp only at hSw); go_simp; (try with_reducible rfl))
    (try simp only [Act.put, List.getElem_toArray, List.getElem_cons_succ, List.getElem_cons_zero, List.setIfInBounds_toArray, List.set_cons_zero, List.set_cons_succ])
    refine wpAnyH_ready (rs := [6]) (by kernel_rfl) (by simp) ?_
    refine AllReadyH.cons rfl (fun K hK => ?_) AllReadyH.nil
    go_simp
    refine (HC.out).mono ?_
    rintro e3 w3 ⟨⟨cv, kg, C, rfl, hTC, hO⟩, hb⟩; have P3 := P2.drew.made hb hO; have TC := Lib.hid hTC; clear hTC hO hb
    (try dsimp only)
    refine hK.out _ _ (by trivial) (fun hHeld => ?_)
    clear hK K
    (try simp only [Act.put, List.getElem_toArray, List.getElem_cons_succ, List.getElem_cons_zero, List.setIfInBounds_toArray, List.set_cons_zero, List.set_cons_succ])
    refine wpAnyH_take (i := 7) (v := ?va7) rfl (by kernel_rfl) (by kernel_rfl) (by kernel_rfl) (fun _ _ _ h => h) (Or.inl ⟨by kernel_rfl, ?ya7⟩) (by assumption) ?ra7
    case ya7 => (intro wq hSw; (try dsimp only at hSw); go_simp; (try with_reducible rfl))
    (try simp only [Act.put, List.getElem_toArray, List.getElem_cons_succ, List.getElem_cons_zero, List.setIfInBounds_toArray, List.set_cons_zero, List.set_cons_succ])
    refine wpAnyH_take (i := 8) (v := ?va8) rfl (by kernel_rfl) (by kernel_rfl) (by kernel_rfl) (fun _ _ _ h => h) (Or.inl ⟨by kernel_rfl, ?ya8⟩) (by assumption) ?ra8
    case ya8 => (intro wq hSw; (try dsimp only at hSw); go_simp; (try with_reducible rfl))
    (try simp only [Act.put, List.getElem_toArray, List.getElem_cons_succ, List.getElem_cons_zero, List.setIfInBounds_toArray, List.set_cons_zero, List.set_cons_succ])
    refine wpAnyH_take (i := 9) (v := ?va9) rfl (by kernel_rfl) (by kernel_rfl) (by kernel_rfl) (fun _ _ _ h => h) (Or.inl ⟨by kernel_rfl, ?ya9⟩) (by assumption) ?ra9
    case ya9 => (intro wq hSw; (try dsimp only at hSw); go_simp; (try with_reducible rfl))
    (try simp only [Act.put, List.getElem_toArray, List.getElem_cons_succ, List.getElem_cons_zero, List.setIfInBounds_toArray, List.set_cons_zero, List.set_cons_succ])
    refine wpAnyH_take (i := 10) (v := ?va10) rfl (by kernel_rfl) (by kernel_rfl) (by kernel_rfl) (fun _ _ _ h => h) (Or.inl ⟨by kernel_rfl, ?ya10⟩) (by assumption) ?ra10
    case ya10 => (intro wq hSw; (try dsimp only at hSw); go_simp; (try with_reducible rfl))
    (try simp only [Act.put, List.getElem_toArray, List.getElem_cons_succ, List.getElem_cons_zero, List.setIfInBounds_toArray, List.set_cons_zero, List.set_cons_succ])
    refine wpAnyH_take (i := 11) (v := ?va11) rfl (by kernel_rfl) (by kernel_rfl) (by kernel_rfl) (fun _ _ _ h => h) (Or.inl ⟨by kernel_rfl, ?ya11⟩) (by assumption) ?ra11
    case ya11 => (intro wq hSw; (try dsimp only at hSw); go_simp; (try with_reducible rfl))
    (try simp only [Act.put, List.getElem_toArray, List.getElem_cons_succ, List.getElem_cons_zero, List.setIfInBounds_toArray, List.set_cons_zero, List.set_cons_succ])
    refine wpAnyH_done (by kernel_rfl) ?_ _
    refine NoPanic.normal ?_
    clear hHeld hq HC
    clear hk hkn hkn1 hkc1 hkn2 hkc2 hn0' hn0 hn256 ht2 hc hla
    obtain ⟨rfl, rfl⟩ := one_pure1 TA.out TB.out
    obtain ⟨rfl, rfl⟩ := one_pure2 TA.out TC.out
    have HS := Lib.hid (show sameL C C = true from (sameL_iff _ _).2 rfl)
    have HLS := Lib.hid (show C.length ≤ 1073741824 by rw [← HMA.out]; have := HA1.out; omega)
    have hm1 : m ≤ 256 := HA1.out
    go_upto_region 9 with (first
      | (go_at_call 15; have g0 := P3.get 2 rfl; have g1 := P3.get 1 rfl; (with_reducible refine (rfSame_c (.slice pa m ca) bv C C _ g0 g1 HLS.out).mono ?_); rintro e4 w4 ⟨rfl, hb⟩; have P4 := P3.next hb; clear hb P3 g0 g1; rw [HS.out])
      | (go_at_call 15; have g0 := P4.get 2 rfl; have g1 := P4.get 0 rfl; (with_reducible refine (rfSame_c (.slice pa m ca) cv C C _ g0 g1 HLS.out).mono ?_); rintro e5 w5 ⟨rfl, hb⟩; have P5 := P4.next hb; clear hb P4 g0 g1; rw [HS.out]))
    go_wp2_with fail
    have P6 : Stt w [(.slice pa m ca, C)] w5 := ⟨fun p hp => by rw [List.mem_singleton.1 hp]; exact P5.get 2 rfl, P5.2⟩
    clear P5
    go_loopw [12, 13, 14] (fun z a b wr => ∃ i : Nat, i ≤ m ∧ z = .int .i64 i ∧ Stt w [(.slice pa m ca, C)] wr) (fun z _ _ _ => m - (intOf z).toNat)
    case atStart => exact ⟨0, Nat.zero_le _, rfl, P6⟩
    case round =>
      obtain ⟨i, hi, rfl, P5⟩ := hrel
      clear P6
      by_cases hlt : i < m
      · obtain ⟨r, hr⟩ : ∃ r, C[i]? = some r := ⟨_, List.getElem?_eq_getElem (by rw [← HMA.out]; exact hlt)⟩
        have HPR := Lib.hid (fun (kh : Int) (M : List Rc) (h : Told rlI [r] (C.take i) kh M) => one_pure3 TA.out hr h)
        have HM := Lib.hid (inter_t _ _ [r] (C.take i) wr.drew (RdK.at_one (P5.drew.get 0 rfl) HMA.out hr HCA.out (m := 1) (c' := ca - i) rfl) (RdK.head (P5.drew.get 0 rfl) HMA.out hi (c' := ca)) (by simp) (by have := HLS.out; rw [List.length_take]; omega))
        obtain ⟨q, hq⟩ : ∃ q, (if ca = i then pa else Option.map (fun x => x.add (i * 4)) pa) = q := ⟨_, rfl⟩
        rw [hq] at HM
        have hc0 := HCA.out
        have hi0 : (0 : Int) ≤ (i : Int) := by omega
        have hi1 : (i : Int) < (m : Int) := by omega
        have hi2 : i ≤ i + 1 := by omega
        have hi3 : i + 1 ≤ m := by omega
        have hi4 : i + 1 ≤ ca := by omega
        have hi5 : i ≤ ca := by omega
        have hi6 : i ≤ m := by omega
        have hw1 : IntKind.i64.wrap ((i : Int) + 1) = (i : Int) + 1 := IntWalk.i64_in _ (by omega)
        have hw2 : ((i : Int) + 1).toNat = i + 1 := by omega
        have hw3 : (0 : Int) ≤ (i : Int) + 1 := by omega
        have hw4 : (i : Int) + 1 ≤ (ca : Int) := by omega
        have hw5 : (i : Int) ≤ (m : Int) := by omega
        have hw6 : (i : Int) ≤ (ca : Int) := by omega
        clear hr
        go_upto_region 12 with fail
        refine wp_region_noPanic ?_
        refine wp_region_held_drew (S := fun _ => True) (by kernel_rfl) (by trivial) (fun hHeld => ?_)
        refine wpAnyH_take (i := 0) (v := ?vb0) rfl (by kernel_rfl) (by kernel_rfl) (by kernel_rfl) (fun _ _ _ h => h) (Or.inl ⟨by kernel_rfl, ?yb0⟩) (by assumption) ?rb0
        case yb0 => (intro wq hSw; (try dsimp only at hSw); go_simp; (try with_reducible rfl))
        (try simp only [Act.put, List.getElem_toArray, List.getElem_cons_zero, List.setIfInBounds_toArray, List.set_cons_zero, List.set_cons_succ])
        refine wpAnyH_take (i := 1) (v := ?vb1) rfl (by kernel_rfl) (by kernel_rfl) (by kernel_rfl) (fun _ _ _ h => h) (Or.inl ⟨by kernel_rfl, ?yb1⟩) (by assumption) ?rb1
        case yb1 => (intro wq hSw; (try dsimp only at hSw); go_simp; (try with_reducible rfl))
        (try simp only [Act.put, List.getElem_toArray, List.getElem_cons_succ, List.getElem_cons_zero, List.setIfInBounds_toArray, List.set_cons_zero, List.set_cons_succ])
        refine wpAnyH_take (i := 2) (v := ?vb2) rfl (by kernel_rfl) (by kernel_rfl) (by kernel_rfl) (fun _ _ _ h => h) (Or.inl ⟨by kernel_rfl, ?yb2⟩) (by assumption) ?rb2
        case yb2 => (intro wq hSw; (try dsimp only at hSw); go_simp; (try with_reducible rfl))
        (try simp only [Act.put, List.getElem_toArray, List.getElem_cons_succ, List.getElem_cons_zero, List.setIfInBounds_toArray, List.set_cons_zero, List.set_cons_succ])
        refine wpAnyH_take (i := 3) (v := ?vb3) rfl (by kernel_rfl) (by kernel_rfl) (by kernel_rfl) (fun _ _ _ h => h) (Or.inl ⟨by kernel_rfl, ?yb3⟩) (by assumption) ?rb3
        case yb3 => (intro wq hSw; (try dsimp only at hSw); go_simp; (try with_reducible rfl))
        (try simp only [Act.put, List.getElem_toArray, List.getElem_cons_succ, List.getElem_cons_zero, List.setIfInBounds_toArray, List.set_cons_zero, List.set_cons_succ])
        refine wpAnyH_take (i := 4) (v := ?vb4) rfl (by kernel_rfl) (by kernel_rfl) (by kernel_rfl) (fun _ _ _ h => h) (Or.inl ⟨by kernel_rfl, ?yb4⟩) (by assumption) ?rb4
        case yb4 => (intro wq hSw; (try dsimp only at hSw); go_simp; (try with_reducible rfl))
        (try simp only [Act.put, List.getElem_toArray, List.getElem_cons_succ, List.getElem_cons_zero, List.setIfInBounds_toArray, List.set_cons_zero, List.set_cons_succ])
        refine wpAnyH_take (i := 5) (v := ?vb5) rfl (by kernel_rfl) (by kernel_rfl) (by kernel_rfl) (fun _ _ _ h => h) (Or.inl ⟨by kernel_rfl, ?yb5⟩) (by assumption) ?rb5
        case yb5 => (intro wq hSw; (try dsimp only at hSw); go_simp; (try with_reducible rfl))
        (try simp only [Act.put, List.getElem_toArray, List.getElem_cons_succ, List.getElem_cons_zero, List.setIfInBounds_toArray, List.set_cons_zero, List.set_cons_succ])
        refine wpAnyH_take (i := 6) (v := ?vb6) rfl (by kernel_rfl) (by kernel_rfl) (by kernel_rfl) (fun _ _ _ h => h) (Or.inl ⟨by kernel_rfl, ?yb6⟩) (by assumption) ?rb6
        case yb6 => (intro wq hSw; (try dsimp only at hSw); go_simp; (try with_reducible rfl))
        (try simp only [Act.put, List.getElem_toArray, List.getElem_cons_succ, List.getElem_cons_zero, List.setIfInBounds_toArray, List.set_cons_zero, List.set_cons_succ])
        refine wpAnyH_take (i := 7) (v := ?vb7) rfl (by kernel_rfl) (by kernel_rfl) (by kernel_rfl) (fun _ _ _ h => h) (Or.inl ⟨by kernel_rfl, ?yb7⟩) (by assumption) ?rb7
        case yb7 => (intro wq hSw; (try dsimp only at hSw); go_simp; (try with_reducible rfl))
        (try simp only [Act.put, List.getElem_toArray, List.getElem_cons_succ, List.getElem_cons_zero, List.setIfInBounds_toArray, List.set_cons_zero, List.set_cons_succ])
        refine wpAnyH_ready (rs := [8]) (by kernel_rfl) (by simp) ?_
        refine AllReadyH.cons rfl (fun K hK => ?_) AllReadyH.nil
        go_simp
        refine (HM.out).mono ?_
        rintro e5 w5 ⟨⟨mv, kh, M, rfl, hTM, hO⟩, hb⟩; have P6 := P5.drew.next hb; obtain ⟨pm, cm, rfl⟩ := hO.slice; have TM := Lib.hid hTM; clear hTM hO hb
        (try dsimp only)
        refine hK.out _ _ (by trivial) (fun hHeld => ?_)
        clear hK K
        (try simp only [Act.put, List.getElem_toArray, List.getElem_cons_succ, List.getElem_cons_zero, List.setIfInBounds_toArray, List.set_cons_zero, List.set_cons_succ])
        refine wpAnyH_take (i := 9) (v := ?vb9) rfl (by kernel_rfl) (by kernel_rfl) (by kernel_rfl) (fun _ _ _ h => h) (Or.inl ⟨by kernel_rfl, ?yb9⟩) (by assumption) ?rb9
        case yb9 => (intro wq hSw; (try dsimp only at hSw); go_simp; (try with_reducible rfl))
        (try simp only [Act.put, List.getElem_toArray, List.getElem_cons_succ, List.getElem_cons_zero, List.setIfInBounds_toArray, List.set_cons_zero, List.set_cons_succ])
        refine wpAnyH_take (i := 10) (v := ?vb10) rfl (by kernel_rfl) (by kernel_rfl) (by kernel_rfl) (fun _ _ _ h => h) (Or.inl ⟨by kernel_rfl, ?yb10⟩) (by assumption) ?rb10
        case yb10 => (intro wq hSw; (try dsimp only at hSw); go_simp; (try with_reducible rfl))
        (try simp only [Act.put, List.getElem_toArray, List.getElem_cons_succ, List.getElem_cons_zero, List.setIfInBounds_toArray, List.set_cons_zero, List.set_cons_succ])
        refine wpAnyH_take (i := 11) (v := ?vb11) rfl (by kernel_rfl) (by kernel_rfl) (by kernel_rfl) (fun _ _ _ h => h) (Or.inl ⟨by kernel_rfl, ?yb11⟩) (by assumption) ?rb11
        case yb11 => (intro wq hSw; (try dsimp only at hSw); go_simp; (try with_reducible rfl))
        (try simp only [Act.put, List.getElem_toArray, List.getElem_cons_succ, List.getElem_cons_zero, List.setIfInBounds_toArray, List.set_cons_zero, List.set_cons_succ])
        refine wpAnyH_take (i := 12) (v := ?vb12) rfl (by kernel_rfl) (by kernel_rfl) (by kernel_rfl) (fun _ _ _ h => h) (Or.inl ⟨by kernel_rfl, ?yb12⟩) (by assumption) ?rb12
        case yb12 => (intro wq hSw; (try dsimp only at hSw); go_simp; (try with_reducible rfl))
        (try simp only [Act.put, List.getElem_toArray, List.getElem_cons_succ, List.getElem_cons_zero, List.setIfInBounds_toArray, List.set_cons_zero, List.set_cons_succ])
        refine wpAnyH_take (i := 13) (v := ?vb13) rfl (by kernel_rfl) (by kernel_rfl) (by kernel_rfl) (fun _ _ _ h => h) (Or.inl ⟨by kernel_rfl, ?yb13⟩) (by assumption) ?rb13
        case yb13 => (intro wq hSw; (try dsimp only at hSw); go_simp; (try with_reducible rfl))
        (try simp only [Act.put, List.getElem_toArray, List.getElem_cons_succ, List.getElem_cons_zero, List.setIfInBounds_toArray, List.set_cons_zero, List.set_cons_succ])
        refine wpAnyH_done (by kernel_rfl) ?_ _
        refine NoPanic.normal ?_
        clear hHeld hq HM
        obtain ⟨rfl, rfl⟩ := HPR.out _ _ TM.out
        go_wp2_with fail
        go_roundw
        case rel => exact ⟨i + 1, by omega, by go_num, P6⟩
        case measure => simp [intOf]; omega
      · obtain rfl : i = m := by omega
        go_wp2_with (go_at_call 10; (with_reducible refine (awake_c _).mono ?_); rintro e7 w7 ⟨rfl, hb⟩; have P7 := P5.next hb; clear hb P5)
        go_ret
        exact ⟨rfl, P7.2⟩
  · have hk3 : ke ≠ 0 ∨ (ke = 0 ∧ n = 0) := by omega
    clear hk
    rcases hk3 with hk | ⟨rfl, rfl⟩
    all_goals
      go_wp2_with (go_at_call 10; (with_reducible refine (awake_c _).mono ?_); rintro e7 w7 ⟨rfl, hb⟩; have P7 := P1.next hb; clear hb P1)
      go_ret
      exact ⟨rfl, P7.2⟩
end Go.Proofs.Ytfabknabkcfpjaa
