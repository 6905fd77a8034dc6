/- The document's Turn, Touch. The document's Wrap. The document's Find, and where its way lies. The document's Swap. -/
import Derived.Test.YtbbmfpdlkogkfaaKX
import Derived.Test.YtbbmfpdlkogkfaaCpY
import Derived.Test.YtbbmfpdlkogkfaaCpX
section
namespace Go.Proofs.Ytbbmfpdlkogkfaa.Co
open Go.RowKit Go.Shelf Go.Maps
theorem chgI_asked {x : Con} {c q : Int} {F : Con → List Nat → Con × Int} (hq : q = askedI x c) (h0 : ¬ q = 0) : chgI x c F = (zeroT, q) := by
  unfold askedI at hq
  by_cases ht : treeB x = false
  · rw [if_pos ht] at hq
    unfold chgI; rw [if_pos ht, hq]
  · rw [if_neg ht] at hq
    by_cases hh : hasB x c = false
    · rw [if_pos hh] at hq
      rw [chgI_none (by simpa using ht) hh, hq]
    · rw [if_neg hh] at hq; exact absurd hq h0
set_option maxHeartbeats 4000000 in
theorem TurnR_c (c k : Int) (x : Con) (Z : Nat → Prop) (sv : Value) (w : World) (hK : KV w Z x.ks sv) (hZ : ∀ b, Z b → b < w.heap.size) (hd : (all x).length ≤ 1000000) (hf : fine x) :
    Calls Try.prog 40 #[conV x.a sv, .int .i64 c, .int .i64 k] w (DocR Z (turnI x c k) w) := by
  obtain ⟨p, cap, rfl, -⟩ := hK.slice
  obtain ⟨m, hm⟩ : ∃ m, m = x.ks.length := ⟨_, rfl⟩
  rw [← hm] at hK ⊢
  obtain ⟨R, hR⟩ : ∃ R, R = DocR Z (turnI x c k) w := ⟨_, rfl⟩
  have hRe : ∀ e w', R e w' ↔ DocR Z (turnI x c k) w e w' := by rw [hR]; exact fun _ _ => Iff.rfl
  rw [← hR]
  have HA := Lib.hid (fun (W : World) (h : Below w.heap.size w W) => asked_c Z x (.slice p m cap) c W (hK.next h) hd (fun b hb => Nat.lt_of_lt_of_le (hZ b hb) h.size))
  have HF := Lib.hid (fun (W : World) (h : Below w.heap.size w W) => FindR_c Z x (.slice p m cap) c W (hK.next h) hd (fun b hb => Nat.lt_of_lt_of_le (hZ b hb) h.size))
  have hat := askedI_tree (x := x) (c := c)
  obtain ⟨wB, hwB⟩ : ∃ wB, wB = (w.alloc (.cells #[.int .i64 x.a.k, .int .i64 x.a.w, .int .i64 x.a.c, .int .i64 x.a.s, .slice p m cap] 24)).alloc (.cells #[.int .i64 0, .int .i64 0, .int .i64 0, .int .i64 0, .slice none 0 0] 24) := ⟨_, rfl⟩
  have hb0 : Below w.heap.size w wB := by rw [hwB]; exact ((Below.refl w.heap.size w).alloc (Nat.le_refl _) _).alloc (by simp) _
  have hq1 : Blk wB w.heap.size 24 #[.int .i64 x.a.k, .int .i64 x.a.w, .int .i64 x.a.c, .int .i64 x.a.s, .slice p m cap] := by rw [hwB]; exact (Blk.new w 24 _).alloc _
  have hq2 : Blk wB (w.heap.size + 1) 24 #[.int .i64 0, .int .i64 0, .int .i64 0, .int .i64 0, .slice none 0 0] := by
    rw [hwB]; have := Blk.new (w.alloc (.cells #[.int .i64 x.a.k, .int .i64 x.a.w, .int .i64 x.a.c, .int .i64 x.a.s, .slice p m cap] 24)) 24 #[.int .i64 0, .int .i64 0, .int .i64 0, .int .i64 0, .slice none 0 0]; rwa [World.size_alloc] at this
  have HB := Lib.hid hb0
  have HQ1 := Lib.hid hq1
  have HQ2 := Lib.hid hq2
  have HWB := Lib.hid hwB
  have HZ := Lib.hid hZ
  have HS1 : Hid (w.heap.size + 1 + 1 ≤ wB.heap.size) := hq2.lt
  obtain ⟨q9, hq9⟩ : ∃ q, q = askedI x c := ⟨_, rfl⟩
  rw [← hq9] at HA hat
  by_cases hg : k < 1 ∨ 4 < k
  · rw [show turnI x c k = (zeroT, 1) by unfold turnI; rw [if_neg (by unfold splitB; simp; omega)]] at hRe
    have HR := Lib.hid hRe
    obtain ⟨⟨b0, b1, b2, b3, b4⟩, -⟩ := c5 hq2
    have hkz : KV wB (fun b => Z b ∨ w.heap.size ≤ b) [] (.slice none 0 0) := KV.nil wB _ none 0
    clear hR hRe hK hZ hd hf hwB hb0 hq1 hq2 hm hat hq9
    rcases (show k < 1 ∨ (¬ k < 1 ∧ 4 < k) by omega) with hg1 | ⟨hg1, hg2⟩
    all_goals
      show Calls Try.prog 40 #[.agg #[.int .i64 x.a.k, .int .i64 x.a.w, .int .i64 x.a.c, .int .i64 x.a.s, .slice p m cap], .int .i64 c, .int .i64 k] w R
      go_enter Try.func40, Try.ntmps40
      go_wp2_with fail
      rw [← HWB.out]
      exact bodyPost_ret (v := .tuple #[.agg #[.int .i64 0, .int .i64 0, .int .i64 0, .int .i64 0, .slice none 0 0], .int .i64 1]) (by simp [results, Try.results40, go_sem, b0, b1, b2, b3, b4]) rfl ((HR.out _ _).2 ⟨HB.out, zeroT, .slice none 0 0, rfl, hkz, rfl⟩)
  · by_cases h0 : q9 = 0
    · subst h0
      have hsp : splitB k = true := by unfold splitB; simp; omega
      obtain ⟨htr, hhb⟩ := hat rfl
      rcases findI_spec (c := c) htr with ⟨h9, _⟩ | ⟨_, u, hu, hfi⟩
      · rw [hhb] at h9; cases h9
      · obtain ⟨v, j, pp, y, rfl, hgp, hgy, hy0, hyc, hgl⟩ := id hu
        rw [show turnI x c k = (put x v (.mk { pp.a with k := k } pp.ks), 0) by unfold turnI; rw [if_pos hsp, chgI_some htr hu]; unfold turnF; rw [List.dropLast_concat, hgp]] at hRe
        have HR := Lib.hid hRe
        have HFI := Lib.hid hfi
        have hpw := (hf v pp hgp).1
        have HAT := Lib.hid (fun (W : World) (h : Below w.heap.size w W) (vv : Value) (hv : WI W v vv) => At_c Z x pp (.slice p m cap) v vv W (hK.next h) (fun b hb => Nat.lt_of_lt_of_le (hZ b hb) h.size) hv hgp)
        have HPU := Lib.hid (fun (W : World) (h : Below w.heap.size w W) (s vv : Value) (hs : KV W Z pp.ks s) (hv : WI W v vv) => Put_c (.mk { pp.a with k := k } pp.ks) s (by refine ⟨⟨?_, ?_⟩, hpw.2.1, hpw.2.2.1, hpw.2.2.2⟩ <;> simp only [Tr.a_mk] <;> omega) v Z x pp (.slice p m cap) vv W (fun b hb => Nat.lt_of_lt_of_le (hZ b hb) h.size) (hK.next h) hs hv hgp hf)
        have hg1 : 1 ≤ k := by omega
        have hg4 : k ≤ 4 := by omega
        clear hR hRe hK hZ hd hf hwB hb0 hq1 hq2 hm hat hq9 hu hfi htr hhb hgy hy0 hyc hgl hgp hg hsp hpw
        show Calls Try.prog 40 #[.agg #[.int .i64 x.a.k, .int .i64 x.a.w, .int .i64 x.a.c, .int .i64 x.a.s, .slice p m cap], .int .i64 c, .int .i64 k] w R
        go_enter Try.func40, Try.ntmps40
        go_wp2_with fail
        rw [← HWB.out]
        refine (HA.out wB HB.out).mono ?_
        rintro e w1 ⟨rfl, hb⟩
        have HB1 := Lib.hid (HB.out.trans (hb.mono HB.out.size))
        have HQ3 := Lib.hid (HQ1.out.next hb)
        have HQ4 := Lib.hid (HQ2.out.next hb)
        obtain ⟨⟨q0, q1, q2, q3, q4⟩, -⟩ := c5 HQ3.out
        clear hb
        go_wp2_with fail
        refine (HF.out w1 HB1.out).mono ?_
        rintro e w2 ⟨hb, ⟨hn, -⟩ | ⟨u2, vw, hfi2, rfl, hwi⟩⟩
        · rw [HFI.out] at hn; cases hn
        rw [HFI.out] at hfi2
        have hfi2 := Option.some.inj hfi2
        subst hfi2
        obtain ⟨pw, cw, rfl, hl6, hlc⟩ := hwi.slice
        have HB2 := Lib.hid (HB1.out.trans (hb.mono HB1.out.size))
        have HQ5 := Lib.hid (HQ3.out.next hb)
        have HQ6 := Lib.hid (HQ4.out.next hb)
        clear q0 q1 q2 q3 q4
        obtain ⟨⟨q0, q1, q2, q3, q4⟩, -⟩ := c5 HQ5.out
        rw [show (v ++ [j]).length = v.length + 1 by simp] at hwi hl6 hlc ⊢
        obtain ⟨n, hn⟩ : ∃ n, n = v.length := ⟨_, rfl⟩
        rw [← hn] at hwi hl6 hlc ⊢
        have HN := Lib.hid hn
        have HWI := Lib.hid hwi
        have HWV : Hid (WI w2 v (.slice pw n cw)) := by have := hwi.take (k := n) (Nat.le_succ n); rw [show (v ++ [j]).take n = v by rw [hn, List.take_left]] at this; exact this
        clear hb hn hwi
        go_wp2_with fail
        refine (HAT.out w2 HB2.out _ HWV.out).mono ?_
        rintro e w3 ⟨hb, s3, rfl, hk3⟩
        obtain ⟨p3, c3, rfl, -⟩ := hk3.slice
        obtain ⟨n3, hn3⟩ : ∃ q, q = pp.ks.length := ⟨_, rfl⟩
        rw [← hn3] at hk3 ⊢
        have HB3 := Lib.hid (HB2.out.trans (hb.mono HB2.out.size))
        have HQ7 := Lib.hid (HQ5.out.next hb)
        have HQ8 := Lib.hid (HQ6.out.next hb)
        have HW3 := Lib.hid (HWI.out.next hb)
        have HV3 := Lib.hid (HWV.out.next hb)
        have HK3 := Lib.hid hk3
        clear hb hk3 hn3 q0 q1 q2 q3 q4
        obtain ⟨⟨q0, q1, q2, q3, q4⟩, -⟩ := c5 HQ7.out
        have hlb := HQ7.out.lt
        go_wp2_with fail
        clear hlb
        have hwv := HV3.out
        have hbP := HB3.out.alloc HB3.out.size (.cells #[.int .i64 k, .int .i64 pp.a.w, .int .i64 pp.a.c, .int .i64 pp.a.s, .slice p3 n3 c3] 24)
        have hbW := (Below.refl w3.heap.size w3).alloc (Nat.le_refl _) (.cells #[.int .i64 k, .int .i64 pp.a.w, .int .i64 pp.a.c, .int .i64 pp.a.s, .slice p3 n3 c3] 24)
        obtain ⟨wP, hwP⟩ : ∃ wP, wP = w3.alloc (.cells #[.int .i64 k, .int .i64 pp.a.w, .int .i64 pp.a.c, .int .i64 pp.a.s, .slice p3 n3 c3] 24) := ⟨_, rfl⟩
        rw [← hwP] at hbP hbW ⊢
        refine (HPU.out wP hbP _ _ (HK3.out.next hbW) (hwv.next hbW)).mono ?_
        rintro e w6 ⟨hb, s6, rfl, hk6⟩
        obtain ⟨p6, c6, rfl, -⟩ := hk6.slice
        obtain ⟨Y, hY⟩ : ∃ Y, Y = (put x v (.mk { pp.a with k := k } pp.ks)) := ⟨_, rfl⟩
        rw [← hY] at hk6 ⊢
        have HY := Lib.hid hY
        obtain ⟨n6, hn6⟩ : ∃ q, q = Y.ks.length := ⟨_, rfl⟩
        rw [← hn6] at hk6 ⊢
        have HB6 := Lib.hid (hbP.trans (hb.mono hbP.size))
        have HQ9 := Lib.hid ((HQ8.out.next hbW).next hb)
        have HK6 := Lib.hid hk6
        have HSP : Hid (w.heap.size + 1 + 1 ≤ wP.heap.size) := (HQ8.out.next hbW).lt
        obtain ⟨⟨r0, r1, r2, r3, r4⟩, ⟨f0, f1, f2, f3, f4⟩⟩ := c5 HQ9.out
        clear hb hk6 hn6 hY hbP hbW hwP q0 q1 q2 q3 q4
        go_wp2_with fail
        obtain ⟨hb5, hq5, -⟩ := st5_next HB6.out (by omega) HQ9.out (.int .i64 Y.a.k) (.int .i64 Y.a.w) (.int .i64 Y.a.c) (.int .i64 Y.a.s) (.slice p6 n6 c6)
        have hk5 := KV.st5 (g := w.heap.size + 1) (Z' := fun b => Z b ∨ w.heap.size ≤ b) HK6.out (fun b hb => by rcases hb with hb | hb; (have := HZ.out b hb; omega); (have := HSP.out; omega)) (fun b hb => by rcases hb with hb | hb; exact .inl hb; (right; have := HSP.out; omega)) (.int .i64 Y.a.k) (.int .i64 Y.a.w) (.int .i64 Y.a.c) (.int .i64 Y.a.s) (.slice p6 n6 c6)
        obtain ⟨w5, hw5⟩ : ∃ w5, w5 = st5 w6 (w.heap.size + 1) (.int .i64 Y.a.k) (.int .i64 Y.a.w) (.int .i64 Y.a.c) (.int .i64 Y.a.s) (.slice p6 n6 c6) := ⟨_, rfl⟩
        rw [← hw5] at hb5 hq5 hk5
        unfold st5 at hw5
        rw [← hw5]
        obtain ⟨⟨b0, b1, b2, b3, b4⟩, -⟩ := c5 hq5
        exact bodyPost_ret (v := .tuple #[.agg #[.int .i64 Y.a.k, .int .i64 Y.a.w, .int .i64 Y.a.c, .int .i64 Y.a.s, .slice p6 n6 c6], .int .i64 0]) (by simp [results, Try.results40, go_sem, b0, b1, b2, b3, b4]) rfl ((HR.out _ _).2 ⟨hb5, Y, .slice p6 n6 c6, rfl, hk5, (by rw [if_pos rfl, HY.out])⟩)
    · rw [show turnI x c k = (zeroT, q9) by unfold turnI; rw [if_pos (by unfold splitB; simp; omega)]; exact chgI_asked hq9 h0] at hRe
      have HR := Lib.hid hRe
      have hne : (q9 == 0) = false := by simpa using h0
      have HN0 := Lib.hid h0
      have hg1 : ¬ k < 1 := by omega
      have hg4 : ¬ 4 < k := by omega
      clear hg
      clear hR hRe hK hZ hd hf hwB hb0 hq1 hq2 hm hat hq9
      show Calls Try.prog 40 #[.agg #[.int .i64 x.a.k, .int .i64 x.a.w, .int .i64 x.a.c, .int .i64 x.a.s, .slice p m cap], .int .i64 c, .int .i64 k] w R
      go_enter Try.func40, Try.ntmps40
      go_wp2_with fail
      rw [← HWB.out]
      refine (HA.out wB HB.out).mono ?_
      rintro e w1 ⟨rfl, hb⟩
      have HB1 := Lib.hid (HB.out.trans (hb.mono HB.out.size))
      have HQ3 := Lib.hid (HQ2.out.next hb)
      obtain ⟨⟨q0, q1, q2, q3, q4⟩, -⟩ := c5 (HQ1.out.next hb)
      clear hb
      go_wp2_with fail
      refine (HA.out w1 HB1.out).mono ?_
      rintro e w2 ⟨rfl, hb⟩
      have HB2 := Lib.hid (HB1.out.trans (hb.mono HB1.out.size))
      have HQ4 := Lib.hid (HQ3.out.next hb)
      obtain ⟨⟨r0, r1, r2, r3, r4⟩, ⟨f0, f1, f2, f3, f4⟩⟩ := c5 HQ4.out
      clear hb q0 q1 q2 q3 q4
      go_wp2_with fail
      obtain ⟨hb5, hq5, -⟩ := st5_next HB2.out (by omega) HQ4.out (.int .i64 0) (.int .i64 0) (.int .i64 0) (.int .i64 0) (.slice none 0 0)
      have hk5 := KV.st5 (g := w.heap.size + 1) (Z' := fun b => Z b ∨ w.heap.size ≤ b) (KV.nil w2 Z none 0) (fun b hb => by have := HZ.out b hb; omega) (fun b hb => .inl hb) (.int .i64 0) (.int .i64 0) (.int .i64 0) (.int .i64 0) (.slice none 0 0)
      obtain ⟨w5, hw5⟩ : ∃ w5, w5 = st5 w2 (w.heap.size + 1) (.int .i64 0) (.int .i64 0) (.int .i64 0) (.int .i64 0) (.slice none 0 0) := ⟨_, rfl⟩
      rw [← hw5] at hb5 hq5 hk5
      unfold st5 at hw5
      rw [← hw5]
      obtain ⟨⟨b0, b1, b2, b3, b4⟩, -⟩ := c5 hq5
      exact bodyPost_ret (v := .tuple #[.agg #[.int .i64 0, .int .i64 0, .int .i64 0, .int .i64 0, .slice none 0 0], .int .i64 q9]) (by simp [results, Try.results40, go_sem, b0, b1, b2, b3, b4]) rfl ((HR.out _ _).2 ⟨hb5, zeroT, .slice none 0 0, rfl, hk5, (by rw [if_neg HN0.out])⟩)
set_option maxHeartbeats 4000000 in
theorem TouchR_c (c k : Int) (x : Con) (Z : Nat → Prop) (sv : Value) (w : World) (hK : KV w Z x.ks sv) (hZ : ∀ b, Z b → b < w.heap.size) (hd : (all x).length ≤ 1000000) (hf : fine x) (hk : I64 k) :
    Calls Try.prog 42 #[conV x.a sv, .int .i64 c, .int .i64 k] w (DocR Z (touchI x c k) w) := by
  obtain ⟨p, cap, rfl, -⟩ := hK.slice
  obtain ⟨m, hm⟩ : ∃ m, m = x.ks.length := ⟨_, rfl⟩
  rw [← hm] at hK ⊢
  obtain ⟨R, hR⟩ : ∃ R, R = DocR Z (touchI x c k) w := ⟨_, rfl⟩
  have hRe : ∀ e w', R e w' ↔ DocR Z (touchI x c k) w e w' := by rw [hR]; exact fun _ _ => Iff.rfl
  rw [← hR]
  have HA := Lib.hid (fun (W : World) (h : Below w.heap.size w W) => asked_c Z x (.slice p m cap) c W (hK.next h) hd (fun b hb => Nat.lt_of_lt_of_le (hZ b hb) h.size))
  have HF := Lib.hid (fun (W : World) (h : Below w.heap.size w W) => FindR_c Z x (.slice p m cap) c W (hK.next h) hd (fun b hb => Nat.lt_of_lt_of_le (hZ b hb) h.size))
  have hat := askedI_tree (x := x) (c := c)
  obtain ⟨wB, hwB⟩ : ∃ wB, wB = (w.alloc (.cells #[.int .i64 x.a.k, .int .i64 x.a.w, .int .i64 x.a.c, .int .i64 x.a.s, .slice p m cap] 24)).alloc (.cells #[.int .i64 0, .int .i64 0, .int .i64 0, .int .i64 0, .slice none 0 0] 24) := ⟨_, rfl⟩
  have hb0 : Below w.heap.size w wB := by rw [hwB]; exact ((Below.refl w.heap.size w).alloc (Nat.le_refl _) _).alloc (by simp) _
  have hq1 : Blk wB w.heap.size 24 #[.int .i64 x.a.k, .int .i64 x.a.w, .int .i64 x.a.c, .int .i64 x.a.s, .slice p m cap] := by rw [hwB]; exact (Blk.new w 24 _).alloc _
  have hq2 : Blk wB (w.heap.size + 1) 24 #[.int .i64 0, .int .i64 0, .int .i64 0, .int .i64 0, .slice none 0 0] := by
    rw [hwB]; have := Blk.new (w.alloc (.cells #[.int .i64 x.a.k, .int .i64 x.a.w, .int .i64 x.a.c, .int .i64 x.a.s, .slice p m cap] 24)) 24 #[.int .i64 0, .int .i64 0, .int .i64 0, .int .i64 0, .slice none 0 0]; rwa [World.size_alloc] at this
  have HB := Lib.hid hb0
  have HQ1 := Lib.hid hq1
  have HQ2 := Lib.hid hq2
  have HWB := Lib.hid hwB
  have HZ := Lib.hid hZ
  have HS1 : Hid (w.heap.size + 1 + 1 ≤ wB.heap.size) := hq2.lt
  obtain ⟨q9, hq9⟩ : ∃ q, q = askedI x c := ⟨_, rfl⟩
  rw [← hq9] at HA hat
  by_cases hg : k < 0
  · rw [show touchI x c k = (zeroT, 1) by unfold touchI; rw [if_pos hg]] at hRe
    have HR := Lib.hid hRe
    obtain ⟨⟨b0, b1, b2, b3, b4⟩, -⟩ := c5 hq2
    have hkz : KV wB (fun b => Z b ∨ w.heap.size ≤ b) [] (.slice none 0 0) := KV.nil wB _ none 0
    clear hR hRe hK hZ hd hf hwB hb0 hq1 hq2 hm hat hq9
    all_goals
      show Calls Try.prog 42 #[.agg #[.int .i64 x.a.k, .int .i64 x.a.w, .int .i64 x.a.c, .int .i64 x.a.s, .slice p m cap], .int .i64 c, .int .i64 k] w R
      go_enter Try.func42, Try.ntmps42
      go_wp2_with fail
      rw [← HWB.out]
      exact bodyPost_ret (v := .tuple #[.agg #[.int .i64 0, .int .i64 0, .int .i64 0, .int .i64 0, .slice none 0 0], .int .i64 1]) (by simp [results, Try.results42, go_sem, b0, b1, b2, b3, b4]) rfl ((HR.out _ _).2 ⟨HB.out, zeroT, .slice none 0 0, rfl, hkz, rfl⟩)
  · by_cases h0 : q9 = 0
    · subst h0
      obtain ⟨htr, hhb⟩ := hat rfl
      rcases findI_spec (c := c) htr with ⟨h9, _⟩ | ⟨_, u, hu, hfi⟩
      · rw [hhb] at h9; cases h9
      · obtain ⟨v, j, pp, y, rfl, hgp, hgy, hy0, hyc, hgl⟩ := id hu
        rw [show touchI x c k = (put x (v ++ [j]) (.mk { y.a with s := k } y.ks), 0) by unfold touchI; rw [if_neg hg, chgI_some htr hu]; unfold touchF; rw [hgl]] at hRe
        have HR := Lib.hid hRe
        have HFI := Lib.hid hfi
        have hpw := (hf (v ++ [j]) y hgl).1
        have HAT := Lib.hid (fun (W : World) (h : Below w.heap.size w W) (vv : Value) (hv : WI W (v ++ [j]) vv) => At_c Z x y (.slice p m cap) (v ++ [j]) vv W (hK.next h) (fun b hb => Nat.lt_of_lt_of_le (hZ b hb) h.size) hv hgl)
        have HPU := Lib.hid (fun (W : World) (h : Below w.heap.size w W) (s vv : Value) (hs : KV W Z y.ks s) (hv : WI W (v ++ [j]) vv) => Put_c (.mk { y.a with s := k } y.ks) s ⟨hpw.1, hpw.2.1, hpw.2.2.1, hk⟩ (v ++ [j]) Z x y (.slice p m cap) vv W (fun b hb => Nat.lt_of_lt_of_le (hZ b hb) h.size) (hK.next h) hs hv hgl hf)
        clear hR hRe hK hZ hd hf hwB hb0 hq1 hq2 hm hat hq9 hu hfi htr hhb hgy hy0 hyc hgl hgp hpw hk
        show Calls Try.prog 42 #[.agg #[.int .i64 x.a.k, .int .i64 x.a.w, .int .i64 x.a.c, .int .i64 x.a.s, .slice p m cap], .int .i64 c, .int .i64 k] w R
        go_enter Try.func42, Try.ntmps42
        go_wp2_with fail
        rw [← HWB.out]
        refine (HA.out wB HB.out).mono ?_
        rintro e w1 ⟨rfl, hb⟩
        have HB1 := Lib.hid (HB.out.trans (hb.mono HB.out.size))
        have HQ3 := Lib.hid (HQ1.out.next hb)
        have HQ4 := Lib.hid (HQ2.out.next hb)
        obtain ⟨⟨q0, q1, q2, q3, q4⟩, -⟩ := c5 HQ3.out
        clear hb
        go_wp2_with fail
        refine (HF.out w1 HB1.out).mono ?_
        rintro e w2 ⟨hb, ⟨hn, -⟩ | ⟨u2, vw, hfi2, rfl, hwi⟩⟩
        · rw [HFI.out] at hn; cases hn
        rw [HFI.out] at hfi2
        have hfi2 := Option.some.inj hfi2
        subst hfi2
        obtain ⟨pw, cw, rfl, hl6, hlc⟩ := hwi.slice
        have HB2 := Lib.hid (HB1.out.trans (hb.mono HB1.out.size))
        have HQ5 := Lib.hid (HQ3.out.next hb)
        have HQ6 := Lib.hid (HQ4.out.next hb)
        clear q0 q1 q2 q3 q4
        obtain ⟨⟨q0, q1, q2, q3, q4⟩, -⟩ := c5 HQ5.out
        rw [show (v ++ [j]).length = v.length + 1 by simp] at hwi hl6 hlc ⊢
        obtain ⟨n, hn⟩ : ∃ n, n = v.length := ⟨_, rfl⟩
        rw [← hn] at hwi hl6 hlc ⊢
        have HN := Lib.hid hn
        have HWI := Lib.hid hwi
        have HWV : Hid (WI w2 v (.slice pw n cw)) := by have := hwi.take (k := n) (Nat.le_succ n); rw [show (v ++ [j]).take n = v by rw [hn, List.take_left]] at this; exact this
        clear hb hn hwi
        go_wp2_with fail
        refine (HAT.out w2 HB2.out _ HWI.out).mono ?_
        rintro e w3 ⟨hb, s3, rfl, hk3⟩
        obtain ⟨p3, c3, rfl, -⟩ := hk3.slice
        obtain ⟨n3, hn3⟩ : ∃ q, q = y.ks.length := ⟨_, rfl⟩
        rw [← hn3] at hk3 ⊢
        have HB3 := Lib.hid (HB2.out.trans (hb.mono HB2.out.size))
        have HQ7 := Lib.hid (HQ5.out.next hb)
        have HQ8 := Lib.hid (HQ6.out.next hb)
        have HW3 := Lib.hid (HWI.out.next hb)
        have HV3 := Lib.hid (HWV.out.next hb)
        have HK3 := Lib.hid hk3
        clear hb hk3 hn3 q0 q1 q2 q3 q4
        obtain ⟨⟨q0, q1, q2, q3, q4⟩, -⟩ := c5 HQ7.out
        have hlb := HQ7.out.lt
        go_wp2_with fail
        clear hlb
        have hwv := HW3.out
        have hbP := HB3.out.alloc HB3.out.size (.cells #[.int .i64 y.a.k, .int .i64 y.a.w, .int .i64 y.a.c, .int .i64 k, .slice p3 n3 c3] 24)
        have hbW := (Below.refl w3.heap.size w3).alloc (Nat.le_refl _) (.cells #[.int .i64 y.a.k, .int .i64 y.a.w, .int .i64 y.a.c, .int .i64 k, .slice p3 n3 c3] 24)
        obtain ⟨wP, hwP⟩ : ∃ wP, wP = w3.alloc (.cells #[.int .i64 y.a.k, .int .i64 y.a.w, .int .i64 y.a.c, .int .i64 k, .slice p3 n3 c3] 24) := ⟨_, rfl⟩
        rw [← hwP] at hbP hbW ⊢
        refine (HPU.out wP hbP _ _ (HK3.out.next hbW) (hwv.next hbW)).mono ?_
        rintro e w6 ⟨hb, s6, rfl, hk6⟩
        obtain ⟨p6, c6, rfl, -⟩ := hk6.slice
        obtain ⟨Y, hY⟩ : ∃ Y, Y = (put x (v ++ [j]) (.mk { y.a with s := k } y.ks)) := ⟨_, rfl⟩
        rw [← hY] at hk6 ⊢
        have HY := Lib.hid hY
        obtain ⟨n6, hn6⟩ : ∃ q, q = Y.ks.length := ⟨_, rfl⟩
        rw [← hn6] at hk6 ⊢
        have HB6 := Lib.hid (hbP.trans (hb.mono hbP.size))
        have HQ9 := Lib.hid ((HQ8.out.next hbW).next hb)
        have HK6 := Lib.hid hk6
        have HSP : Hid (w.heap.size + 1 + 1 ≤ wP.heap.size) := (HQ8.out.next hbW).lt
        obtain ⟨⟨r0, r1, r2, r3, r4⟩, ⟨f0, f1, f2, f3, f4⟩⟩ := c5 HQ9.out
        clear hb hk6 hn6 hY hbP hbW hwP q0 q1 q2 q3 q4
        go_wp2_with fail
        obtain ⟨hb5, hq5, -⟩ := st5_next HB6.out (by omega) HQ9.out (.int .i64 Y.a.k) (.int .i64 Y.a.w) (.int .i64 Y.a.c) (.int .i64 Y.a.s) (.slice p6 n6 c6)
        have hk5 := KV.st5 (g := w.heap.size + 1) (Z' := fun b => Z b ∨ w.heap.size ≤ b) HK6.out (fun b hb => by rcases hb with hb | hb; (have := HZ.out b hb; omega); (have := HSP.out; omega)) (fun b hb => by rcases hb with hb | hb; exact .inl hb; (right; have := HSP.out; omega)) (.int .i64 Y.a.k) (.int .i64 Y.a.w) (.int .i64 Y.a.c) (.int .i64 Y.a.s) (.slice p6 n6 c6)
        obtain ⟨w5, hw5⟩ : ∃ w5, w5 = st5 w6 (w.heap.size + 1) (.int .i64 Y.a.k) (.int .i64 Y.a.w) (.int .i64 Y.a.c) (.int .i64 Y.a.s) (.slice p6 n6 c6) := ⟨_, rfl⟩
        rw [← hw5] at hb5 hq5 hk5
        unfold st5 at hw5
        rw [← hw5]
        obtain ⟨⟨b0, b1, b2, b3, b4⟩, -⟩ := c5 hq5
        exact bodyPost_ret (v := .tuple #[.agg #[.int .i64 Y.a.k, .int .i64 Y.a.w, .int .i64 Y.a.c, .int .i64 Y.a.s, .slice p6 n6 c6], .int .i64 0]) (by simp [results, Try.results42, go_sem, b0, b1, b2, b3, b4]) rfl ((HR.out _ _).2 ⟨hb5, Y, .slice p6 n6 c6, rfl, hk5, (by rw [if_pos rfl, HY.out])⟩)
    · rw [show touchI x c k = (zeroT, q9) by unfold touchI; rw [if_neg hg]; exact chgI_asked hq9 h0] at hRe
      have HR := Lib.hid hRe
      have hne : (q9 == 0) = false := by simpa using h0
      have HN0 := Lib.hid h0
      clear hk
      clear hR hRe hK hZ hd hf hwB hb0 hq1 hq2 hm hat hq9
      show Calls Try.prog 42 #[.agg #[.int .i64 x.a.k, .int .i64 x.a.w, .int .i64 x.a.c, .int .i64 x.a.s, .slice p m cap], .int .i64 c, .int .i64 k] w R
      go_enter Try.func42, Try.ntmps42
      go_wp2_with fail
      rw [← HWB.out]
      refine (HA.out wB HB.out).mono ?_
      rintro e w1 ⟨rfl, hb⟩
      have HB1 := Lib.hid (HB.out.trans (hb.mono HB.out.size))
      have HQ3 := Lib.hid (HQ2.out.next hb)
      obtain ⟨⟨q0, q1, q2, q3, q4⟩, -⟩ := c5 (HQ1.out.next hb)
      clear hb
      go_wp2_with fail
      refine (HA.out w1 HB1.out).mono ?_
      rintro e w2 ⟨rfl, hb⟩
      have HB2 := Lib.hid (HB1.out.trans (hb.mono HB1.out.size))
      have HQ4 := Lib.hid (HQ3.out.next hb)
      obtain ⟨⟨r0, r1, r2, r3, r4⟩, ⟨f0, f1, f2, f3, f4⟩⟩ := c5 HQ4.out
      clear hb q0 q1 q2 q3 q4
      go_wp2_with fail
      obtain ⟨hb5, hq5, -⟩ := st5_next HB2.out (by omega) HQ4.out (.int .i64 0) (.int .i64 0) (.int .i64 0) (.int .i64 0) (.slice none 0 0)
      have hk5 := KV.st5 (g := w.heap.size + 1) (Z' := fun b => Z b ∨ w.heap.size ≤ b) (KV.nil w2 Z none 0) (fun b hb => by have := HZ.out b hb; omega) (fun b hb => .inl hb) (.int .i64 0) (.int .i64 0) (.int .i64 0) (.int .i64 0) (.slice none 0 0)
      obtain ⟨w5, hw5⟩ : ∃ w5, w5 = st5 w2 (w.heap.size + 1) (.int .i64 0) (.int .i64 0) (.int .i64 0) (.int .i64 0) (.slice none 0 0) := ⟨_, rfl⟩
      rw [← hw5] at hb5 hq5 hk5
      unfold st5 at hw5
      rw [← hw5]
      obtain ⟨⟨b0, b1, b2, b3, b4⟩, -⟩ := c5 hq5
      exact bodyPost_ret (v := .tuple #[.agg #[.int .i64 0, .int .i64 0, .int .i64 0, .int .i64 0, .slice none 0 0], .int .i64 q9]) (by simp [results, Try.results42, go_sem, b0, b1, b2, b3, b4]) rfl ((HR.out _ _).2 ⟨hb5, zeroT, .slice none 0 0, rfl, hk5, (by rw [if_neg HN0.out])⟩)
end Go.Proofs.Ytbbmfpdlkogkfaa.Co
end
section
namespace Go.Proofs.Ytbbmfpdlkogkfaa.Co
open Go.RowKit Go.Shelf Go.Maps
set_option profiler true in
set_option maxHeartbeats 4000000 in
theorem WrapR_c (c k : Int) (x : Con) (Z : Nat → Prop) (sv : Value) (w : World) (hK : KV w Z x.ks sv) (hZ : ∀ b, Z b → b < w.heap.size) (hd : (all x).length ≤ 1000000) (hf : fine x) :
    Calls Try.prog 38 #[conV x.a sv, .int .i64 c, .int .i64 k] w (DocR Z (wrapI x c k) w) := by
  obtain ⟨p, cap, rfl, -⟩ := hK.slice
  obtain ⟨m, hm⟩ : ∃ m, m = x.ks.length := ⟨_, rfl⟩
  rw [← hm] at hK ⊢
  obtain ⟨R, hR⟩ : ∃ R, R = DocR Z (wrapI x c k) w := ⟨_, rfl⟩
  have hRe : ∀ e w', R e w' ↔ DocR Z (wrapI x c k) w e w' := by rw [hR]; exact fun _ _ => Iff.rfl
  rw [← hR]
  have HA := Lib.hid (fun (W : World) (h : Below w.heap.size w W) => asked_c Z x (.slice p m cap) c W (hK.next h) hd (fun b hb => Nat.lt_of_lt_of_le (hZ b hb) h.size))
  have HF := Lib.hid (fun (W : World) (h : Below w.heap.size w W) => FindR_c Z x (.slice p m cap) c W (hK.next h) hd (fun b hb => Nat.lt_of_lt_of_le (hZ b hb) h.size))
  have hat := askedI_tree (x := x) (c := c)
  obtain ⟨wB, hwB⟩ : ∃ wB, wB = (w.alloc (.cells #[.int .i64 x.a.k, .int .i64 x.a.w, .int .i64 x.a.c, .int .i64 x.a.s, .slice p m cap] 24)).alloc (.cells #[.int .i64 0, .int .i64 0, .int .i64 0, .int .i64 0, .slice none 0 0] 24) := ⟨_, rfl⟩
  have hb0 : Below w.heap.size w wB := by rw [hwB]; exact ((Below.refl w.heap.size w).alloc (Nat.le_refl _) _).alloc (by simp) _
  have hq1 : Blk wB w.heap.size 24 #[.int .i64 x.a.k, .int .i64 x.a.w, .int .i64 x.a.c, .int .i64 x.a.s, .slice p m cap] := by rw [hwB]; exact (Blk.new w 24 _).alloc _
  have hq2 : Blk wB (w.heap.size + 1) 24 #[.int .i64 0, .int .i64 0, .int .i64 0, .int .i64 0, .slice none 0 0] := by
    rw [hwB]; have := Blk.new (w.alloc (.cells #[.int .i64 x.a.k, .int .i64 x.a.w, .int .i64 x.a.c, .int .i64 x.a.s, .slice p m cap] 24)) 24 #[.int .i64 0, .int .i64 0, .int .i64 0, .int .i64 0, .slice none 0 0]; rwa [World.size_alloc] at this
  have HB := Lib.hid hb0
  have HQ1 := Lib.hid hq1
  have HQ2 := Lib.hid hq2
  have HWB := Lib.hid hwB
  have HZ := Lib.hid hZ
  have HS1 : Hid (w.heap.size + 1 + 1 ≤ wB.heap.size) := hq2.lt
  obtain ⟨q9, hq9⟩ : ∃ q, q = askedI x c := ⟨_, rfl⟩
  rw [← hq9] at HA hat
  by_cases hg : k < 1 ∨ 4 < k
  · rw [show wrapI x c k = (zeroT, 1) by unfold wrapI; rw [if_neg (by unfold splitB; simp; omega)]] at hRe
    have HR := Lib.hid hRe
    obtain ⟨⟨b0, b1, b2, b3, b4⟩, -⟩ := c5 hq2
    have hkz : KV wB (fun b => Z b ∨ w.heap.size ≤ b) [] (.slice none 0 0) := KV.nil wB _ none 0
    clear hR hRe hK hZ hd hf hwB hb0 hq1 hq2 hm hat hq9
    rcases (show k < 1 ∨ (¬ k < 1 ∧ 4 < k) by omega) with hg1 | ⟨hg1, hg2⟩
    all_goals
      show Calls Try.prog 38 #[.agg #[.int .i64 x.a.k, .int .i64 x.a.w, .int .i64 x.a.c, .int .i64 x.a.s, .slice p m cap], .int .i64 c, .int .i64 k] w R
      go_enter Try.func38, Try.ntmps38
      go_wp2_with fail
      rw [← HWB.out]
      exact bodyPost_ret (v := .tuple #[.agg #[.int .i64 0, .int .i64 0, .int .i64 0, .int .i64 0, .slice none 0 0], .int .i64 1]) (by simp [results, Try.results38, go_sem, b0, b1, b2, b3, b4]) rfl ((HR.out _ _).2 ⟨HB.out, zeroT, .slice none 0 0, rfl, hkz, rfl⟩)
  · by_cases h0 : q9 = 0
    · subst h0
      have hsp : splitB k = true := by unfold splitB; simp; omega
      obtain ⟨htr, hhb⟩ := hat rfl
      rcases findI_spec (c := c) htr with ⟨h9, _⟩ | ⟨_, u, hu, hfi⟩
      · rw [hhb] at h9; cases h9
      · obtain ⟨v, j, pp, y, rfl, hgp, hgy, hy0, hyc, hgl⟩ := id hu
        have hWF : wrapI x c k = if pp.ks.length = 1 then (put x v (.mk { pp.a with k := k } pp.ks), 0) else if (v ++ [j]).length = 8 then (x, 2) else (put x (v ++ [j]) (.mk ⟨k, y.a.w, 0, 0⟩ [.mk { y.a with w := 65536 } y.ks]), 0) := by
          unfold wrapI; rw [if_pos hsp, chgI_some htr hu]; unfold wrapF; rw [List.dropLast_concat, hgp, hgl]
        have HFI := Lib.hid hfi
        have hpw := (hf v pp hgp).1
        have hyw := (hf (v ++ [j]) y hgl).1
        have hyk : y.ks = [] := shape_leaf (shape_tree_kids htr hgl).1 hy0
        have hl8 : (v ++ [j]).length ≤ 8 := by
          have := (shape_tree_kids htr hgl).1
          obtain ⟨b, l⟩ := y
          simp only [shape, Bool.and_eq_true] at this
          have h7 := this.1
          unfold soundB at h7
          split at h7
          · cases h7
          · rename_i hh; omega
        have HAT := Lib.hid (fun (W : World) (h : Below w.heap.size w W) (vv : Value) (hv : WI W v vv) => At_c Z x pp (.slice p m cap) v vv W (hK.next h) (fun b hb => Nat.lt_of_lt_of_le (hZ b hb) h.size) hv hgp)
        have HAL := Lib.hid (fun (W : World) (h : Below w.heap.size w W) (vv : Value) (hv : WI W (v ++ [j]) vv) => At_c Z x y (.slice p m cap) (v ++ [j]) vv W (hK.next h) (fun b hb => Nat.lt_of_lt_of_le (hZ b hb) h.size) hv hgl)
        have hg1 : 1 ≤ k := by omega
        have hg4 : k ≤ 4 := by omega
        by_cases hp1 : pp.ks.length = 1
        · rw [hWF, if_pos hp1] at hRe
          have HR := Lib.hid hRe
          have HP1 := Lib.hid hp1
          have HPU := Lib.hid (fun (W : World) (h : Below w.heap.size w W) (s vv : Value) (hs : KV W Z pp.ks s) (hv : WI W v vv) => Put_c (.mk { pp.a with k := k } pp.ks) s (by refine ⟨⟨?_, ?_⟩, hpw.2.1, hpw.2.2.1, hpw.2.2.2⟩ <;> simp only [Tr.a_mk] <;> omega) v Z x pp (.slice p m cap) vv W (fun b hb => Nat.lt_of_lt_of_le (hZ b hb) h.size) (hK.next h) hs hv hgp hf)
          clear hR hRe hK hZ hd hf hwB hb0 hq1 hq2 hm hat hq9 hu hfi htr hhb hgy hy0 hyc hgl hgp hg hsp hpw hyw hyk hl8 hWF hp1
          show Calls Try.prog 38 #[.agg #[.int .i64 x.a.k, .int .i64 x.a.w, .int .i64 x.a.c, .int .i64 x.a.s, .slice p m cap], .int .i64 c, .int .i64 k] w R
          go_enter Try.func38, Try.ntmps38
          go_wp2_with fail
          rw [← HWB.out]
          refine (HA.out wB HB.out).mono ?_
          rintro e w1 ⟨rfl, hb⟩
          have HB1 := Lib.hid (HB.out.trans (hb.mono HB.out.size))
          have HQ3 := Lib.hid (HQ1.out.next hb)
          have HQ4 := Lib.hid (HQ2.out.next hb)
          obtain ⟨⟨q0, q1, q2, q3, q4⟩, -⟩ := c5 HQ3.out
          clear hb
          go_wp2_with fail
          refine (HF.out w1 HB1.out).mono ?_
          rintro e w2 ⟨hb, ⟨hn, -⟩ | ⟨u2, vw, hfi2, rfl, hwi⟩⟩
          · rw [HFI.out] at hn; cases hn
          rw [HFI.out] at hfi2
          have hfi2 := Option.some.inj hfi2
          subst hfi2
          obtain ⟨pw, cw, rfl, hl6, hlc⟩ := hwi.slice
          have HB2 := Lib.hid (HB1.out.trans (hb.mono HB1.out.size))
          have HQ5 := Lib.hid (HQ3.out.next hb)
          have HQ6 := Lib.hid (HQ4.out.next hb)
          clear q0 q1 q2 q3 q4
          obtain ⟨⟨q0, q1, q2, q3, q4⟩, -⟩ := c5 HQ5.out
          rw [show (v ++ [j]).length = v.length + 1 by simp] at hwi hl6 hlc ⊢
          obtain ⟨n, hn⟩ : ∃ n, n = v.length := ⟨_, rfl⟩
          rw [← hn] at hwi hl6 hlc ⊢
          have HN := Lib.hid hn
          have HWI := Lib.hid hwi
          have HWV : Hid (WI w2 v (.slice pw n cw)) := by have := hwi.take (k := n) (Nat.le_succ n); rw [show (v ++ [j]).take n = v by rw [hn, List.take_left]] at this; exact this
          clear hb hn hwi
          go_wp2_with fail
          refine (HAT.out w2 HB2.out _ HWV.out).mono ?_
          rintro e w3 ⟨hb, s3, rfl, hk3⟩
          obtain ⟨p3, c3, rfl, -⟩ := hk3.slice
          obtain ⟨n3, hn3⟩ : ∃ q, q = pp.ks.length := ⟨_, rfl⟩
          rw [← hn3] at hk3 ⊢
          have hn1 : n3 = 1 := hn3.trans HP1.out
          subst hn1
          have HB3 := Lib.hid (HB2.out.trans (hb.mono HB2.out.size))
          have HQ7 := Lib.hid (HQ5.out.next hb)
          have HQ8 := Lib.hid (HQ6.out.next hb)
          have HW3 := Lib.hid (HWI.out.next hb)
          have HV3 := Lib.hid (HWV.out.next hb)
          have HK3 := Lib.hid hk3
          clear hb hk3 hn3 q0 q1 q2 q3 q4
          obtain ⟨⟨q0, q1, q2, q3, q4⟩, -⟩ := c5 HQ7.out
          have hlb := HQ7.out.lt
          go_wp2_with fail
          clear hlb
          have hwv := HV3.out
          have hbP := HB3.out.alloc HB3.out.size (.cells #[.int .i64 k, .int .i64 pp.a.w, .int .i64 pp.a.c, .int .i64 pp.a.s, .slice p3 1 c3] 24)
          have hbW := (Below.refl w3.heap.size w3).alloc (Nat.le_refl _) (.cells #[.int .i64 k, .int .i64 pp.a.w, .int .i64 pp.a.c, .int .i64 pp.a.s, .slice p3 1 c3] 24)
          obtain ⟨wP, hwP⟩ : ∃ wP, wP = w3.alloc (.cells #[.int .i64 k, .int .i64 pp.a.w, .int .i64 pp.a.c, .int .i64 pp.a.s, .slice p3 1 c3] 24) := ⟨_, rfl⟩
          rw [← hwP] at hbP hbW ⊢
          refine (HPU.out wP hbP _ _ (HK3.out.next hbW) (hwv.next hbW)).mono ?_
          rintro e w6 ⟨hb, s6, rfl, hk6⟩
          obtain ⟨p6, c6, rfl, -⟩ := hk6.slice
          obtain ⟨Y, hY⟩ : ∃ Y, Y = (put x v (.mk { pp.a with k := k } pp.ks)) := ⟨_, rfl⟩
          rw [← hY] at hk6 ⊢
          have HY := Lib.hid hY
          obtain ⟨n6, hn6⟩ : ∃ q, q = Y.ks.length := ⟨_, rfl⟩
          rw [← hn6] at hk6 ⊢
          have HB6 := Lib.hid (hbP.trans (hb.mono hbP.size))
          have HQ9 := Lib.hid ((HQ8.out.next hbW).next hb)
          have HK6 := Lib.hid hk6
          have HSP : Hid (w.heap.size + 1 + 1 ≤ wP.heap.size) := (HQ8.out.next hbW).lt
          obtain ⟨⟨r0, r1, r2, r3, r4⟩, ⟨f0, f1, f2, f3, f4⟩⟩ := c5 HQ9.out
          clear hb hk6 hn6 hY hbP hbW hwP q0 q1 q2 q3 q4
          go_wp2_with fail
          obtain ⟨hb5, hq5, -⟩ := st5_next HB6.out (by omega) HQ9.out (.int .i64 Y.a.k) (.int .i64 Y.a.w) (.int .i64 Y.a.c) (.int .i64 Y.a.s) (.slice p6 n6 c6)
          have hk5 := KV.st5 (g := w.heap.size + 1) (Z' := fun b => Z b ∨ w.heap.size ≤ b) HK6.out (fun b hb => by rcases hb with hb | hb; (have := HZ.out b hb; omega); (have := HSP.out; omega)) (fun b hb => by rcases hb with hb | hb; exact .inl hb; (right; have := HSP.out; omega)) (.int .i64 Y.a.k) (.int .i64 Y.a.w) (.int .i64 Y.a.c) (.int .i64 Y.a.s) (.slice p6 n6 c6)
          obtain ⟨w5, hw5⟩ : ∃ w5, w5 = st5 w6 (w.heap.size + 1) (.int .i64 Y.a.k) (.int .i64 Y.a.w) (.int .i64 Y.a.c) (.int .i64 Y.a.s) (.slice p6 n6 c6) := ⟨_, rfl⟩
          rw [← hw5] at hb5 hq5 hk5
          unfold st5 at hw5
          rewrite [← hw5]
          obtain ⟨⟨b0, b1, b2, b3, b4⟩, -⟩ := c5 hq5
          exact bodyPost_ret (v := .tuple #[.agg #[.int .i64 Y.a.k, .int .i64 Y.a.w, .int .i64 Y.a.c, .int .i64 Y.a.s, .slice p6 n6 c6], .int .i64 0]) (by simp [results, Try.results38, go_sem, b0, b1, b2, b3, b4]) rfl ((HR.out _ _).2 ⟨hb5, Y, .slice p6 n6 c6, rfl, hk5, (by rw [if_pos rfl, HY.out])⟩)
        · rw [hWF, if_neg hp1] at hRe
          have HP1 := Lib.hid hp1
          by_cases h8 : (v ++ [j]).length = 8
          · rw [if_pos h8] at hRe
            have HR := Lib.hid hRe
            have HP8 := Lib.hid (show v.length = 7 by simpa using h8)
            clear hR hRe hK hZ hd hf hwB hb0 hq1 hq2 hm hat hq9 hu hfi htr hhb hgy hy0 hyc hgl hgp hg hsp hpw hyw hyk hl8 hWF hp1 h8
            show Calls Try.prog 38 #[.agg #[.int .i64 x.a.k, .int .i64 x.a.w, .int .i64 x.a.c, .int .i64 x.a.s, .slice p m cap], .int .i64 c, .int .i64 k] w R
            go_enter Try.func38, Try.ntmps38
            go_wp2_with fail
            rw [← HWB.out]
            refine (HA.out wB HB.out).mono ?_
            rintro e w1 ⟨rfl, hb⟩
            have HB1 := Lib.hid (HB.out.trans (hb.mono HB.out.size))
            have HQ3 := Lib.hid (HQ1.out.next hb)
            have HQ4 := Lib.hid (HQ2.out.next hb)
            obtain ⟨⟨q0, q1, q2, q3, q4⟩, -⟩ := c5 HQ3.out
            clear hb
            go_wp2_with fail
            refine (HF.out w1 HB1.out).mono ?_
            rintro e w2 ⟨hb, ⟨hn, -⟩ | ⟨u2, vw, hfi2, rfl, hwi⟩⟩
            · rw [HFI.out] at hn; cases hn
            rw [HFI.out] at hfi2
            have hfi2 := Option.some.inj hfi2
            subst hfi2
            obtain ⟨pw, cw, rfl, hl6, hlc⟩ := hwi.slice
            have HB2 := Lib.hid (HB1.out.trans (hb.mono HB1.out.size))
            have HQ5 := Lib.hid (HQ3.out.next hb)
            have HQ6 := Lib.hid (HQ4.out.next hb)
            clear q0 q1 q2 q3 q4
            obtain ⟨⟨q0, q1, q2, q3, q4⟩, -⟩ := c5 HQ5.out
            rw [show (v ++ [j]).length = v.length + 1 by simp] at hwi hl6 hlc ⊢
            obtain ⟨n, hn⟩ : ∃ n, n = v.length := ⟨_, rfl⟩
            rw [← hn] at hwi hl6 hlc ⊢
            have HN := Lib.hid hn
            have HWI := Lib.hid hwi
            have HWV : Hid (WI w2 v (.slice pw n cw)) := by have := hwi.take (k := n) (Nat.le_succ n); rw [show (v ++ [j]).take n = v by rw [hn, List.take_left]] at this; exact this
            clear hb hn hwi
            have hn7 : n = 7 := HN.out.trans HP8.out
            subst hn7
            go_wp2_with fail
            refine (HAT.out w2 HB2.out _ HWV.out).mono ?_
            rintro e w3 ⟨hb, s3, rfl, hk3⟩
            obtain ⟨p3, c3, rfl, -⟩ := hk3.slice
            obtain ⟨n3, hn3⟩ : ∃ q, q = pp.ks.length := ⟨_, rfl⟩
            rw [← hn3] at hk3 ⊢
            have hn1 : ((n3 : Int) == 1) = false := by have := HP1.out; simp; omega
            have HB3 := Lib.hid (HB2.out.trans (hb.mono HB2.out.size))
            have HQ7 := Lib.hid (HQ5.out.next hb)
            have HQ8 := Lib.hid (HQ6.out.next hb)
            have HW3 := Lib.hid (HWI.out.next hb)
            have HV3 := Lib.hid (HWV.out.next hb)
            have HK3 := Lib.hid hk3
            clear hb hk3 hn3 q0 q1 q2 q3 q4
            obtain ⟨⟨q0, q1, q2, q3, q4⟩, -⟩ := c5 HQ7.out
            have hlb := HQ7.out.lt
            obtain ⟨⟨r0, r1, r2, r3, r4⟩, ⟨f0, f1, f2, f3, f4⟩⟩ := c5 HQ8.out
            have hlb2 := HQ8.out.lt
            go_wp2_with fail
            clear hlb
            obtain ⟨hb5, hq5, -⟩ := st5_next HB3.out (by omega) HQ8.out (.int .i64 0) (.int .i64 0) (.int .i64 0) (.int .i64 0) (.slice none 0 0)
            have hk5 := KV.st5 (g := w.heap.size + 1) (Z' := fun b => Z b ∨ w.heap.size ≤ b) (KV.nil w3 Z none 0) (fun b hb => by have := HZ.out b hb; omega) (fun b hb => .inl hb) (.int .i64 0) (.int .i64 0) (.int .i64 0) (.int .i64 0) (.slice none 0 0)
            obtain ⟨w5, hw5⟩ : ∃ w5, w5 = st5 w3 (w.heap.size + 1) (.int .i64 0) (.int .i64 0) (.int .i64 0) (.int .i64 0) (.slice none 0 0) := ⟨_, rfl⟩
            rw [← hw5] at hb5 hq5 hk5
            unfold st5 at hw5
            rewrite [← hw5]
            obtain ⟨⟨b0, b1, b2, b3, b4⟩, -⟩ := c5 (hq5.alloc (.cells #[.int .i64 pp.a.k, .int .i64 pp.a.w, .int .i64 pp.a.c, .int .i64 pp.a.s, .slice p3 n3 c3] 24))
            exact bodyPost_ret (v := .tuple #[.agg #[.int .i64 0, .int .i64 0, .int .i64 0, .int .i64 0, .slice none 0 0], .int .i64 2]) (by simp [results, Try.results38, go_sem, b0, b1, b2, b3, b4]) rfl ((HR.out _ _).2 ⟨(hb5.alloc (by have := hb5.size; omega) (.cells #[.int .i64 pp.a.k, .int .i64 pp.a.w, .int .i64 pp.a.c, .int .i64 pp.a.s, .slice p3 n3 c3] 24)), zeroT, .slice none 0 0, rfl, (hk5.alloc (.cells #[.int .i64 pp.a.k, .int .i64 pp.a.w, .int .i64 pp.a.c, .int .i64 pp.a.s, .slice p3 n3 c3] 24)), (by rw [if_neg (by simp)])⟩)
          · rw [if_neg h8] at hRe
            have HR := Lib.hid hRe
            have HL7 := Lib.hid (show v.length < 7 by simp at h8 hl8; omega)
            have HYK := Lib.hid hyk
            obtain ⟨IN, hIN⟩ : ∃ IN : Con, IN = .mk { y.a with w := 65536 } y.ks := ⟨_, rfl⟩
            have hIa : IN.a = ⟨0, 65536, y.a.c, y.a.s⟩ := by rw [hIN]; simp only [Tr.a_mk]; rw [hy0]
            have hIk : IN.ks = [] := by rw [hIN]; exact hyk
            rw [← hIN] at hRe
            have HR := Lib.hid hRe
            have HPU := Lib.hid (fun (W : World) (h : Below w.heap.size w W) (s vv : Value) (hs : KV W (fun b => Z b ∨ w.heap.size + 1 + 1 ≤ b) [IN] s) (hv : WI W (v ++ [j]) vv) => Put_c (.mk ⟨k, y.a.w, 0, 0⟩ [IN]) s (by refine ⟨⟨?_, ?_⟩, hyw.2.1, ⟨?_, ?_⟩, ⟨?_, ?_⟩⟩ <;> simp only [Tr.a_mk] <;> omega) (v ++ [j]) (fun b => (Z b ∨ w.heap.size + 1 + 1 ≤ b) ∧ b < W.heap.size) x y (.slice p m cap) vv W (fun _ h => h.2) ((hK.next h).weak fun b hb => .inl hb).lt_ hs.lt_ hv hgl hf)
            have HIW : Hid (IN.a.wide) := by rw [hIa]; exact ⟨⟨by show (-9223372036854775808 : Int) ≤ 0; decide, by show (0 : Int) ≤ 9223372036854775807; decide⟩, ⟨by show (-9223372036854775808 : Int) ≤ 65536; decide, by show (65536 : Int) ≤ 9223372036854775807; decide⟩, hyw.2.2.1, hyw.2.2.2⟩
            have HIA := Lib.hid hIa
            have HIK := Lib.hid hIk
            clear hR hRe hK hZ hd hf hwB hb0 hq1 hq2 hm hat hq9 hu hfi htr hhb hgy hy0 hyc hgl hgp hg hsp hpw hyw hyk hl8 hWF hp1 h8 hIN hIa hIk
            show Calls Try.prog 38 #[.agg #[.int .i64 x.a.k, .int .i64 x.a.w, .int .i64 x.a.c, .int .i64 x.a.s, .slice p m cap], .int .i64 c, .int .i64 k] w R
            go_enter Try.func38, Try.ntmps38
            go_wp2_with fail
            rw [← HWB.out]
            refine (HA.out wB HB.out).mono ?_
            rintro e w1 ⟨rfl, hb⟩
            have HB1 := Lib.hid (HB.out.trans (hb.mono HB.out.size))
            have HQ3 := Lib.hid (HQ1.out.next hb)
            have HQ4 := Lib.hid (HQ2.out.next hb)
            obtain ⟨⟨q0, q1, q2, q3, q4⟩, -⟩ := c5 HQ3.out
            clear hb
            go_wp2_with fail
            refine (HF.out w1 HB1.out).mono ?_
            rintro e w2 ⟨hb, ⟨hn, -⟩ | ⟨u2, vw, hfi2, rfl, hwi⟩⟩
            · rw [HFI.out] at hn; cases hn
            rw [HFI.out] at hfi2
            have hfi2 := Option.some.inj hfi2
            subst hfi2
            obtain ⟨pw, cw, rfl, hl6, hlc⟩ := hwi.slice
            have HB2 := Lib.hid (HB1.out.trans (hb.mono HB1.out.size))
            have HQ5 := Lib.hid (HQ3.out.next hb)
            have HQ6 := Lib.hid (HQ4.out.next hb)
            clear q0 q1 q2 q3 q4
            obtain ⟨⟨q0, q1, q2, q3, q4⟩, -⟩ := c5 HQ5.out
            rw [show (v ++ [j]).length = v.length + 1 by simp] at hwi hl6 hlc ⊢
            obtain ⟨n, hn⟩ : ∃ n, n = v.length := ⟨_, rfl⟩
            rw [← hn] at hwi hl6 hlc ⊢
            have HN := Lib.hid hn
            have HWI := Lib.hid hwi
            have HWV : Hid (WI w2 v (.slice pw n cw)) := by have := hwi.take (k := n) (Nat.le_succ n); rw [show (v ++ [j]).take n = v by rw [hn, List.take_left]] at this; exact this
            clear hb hn hwi
            have hn7 : n < 7 := by rw [HN.out]; exact HL7.out
            go_wp2_with fail
            refine (HAT.out w2 HB2.out _ HWV.out).mono ?_
            rintro e w3 ⟨hb, s3, rfl, hk3⟩
            obtain ⟨p3, c3, rfl, -⟩ := hk3.slice
            obtain ⟨n3, hn3⟩ : ∃ q, q = pp.ks.length := ⟨_, rfl⟩
            rw [← hn3] at hk3 ⊢
            have hn1 : ((n3 : Int) == 1) = false := by have := HP1.out; simp; omega
            have HB3 := Lib.hid (HB2.out.trans (hb.mono HB2.out.size))
            have HQ7 := Lib.hid (HQ5.out.next hb)
            have HQ8 := Lib.hid (HQ6.out.next hb)
            have HW3 := Lib.hid (HWI.out.next hb)
            have HV3 := Lib.hid (HWV.out.next hb)
            have HK3 := Lib.hid hk3
            clear hb hk3 hn3 q0 q1 q2 q3 q4
            obtain ⟨⟨q0, q1, q2, q3, q4⟩, -⟩ := c5 HQ7.out
            have hlb := HQ7.out.lt
            obtain ⟨⟨r0, r1, r2, r3, r4⟩, ⟨f0, f1, f2, f3, f4⟩⟩ := c5 HQ8.out
            have hlb2 := HQ8.out.lt
            go_wp2_with fail
            clear hlb
            have hbP := HB3.out.alloc HB3.out.size (.cells #[.int .i64 pp.a.k, .int .i64 pp.a.w, .int .i64 pp.a.c, .int .i64 pp.a.s, .slice p3 n3 c3] 24)
            have hbW := (Below.refl w3.heap.size w3).alloc (Nat.le_refl _) (.cells #[.int .i64 pp.a.k, .int .i64 pp.a.w, .int .i64 pp.a.c, .int .i64 pp.a.s, .slice p3 n3 c3] 24)
            obtain ⟨wP, hwP⟩ : ∃ wP, wP = w3.alloc (.cells #[.int .i64 pp.a.k, .int .i64 pp.a.w, .int .i64 pp.a.c, .int .i64 pp.a.s, .slice p3 n3 c3] 24) := ⟨_, rfl⟩
            rw [← hwP] at hbP hbW ⊢
            refine (HAL.out wP hbP _ (HW3.out.next hbW)).mono ?_
            rintro e w4 ⟨hb, s4, rfl, hk4⟩
            rw [HYK.out] at hk4
            obtain ⟨p4, c4, rfl, -⟩ := hk4.slice
            have HB4 := Lib.hid (hbP.trans (hb.mono hbP.size))
            have HQ9 := Lib.hid ((HQ7.out.next hbW).next hb)
            have HQ10 := Lib.hid ((HQ8.out.next hbW).next hb)
            have HW4 := Lib.hid ((HW3.out.next hbW).next hb)
            clear hb hk4 hwP hbP hbW q0 q1 q2 q3 q4 r0 r1 r2 r3 r4 f0 f1 f2 f3 f4
            obtain ⟨⟨q0, q1, q2, q3, q4⟩, -⟩ := c5 HQ9.out
            have hlb := HQ9.out.lt
            go_wp2_with fail
            obtain ⟨wQ, hwQ⟩ : ∃ wQ, wQ = ((w4.alloc (.cells #[.int .i64 y.a.k, .int .i64 y.a.w, .int .i64 y.a.c, .int .i64 y.a.s, .slice p4 0 c4] 24)).alloc (.cells #[.int .i64 0, .int .i64 65536, .int .i64 y.a.c, .int .i64 y.a.s, .slice none 0 0] 24)).alloc (.cells #[.int .i64 0, .int .i64 65536, .int .i64 y.a.c, .int .i64 y.a.s, .slice none 0 0] 24) := ⟨_, rfl⟩
            have hbQ : Below w4.heap.size w4 wQ := by rw [hwQ]; exact (((Below.refl _ _).alloc (Nat.le_refl _) _).alloc (by simp) _).alloc (by simp; omega) _
            have hqQ : Blk wQ (w4.heap.size + 1 + 1) 24 #[.int .i64 0, .int .i64 65536, .int .i64 y.a.c, .int .i64 y.a.s, .slice none 0 0] := by
              rw [hwQ]; have := Blk.new ((w4.alloc (.cells #[.int .i64 y.a.k, .int .i64 y.a.w, .int .i64 y.a.c, .int .i64 y.a.s, .slice p4 0 c4] 24)).alloc (.cells #[.int .i64 0, .int .i64 65536, .int .i64 y.a.c, .int .i64 y.a.s, .slice none 0 0] 24)) 24 #[.int .i64 0, .int .i64 65536, .int .i64 y.a.c, .int .i64 y.a.s, .slice none 0 0]; rwa [World.size_alloc, World.size_alloc] at this
            rw [← hwQ]
            have hbWQ := HB4.out.trans (hbQ.mono HB4.out.size)
            have hkin : KV wQ (fun b => Z b ∨ w.heap.size + 1 + 1 ≤ b) [IN] (.slice (some ⟨w4.heap.size + 1 + 1, 0, none⟩) 1 1) := by
              refine KV.single (s := .slice none 0 0) ?_ (.inr (by have := HB4.out.size; omega)) ?_ HIW.out
              · rw [HIA.out]; exact hqQ
              · rw [HIK.out]; exact KV.nil wQ _ none 0
            refine (HPU.out wQ hbWQ _ _ hkin (HW4.out.next hbQ)).mono ?_
            rintro e w6 ⟨hb, s6, rfl, hk6⟩
            obtain ⟨p6, c6, rfl, -⟩ := hk6.slice
            obtain ⟨Y, hY⟩ : ∃ Y, Y = (put x (v ++ [j]) (.mk ⟨k, y.a.w, 0, 0⟩ [IN])) := ⟨_, rfl⟩
            rw [← hY] at hk6 ⊢
            have HY := Lib.hid hY
            obtain ⟨n6, hn6⟩ : ∃ q, q = Y.ks.length := ⟨_, rfl⟩
            rw [← hn6] at hk6 ⊢
            have HB6 := Lib.hid (hbWQ.trans (hb.mono hbWQ.size))
            have HQ11 := Lib.hid ((HQ10.out.next hbQ).next hb)
            have HK6 := Lib.hid hk6
            have HSP : Hid (w.heap.size + 1 + 1 ≤ wQ.heap.size) := (HQ10.out.next hbQ).lt
            obtain ⟨⟨r0, r1, r2, r3, r4⟩, ⟨f0, f1, f2, f3, f4⟩⟩ := c5 HQ11.out
            clear hb hk6 hn6 hY hbQ hbWQ hwQ hqQ hkin q0 q1 q2 q3 q4 hlb
            go_wp2_with fail
            obtain ⟨hb5, hq5, -⟩ := st5_next HB6.out (by omega) HQ11.out (.int .i64 Y.a.k) (.int .i64 Y.a.w) (.int .i64 Y.a.c) (.int .i64 Y.a.s) (.slice p6 n6 c6)
            have hk5 := KV.st5 (g := w.heap.size + 1) (Z' := fun b => Z b ∨ w.heap.size ≤ b) HK6.out (fun b hb => by rcases hb with ⟨hb | hb, _⟩ | hb; (have := HZ.out b hb; omega); omega; (have := HSP.out; omega)) (fun b hb => by rcases hb with ⟨hb | hb, _⟩ | hb; exact .inl hb; (right; omega); (right; have := HSP.out; omega)) (.int .i64 Y.a.k) (.int .i64 Y.a.w) (.int .i64 Y.a.c) (.int .i64 Y.a.s) (.slice p6 n6 c6)
            obtain ⟨w5, hw5⟩ : ∃ w5, w5 = st5 w6 (w.heap.size + 1) (.int .i64 Y.a.k) (.int .i64 Y.a.w) (.int .i64 Y.a.c) (.int .i64 Y.a.s) (.slice p6 n6 c6) := ⟨_, rfl⟩
            rw [← hw5] at hb5 hq5 hk5
            unfold st5 at hw5
            rewrite [← hw5]
            obtain ⟨⟨b0, b1, b2, b3, b4⟩, -⟩ := c5 hq5
            exact bodyPost_ret (v := .tuple #[.agg #[.int .i64 Y.a.k, .int .i64 Y.a.w, .int .i64 Y.a.c, .int .i64 Y.a.s, .slice p6 n6 c6], .int .i64 0]) (by simp [results, Try.results38, go_sem, b0, b1, b2, b3, b4]) rfl ((HR.out _ _).2 ⟨hb5, Y, .slice p6 n6 c6, rfl, hk5, (by rw [if_pos rfl, HY.out])⟩)
    · rw [show wrapI x c k = (zeroT, q9) by unfold wrapI; rw [if_pos (by unfold splitB; simp; omega)]; exact chgI_asked hq9 h0] at hRe
      have HR := Lib.hid hRe
      have hne : (q9 == 0) = false := by simpa using h0
      have HN0 := Lib.hid h0
      have hg1 : ¬ k < 1 := by omega
      have hg4 : ¬ 4 < k := by omega
      clear hg
      clear hR hRe hK hZ hd hf hwB hb0 hq1 hq2 hm hat hq9
      show Calls Try.prog 38 #[.agg #[.int .i64 x.a.k, .int .i64 x.a.w, .int .i64 x.a.c, .int .i64 x.a.s, .slice p m cap], .int .i64 c, .int .i64 k] w R
      go_enter Try.func38, Try.ntmps38
      go_wp2_with fail
      rw [← HWB.out]
      refine (HA.out wB HB.out).mono ?_
      rintro e w1 ⟨rfl, hb⟩
      have HB1 := Lib.hid (HB.out.trans (hb.mono HB.out.size))
      have HQ3 := Lib.hid (HQ2.out.next hb)
      obtain ⟨⟨q0, q1, q2, q3, q4⟩, -⟩ := c5 (HQ1.out.next hb)
      clear hb
      go_wp2_with fail
      refine (HA.out w1 HB1.out).mono ?_
      rintro e w2 ⟨rfl, hb⟩
      have HB2 := Lib.hid (HB1.out.trans (hb.mono HB1.out.size))
      have HQ4 := Lib.hid (HQ3.out.next hb)
      obtain ⟨⟨r0, r1, r2, r3, r4⟩, ⟨f0, f1, f2, f3, f4⟩⟩ := c5 HQ4.out
      clear hb q0 q1 q2 q3 q4
      go_wp2_with fail
      obtain ⟨hb5, hq5, -⟩ := st5_next HB2.out (by omega) HQ4.out (.int .i64 0) (.int .i64 0) (.int .i64 0) (.int .i64 0) (.slice none 0 0)
      have hk5 := KV.st5 (g := w.heap.size + 1) (Z' := fun b => Z b ∨ w.heap.size ≤ b) (KV.nil w2 Z none 0) (fun b hb => by have := HZ.out b hb; omega) (fun b hb => .inl hb) (.int .i64 0) (.int .i64 0) (.int .i64 0) (.int .i64 0) (.slice none 0 0)
      obtain ⟨w5, hw5⟩ : ∃ w5, w5 = st5 w2 (w.heap.size + 1) (.int .i64 0) (.int .i64 0) (.int .i64 0) (.int .i64 0) (.slice none 0 0) := ⟨_, rfl⟩
      rw [← hw5] at hb5 hq5 hk5
      unfold st5 at hw5
      rewrite [← hw5]
      obtain ⟨⟨b0, b1, b2, b3, b4⟩, -⟩ := c5 hq5
      exact bodyPost_ret (v := .tuple #[.agg #[.int .i64 0, .int .i64 0, .int .i64 0, .int .i64 0, .slice none 0 0], .int .i64 q9]) (by simp [results, Try.results38, go_sem, b0, b1, b2, b3, b4]) rfl ((HR.out _ _).2 ⟨hb5, zeroT, .slice none 0 0, rfl, hk5, (by rw [if_neg HN0.out])⟩)
end Go.Proofs.Ytbbmfpdlkogkfaa.Co
end
section
namespace Go.Proofs.Ytbbmfpdlkogkfaa.Co
open Go.RowKit Go.Shelf Go.Maps
theorem own_lo {w : World} {B : Nat} {T : TypeId} {v : Value} {k s : Nat} {xs : List Value} (h : w.ownsRow (B + 1) T s v k xs) {b : Nat} {o : Nat} {n cp : Nat} (e : v = .slice (some ⟨b, o, none⟩) n cp) : B < b := by
  obtain ⟨-, h2⟩ := h
  rcases h2 with ⟨rfl, -⟩ | ⟨g, cap, cur, rfl, h4, -⟩
  · cases e
  · injection e with e1 e2 e3
    injection e1 with e1
    injection e1 with e1 e4 e5
    omega
/-- What is found. -/
def FindE (x : Con) (c : Int) (w : World) (e : Ending) (w' : World) : Prop :=
  Below w.heap.size w w' ∧ ((findI x c = none ∧ e = .returned (.tuple #[.slice none 0 0, .bool false])) ∨ ∃ u v, findI x c = some u ∧ e = .returned (.tuple #[v, .bool true]) ∧ WI w' u v ∧ ∀ b o n cp, v = .slice (some ⟨b, o, none⟩) n cp → w.heap.size < b)
set_option maxHeartbeats 2000000 in
theorem FindRE_c (Z : Nat → Prop) (x : Con) (sv : Value) (c : Int) (w : World) (hK : KV w Z x.ks sv) (hd : (all x).length ≤ 1000000) (hZ : ∀ b, Z b → b < w.heap.size) :
    Calls Try.prog 25 #[conV x.a sv, .int .i64 c] w (FindE x c w) := by
  obtain ⟨p, cap, rfl, -⟩ := hK.slice
  obtain ⟨m, hm⟩ : ∃ m, m = x.ks.length := ⟨_, rfl⟩
  rw [← hm] at hK ⊢
  obtain ⟨R, hR⟩ : ∃ R, R = FindE x c w := ⟨_, rfl⟩
  have hRe : ∀ e w', R e w' ↔ FindE x c w e w' := by rw [hR]; exact fun _ _ => Iff.rfl
  rw [← hR]
  have HR := Lib.hid hRe
  obtain ⟨wB, hwB⟩ : ∃ wB, wB = w.alloc (.cells #[.int .i64 x.a.k, .int .i64 x.a.w, .int .i64 x.a.c, .int .i64 x.a.s, .slice p m cap] 24) := ⟨_, rfl⟩
  have hb0 : Below w.heap.size w wB := by rw [hwB]; exact (Below.refl w.heap.size w).alloc (Nat.le_refl _) _
  have hq0 : Blk wB w.heap.size 24 #[.int .i64 x.a.k, .int .i64 x.a.w, .int .i64 x.a.c, .int .i64 x.a.s, .slice p m cap] := by rw [hwB]; exact Blk.new _ _ _
  have HS := Lib.hid (CheckR_c Z x (.slice p m cap) wB (hK.next hb0) hd (fun b hb => Nat.lt_of_lt_of_le (hZ b hb) hb0.size))
  have HI := Lib.hid (fun (w1 : World) (h : Below wB.heap.size wB w1) => Has_c Z x (.slice p m cap) c w1 ((hK.next hb0).next h) hd (fun b hb => Nat.lt_of_lt_of_le (Nat.lt_of_lt_of_le (hZ b hb) hb0.size) h.size))
  have HB := Lib.hid hb0
  have HQ := Lib.hid hq0
  have HWB := Lib.hid hwB
  have HSB : Hid (w.heap.size < wB.heap.size) := hq0.lt
  cases ht : treeB x
  · have HT : Hid (findI x c = none) := by show _ = _; unfold findI; rw [if_neg (by rw [ht]; simp)]
    rw [checkI_eq, if_pos ht] at HS
    clear hm hR hRe hb0 hK hZ hd ht hwB hq0 HI
    show Calls Try.prog 25 #[.agg #[.int .i64 x.a.k, .int .i64 x.a.w, .int .i64 x.a.c, .int .i64 x.a.s, .slice p m cap], .int .i64 c] w R
    go_enter Try.func25, Try.ntmps25
    go_wp2_with fail
    rw [← HWB.out]
    refine HS.out.mono ?_
    rintro e w1 ⟨rfl, hb⟩
    have HB1 := Lib.hid (HB.out.trans (hb.mono HB.out.size))
    clear hb
    go_wp2_with fail
    exact (HR.out _ _).2 ⟨HB1.out, .inl ⟨HT.out, rfl⟩⟩
  · rw [checkI_eq, if_neg (by rw [ht]; simp)] at HS
    rcases findI_spec (c := c) ht with ⟨hhb, hfi⟩ | ⟨hhb, u, hw, hfi⟩
    · rw [hhb] at HI
      have HT := Lib.hid hfi
      clear hm hR hRe hb0 hK hZ hd ht hwB hq0 hhb hfi
      show Calls Try.prog 25 #[.agg #[.int .i64 x.a.k, .int .i64 x.a.w, .int .i64 x.a.c, .int .i64 x.a.s, .slice p m cap], .int .i64 c] w R
      go_enter Try.func25, Try.ntmps25
      go_wp2_with fail
      rw [← HWB.out]
      refine HS.out.mono ?_
      rintro e w1 ⟨rfl, hb⟩
      have HB1 := Lib.hid (HB.out.trans (hb.mono HB.out.size))
      have HI1 := Lib.hid (HI.out w1 hb)
      obtain ⟨⟨q0, q1, q2, q3, q4⟩, -⟩ := c5 (HQ.out.next hb)
      clear hb HI
      go_wp2_with fail
      refine HI1.out.mono ?_
      rintro e w2 ⟨rfl, hb⟩
      have HB2 := Lib.hid (HB1.out.trans (hb.mono HB1.out.size))
      clear hb q0 q1 q2 q3 q4
      go_wp2_with fail
      exact (HR.out _ _).2 ⟨HB2.out, .inl ⟨HT.out, rfl⟩⟩
    · rw [hhb] at HI
      have HT := Lib.hid hfi
      have HTR := Lib.hid ht
      have HWY := Lib.hid hw
      have HK := Lib.hid hK
      have HZ := Lib.hid hZ
      obtain ⟨n, hn⟩ : ∃ n, n = u.length := ⟨_, rfl⟩
      have HN := Lib.hid hn
      have HL8 : Hid (n ≤ 8) := by
        show _ ≤ _
        obtain ⟨v, j0, p0, l0, _, _, _, _, _, h6⟩ := hw
        have := (shape_tree_kids ht h6).1
        rw [hn]
        obtain ⟨a, ks⟩ := l0
        simp only [shape, Bool.and_eq_true] at this
        have h7 := this.1
        unfold soundB at h7
        split at h7
        · cases h7
        · rename_i hh; omega
      clear hm hR hRe hb0 hK hZ hd ht hwB hq0 hhb hfi hw hn
      show Calls Try.prog 25 #[.agg #[.int .i64 x.a.k, .int .i64 x.a.w, .int .i64 x.a.c, .int .i64 x.a.s, .slice p m cap], .int .i64 c] w R
      go_enter Try.func25, Try.ntmps25
      go_wp2_with fail
      rw [← HWB.out]
      refine HS.out.mono ?_
      rintro e w1 ⟨rfl, hb⟩
      have HB1 := Lib.hid (HB.out.trans (hb.mono HB.out.size))
      have HI1 := Lib.hid (HI.out w1 hb)
      have HQ1 := Lib.hid (HQ.out.next hb)
      obtain ⟨⟨q0, q1, q2, q3, q4⟩, -⟩ := c5 (HQ.out.next hb)
      clear hb HI HS
      go_wp2_with fail
      refine HI1.out.mono ?_
      rintro e w2 ⟨rfl, hb⟩
      have HB2 := Lib.hid (HB1.out.trans (hb.mono HB1.out.size))
      have hq2 := HQ1.out.next hb
      clear hb q0 q1 q2 q3 q4 HI1 HQ1
      go_wp2_with fail
      go_loopw [6] (fun v wr => ∃ k : Nat, k ≤ n ∧ Below w.heap.size w wr ∧ wr.ownsRow (w.heap.size + 1) 3 1 v k (wayV (u.take k)) ∧ ∃ (y' : Con) (s' : Value), Asd (get x (u.take k) = some y') ∧ KV w Z y'.ks s' ∧ Blk wr w.heap.size 24 #[.int .i64 y'.a.k, .int .i64 y'.a.w, .int .i64 y'.a.c, .int .i64 y'.a.s, s']) (fun v _ => match v with | .slice _ l _ => n - l | _ => 0)
      case atStart => exact ⟨0, Nat.zero_le _, HB2.out, World.ownsRow_nil _ _ _ _, x, .slice p m cap, rfl, HK.out, hq2⟩
      case round =>
        clear hq2 HB2
        obtain ⟨wo, hwo⟩ : ∃ wo, wo = wr := ⟨_, rfl⟩
        subst hwo
        obtain ⟨k, hk, hWr, hrow, y', s', hy', hk', hq⟩ := hrel
        have HY := Lib.hid (show get x (u.take k) = some y' from hy')
        obtain ⟨pr, cr, rfl⟩ := row_slice hrow
        obtain ⟨pk, ck, rfl, -⟩ := hk'.slice
        obtain ⟨mk, hmk⟩ : ∃ q, q = y'.ks.length := ⟨_, rfl⟩
        rw [← hmk] at hk' hq
        clear hy'
        by_cases hlt : k < n
        · obtain ⟨i, hi⟩ : ∃ i, u[k]? = some i := ⟨_, List.getElem?_eq_getElem (by rw [← HN.out]; exact hlt)⟩
          obtain ⟨v0, j0, p0, l0, _, _, _, _, _, h6⟩ := HWY.out
          obtain ⟨y2, z, h1, h2, h3⟩ := get_step h6 hi
          rw [HY.out] at h1
          have h1 := Option.some.inj h1
          subst h1
          obtain ⟨hkk, hzc, hno⟩ := way_step HTR.out HWY.out hi HY.out h2
          have hil : i < mk := by rw [hmk]; exact (List.getElem?_eq_some_iff.1 h2).1
          have hke : (y'.a.k == 0) = false := by simpa using hkk
          have hil64 : i ≤ 1152921504606846976 := by have := hk'.slice; obtain ⟨_, _, e, h⟩ := this; injection e with e1 e2 e3; omega
          obtain ⟨-, kb, ko, s2, rfl, hzb, hb1, -, hk2, c0, c1, c2, c3, c4⟩ := hk'.kid h2
          obtain ⟨p2, k2, rfl, -⟩ := hk2.slice
          obtain ⟨n2, hn2⟩ : ∃ q, q = z.ks.length := ⟨_, rfl⟩
          rw [← hn2] at hk2 c4
          have HCELL : Hid (∀ (j : Nat) (q : Con) (W : World), y'.ks[j]? = some q → Below w.heap.size w W → ∃ sq, KV w Z q.ks sq ∧ (W.cell? ⟨kb, ko + j * 5, none⟩ = some (.int .i64 q.a.k) ∧ W.cell? ⟨kb, ko + j * 5 + 1, none⟩ = some (.int .i64 q.a.w) ∧ W.cell? ⟨kb, ko + j * 5 + 2, none⟩ = some (.int .i64 q.a.c) ∧ W.cell? ⟨kb, ko + j * 5 + 3, none⟩ = some (.int .i64 q.a.s) ∧ W.cell? ⟨kb, ko + j * 5 + 4, none⟩ = some sq)) := fun j q W hj hb => by
            obtain ⟨-, kb', ko', sq, e, _, hb1', -, hq2, d0, d1, d2, d3, d4⟩ := hk'.kid hj
            injection e with e
            injection e with e1 e2
            subst e1 e2
            exact ⟨sq, hq2, cells5 hb hb1' ⟨d0, d1, d2, d3, d4⟩⟩
          have HHAS : Hid (∀ (j : Nat) (q : Con) (sq : Value) (W : World), y'.ks[j]? = some q → Below w.heap.size w W → KV w Z q.ks sq → Calls Try.prog 52 #[conV q.a sq, .int .i64 c] W fun e w' => e = .returned (.bool (decide (j = i))) ∧ Below W.heap.size W w') := fun j q sq W hj hb hkq => by
            have hgq : get x (u.take k ++ [j]) = some q := by
              rw [get_append _ HY.out]; obtain ⟨a, ks⟩ := y'; rw [get_consI (show ks[j]? = some q from hj)]; rfl
            have hval : hasB q c = decide (j = i) := by
              by_cases hji : j = i
              · subst hji; rw [h2] at hj; have hj := Option.some.inj hj; subst hj; simpa using hzc
              · rw [hno j q hj hji]; simpa using hji
            rw [← hval]
            exact Has_c Z q sq c W (hkq.next hb) (Nat.le_trans (all_tree_len HTR.out hgq) (by omega)) (fun b h => Nat.lt_of_lt_of_le (HZ.out b h) hb.size)
          have HSOME : Hid (∀ j, j ≤ i → ∃ q, y'.ks[j]? = some q) := fun j hj => ⟨_, List.getElem?_eq_getElem (by rw [← hmk]; omega)⟩
          have H2 := Lib.hid h2
          have H3 := Lib.hid h3
          have HI9 := Lib.hid hi
          have HWr := Lib.hid hWr
          have HRW := Lib.hid hrow
          have HQr := Lib.hid hq
          have HK2 := Lib.hid hk2
          obtain ⟨⟨q0, q1, q2, q3, q4⟩, -⟩ := c5 hq
          clear hmk hkk hzc hno hk' h2 h3 hi hWr hrow hq hk2 hn2 c0 c1 c2 c3 c4 h6 hzb
          go_wp2_with fail
          go_loopw [7] (fun z wq => ∃ j : Nat, j ≤ i ∧ z = .int .i64 j ∧ Below wo.heap.size wo wq) (fun z _ => i - (intOf z).toNat)
          case atStart => exact ⟨0, Nat.zero_le _, rfl, Below.refl _ _⟩
          case round =>
            clear q0 q1 q2 q3 q4
            obtain ⟨j, hj, rfl, hbq⟩ := hrel
            have hWq := HWr.out.trans (hbq.mono HWr.out.size)
            obtain ⟨q9, hq9⟩ := HSOME.out j hj
            obtain ⟨sq, hkq, c0, c1, c2, c3, c4⟩ := HCELL.out j q9 wr hq9 hWq
            have HH := Lib.hid (HHAS.out j q9 sq wr hq9 hWq hkq)
            obtain ⟨p9, k9, rfl, -⟩ := hkq.slice
            obtain ⟨n9, hn9⟩ : ∃ q, q = q9.ks.length := ⟨_, rfl⟩
            rw [← hn9] at HH c4
            obtain ⟨⟨q0, q1, q2, q3, q4⟩, -⟩ := c5 (HQr.out.next hbq)
            have hjm : j < mk := by omega
            have HBQ := Lib.hid hbq
            have HWQ := Lib.hid hWq
            clear hn9 hkq hbq hWq hq9
            by_cases hji : j = i
            · rw [decide_eq_true hji] at HH
              subst hji
              go_wp2_with fail
              refine HH.out.mono ?_
              rintro e wz ⟨rfl, hb⟩
              have hBz := HBQ.out.trans (hb.mono HBQ.out.size)
              have hWz := HWr.out.trans (hBz.mono HWr.out.size)
              obtain ⟨i0, hi0, hz0, hz1, hz2⟩ := int_info
              obtain ⟨wA, hwA⟩ : ∃ wA, wA = wz.alloc (.cells #[.int .i64 (j : Int)] 3) := ⟨_, rfl⟩
              have hbA : Below wz.heap.size wz wA := by rw [hwA]; exact (Below.refl _ _).alloc (Nat.le_refl _) _
              have hnews : ∀ q v, [Value.int .i64 (j : Int)][q]? = some v → wA.cell? ((⟨wz.heap.size, 0, none⟩ : Addr).add q) = some v := by
                rw [hwA]; exact World.news_of_block (Blk.new wz 3 #[.int .i64 (j : Int)]).raw
              have hbrA := hBz.trans (hbA.mono hBz.size)
              have HO := Lib.hid (row_same' HRW.out fun b hb' => hbrA.block b (HRW.out.lt b hb').2)
              have HWA := Lib.hid hwA
              have HNW := Lib.hid hnews
              have hsA : w.heap.size + 1 ≤ wA.heap.size := Nat.le_trans (HQr.out.lt) hbrA.size
              have HSA := Lib.hid hsA
              have HQA := Lib.hid (HQr.out.next hbrA)
              have HBA := Lib.hid (HWr.out.trans (hbrA.mono HWr.out.size))
              have hk9 : k ≤ 8 := by have := HL8.out; omega
              clear hb hBz hWz hwA hbA hnews hbrA hsA c0 c1 c2 c3 c4 q0 q1 q2 q3 q4 HH
              go_wp2_with (at_builtin; rw [← HWA.out]; (refine wpList_append_lies _ rfl (.tmp 30) (.tmp 32) 34 rfl (w.heap.size + 1) 3 i0 (.int .i64 0) 1 8 Try.underlying34 hi0 hz0 hz1 hz2 rfl (by decide) _ k _ rfl HO.out ⟨_, 0, none⟩ 1 1 [.int .i64 (j : Int)] rfl rfl HNW.out (by simp [Value.oneCell']) (by decide) (by unfold maxLen; omega) (by omega) HSA.out _ rfl ?_; intro g7 cap7 w7 ho7 hg7 hh7 _; have HO7 := Lib.hid ho7; have HG7 : Hid (Below (w.heap.size + 1) wA w7) := ⟨hg7.os, hg7.tape, hg7.output, hg7.size, fun b hb => hg7.block b (Nat.lt_of_lt_of_le hb HSA.out) (fun e => by have := (HO.out.lt b e.symm).1; omega)⟩; have HB7 := Lib.hid (HBA.out.trans (HG7.out.mono (Nat.le_succ _))); have HQ7 := Lib.hid (HQA.out.below HG7.out (Nat.lt_succ_self _)); obtain ⟨⟨q0, q1, q2, q3, q4⟩, ⟨f0, f1, f2, f3, f4⟩⟩ := c5 HQ7.out; obtain ⟨sz, hkz, c0, c1, c2, c3, c4⟩ := HCELL.out j z w7 H2.out HB7.out; obtain ⟨pz, kz, rfl, -⟩ := hkz.slice; obtain ⟨nz, hnz⟩ : ∃ q, q = z.ks.length := ⟨_, rfl⟩; rw [← hnz] at c4 hkz; have HKZ := Lib.hid hkz; clear ho7 hg7 hh7 hkz hnz))
              obtain ⟨hb5, hq5, -⟩ := st5_next HB7.out (Nat.le_refl _) HQ7.out (.int .i64 z.a.k) (.int .i64 z.a.w) (.int .i64 z.a.c) (.int .i64 z.a.s) (.slice pz nz kz)
              have ho5 := row_same' (w' := st5 w7 w.heap.size (.int .i64 z.a.k) (.int .i64 z.a.w) (.int .i64 z.a.c) (.int .i64 z.a.s) (.slice pz nz kz)) HO7.out fun b hb' => far_st5 w7 w.heap.size (.int .i64 z.a.k) (.int .i64 z.a.w) (.int .i64 z.a.c) (.int .i64 z.a.s) (.slice pz nz kz) b (by have := (HO7.out.lt b hb').1; omega)
              obtain ⟨w5, hw5⟩ : ∃ w5, w5 = st5 w7 w.heap.size (.int .i64 z.a.k) (.int .i64 z.a.w) (.int .i64 z.a.c) (.int .i64 z.a.s) (.slice pz nz kz) := ⟨_, rfl⟩
              rw [← hw5] at hb5 hq5 ho5
              unfold st5 at hw5
              rw [← hw5]
              have e : wayV (u.take (k + 1)) = wayV (u.take k) ++ [.int .i64 (j : Int)] := by rw [take_snoc HI9.out]; simp [wayV]
              refine ⟨⟨k + 1, by omega, hb5, ?_, z, .slice pz nz kz, H3.out, HKZ.out, hq5⟩, ?_⟩
              · rw [e]; exact ho5
              · show n - (k + 1) < n - k
                omega
            · rw [decide_eq_false hji] at HH
              go_wp2_with fail
              refine HH.out.mono ?_
              rintro e wz ⟨rfl, hb⟩
              have hBz := HBQ.out.trans (hb.mono HBQ.out.size)
              clear hb
              go_wp2_with fail
              exact ⟨⟨j + 1, by omega, by go_num, hBz⟩, by simp [intOf]; omega⟩
        · have hkn : k = n := by omega
          subst hkn
          obtain ⟨v0, j0, p0, l0, _, _, _, h3, _, h6⟩ := HWY.out
          have hl : y' = l0 := by
            have h := HY.out
            rw [List.take_of_length_le (by have := HN.out; omega), h6] at h
            exact (Option.some.inj h).symm
          subst hl
          have hke : (y'.a.k == 0) = true := by simpa using h3
          have HRW := Lib.hid hrow
          have HWr := Lib.hid hWr
          obtain ⟨⟨q0, q1, q2, q3, q4⟩, -⟩ := c5 hq
          clear hrow hWr hq hk' hmk h3 h6
          go_wp2_with fail
          refine (HR.out _ _).2 ⟨HWr.out, .inr ⟨u, _, HT.out, rfl, ?_, fun b o nn cp e => own_lo HRW.out e⟩⟩
          have h := HRW.out
          rw [List.take_of_length_le (by have := HN.out; omega)] at h
          exact WI.of_row h HN.out (by have := HL8.out; have := HN.out; omega)
end Go.Proofs.Ytbbmfpdlkogkfaa.Co
end
section
namespace Go.Proofs.Ytbbmfpdlkogkfaa.Co
open Go.RowKit Go.Shelf Go.Maps
theorem WI.same9 {w w' : World} {u : List Nat} {p : Option Addr} {n c : Nat} (h : WI w u (.slice p n c)) (hs : w.heap.size ≤ w'.heap.size) (hb : ∀ b o, p = some ⟨b, o, none⟩ → w'.heap[b]? = w.heap[b]?) : WI w' u (.slice p n c) := by
  obtain ⟨p', c', e, h2, h3, h4⟩ := h
  injection e with e1 e2 e3
  subst e1 e3
  refine ⟨p, c, by rw [e2], h2, h3, fun j i hi => ?_⟩
  obtain ⟨b, o, h5, h6, h7⟩ := h4 j i hi
  exact ⟨b, o, h5, Nat.lt_of_lt_of_le h6 hs, (cell_same (hb b o h5) _).trans h7⟩
set_option maxHeartbeats 4000000 in
set_option maxRecDepth 100000 in
theorem SwapR_c (a b : Int) (x : Con) (Z : Nat → Prop) (sv : Value) (w : World) (hK : KV w Z x.ks sv) (hZ : ∀ b, Z b → b < w.heap.size) (hd : (all x).length ≤ 1000000) (hf : fine x) :
    Calls Try.prog 36 #[conV x.a sv, .int .i64 a, .int .i64 b] w (DocR Z (swapI x a b) w) := by
  obtain ⟨p, cap, rfl, -⟩ := hK.slice
  obtain ⟨m, hm⟩ : ∃ m, m = x.ks.length := ⟨_, rfl⟩
  rw [← hm] at hK ⊢
  obtain ⟨R, hR⟩ : ∃ R, R = DocR Z (swapI x a b) w := ⟨_, rfl⟩
  have hRe : ∀ e w', R e w' ↔ DocR Z (swapI x a b) w e w' := by rw [hR]; exact fun _ _ => Iff.rfl
  rw [← hR]
  have HA1 := Lib.hid (fun (W : World) (h : Below w.heap.size w W) => asked_c Z x (.slice p m cap) a W (hK.next h) hd (fun b hb => Nat.lt_of_lt_of_le (hZ b hb) h.size))
  have HA2 := Lib.hid (fun (W : World) (h : Below w.heap.size w W) => asked_c Z x (.slice p m cap) b W (hK.next h) hd (fun b hb => Nat.lt_of_lt_of_le (hZ b hb) h.size))
  have HF1 := Lib.hid (fun (W : World) (h : Below w.heap.size w W) => FindRE_c Z x (.slice p m cap) a W (hK.next h) hd (fun b hb => Nat.lt_of_lt_of_le (hZ b hb) h.size))
  have HF2 := Lib.hid (fun (W : World) (h : Below w.heap.size w W) => FindRE_c Z x (.slice p m cap) b W (hK.next h) hd (fun b hb => Nat.lt_of_lt_of_le (hZ b hb) h.size))
  have hat := askedI_tree (x := x) (c := a)
  have hbt := askedI_tree (x := x) (c := b)
  obtain ⟨wB, hwB⟩ : ∃ wB, wB = (w.alloc (.cells #[.int .i64 x.a.k, .int .i64 x.a.w, .int .i64 x.a.c, .int .i64 x.a.s, .slice p m cap] 24)).alloc (.cells #[.int .i64 0, .int .i64 0, .int .i64 0, .int .i64 0, .slice none 0 0] 24) := ⟨_, rfl⟩
  have hb0 : Below w.heap.size w wB := by rw [hwB]; exact ((Below.refl w.heap.size w).alloc (Nat.le_refl _) _).alloc (by simp) _
  have hq1 : Blk wB w.heap.size 24 #[.int .i64 x.a.k, .int .i64 x.a.w, .int .i64 x.a.c, .int .i64 x.a.s, .slice p m cap] := by rw [hwB]; exact (Blk.new w 24 _).alloc _
  have hq2 : Blk wB (w.heap.size + 1) 24 #[.int .i64 0, .int .i64 0, .int .i64 0, .int .i64 0, .slice none 0 0] := by
    rw [hwB]; have := Blk.new (w.alloc (.cells #[.int .i64 x.a.k, .int .i64 x.a.w, .int .i64 x.a.c, .int .i64 x.a.s, .slice p m cap] 24)) 24 #[.int .i64 0, .int .i64 0, .int .i64 0, .int .i64 0, .slice none 0 0]; rwa [World.size_alloc] at this
  have HB0 := Lib.hid hb0
  have HQa0 := Lib.hid hq1
  have HQb0 := Lib.hid hq2
  have HWB := Lib.hid hwB
  have HZ := Lib.hid hZ
  have HS1 : Hid (w.heap.size + 1 + 1 ≤ wB.heap.size) := hq2.lt
  obtain ⟨q8, hq8⟩ : ∃ q, q = askedI x a := ⟨_, rfl⟩
  obtain ⟨q9, hq9⟩ : ∃ q, q = askedI x b := ⟨_, rfl⟩
  rw [← hq8] at HA1 hat
  rw [← hq9] at HA2 hbt
  by_cases h8 : q8 = 0
  rotate_left
  · rw [show swapI x a b = (zeroT, q8) by unfold swapI; rw [if_pos (by rw [← hq8]; exact h8), hq8]] at hRe
    have HR := Lib.hid hRe
    have hne : (q8 == 0) = false := by simpa using h8
    have HN0 := Lib.hid h8
    clear hR hRe hK hZ hd hf hwB hb0 hq1 hq2 hm hq8 hq9 hat hbt h8
    show Calls Try.prog 36 #[.agg #[.int .i64 x.a.k, .int .i64 x.a.w, .int .i64 x.a.c, .int .i64 x.a.s, .slice p m cap], .int .i64 a, .int .i64 b] w R
    go_enter Try.func36, Try.ntmps36
    go_wp2_with fail
    rw [← HWB.out]
    refine (HA1.out wB HB0.out).mono ?_
    rintro e w1 ⟨rfl, hb⟩
    have HB1 := Lib.hid (HB0.out.trans (hb.mono HB0.out.size))
    have HQa1 := Lib.hid (HQa0.out.next hb)
    have HQb1 := Lib.hid (HQb0.out.next hb)
    (try clear q0 q1 q2 q3 q4)
    obtain ⟨⟨q0, q1, q2, q3, q4⟩, -⟩ := c5 HQa1.out
    clear hb
    go_wp2_with fail
    refine (HA1.out w1 HB1.out).mono ?_
    rintro e w2 ⟨rfl, hb⟩
    have HB2 := Lib.hid (HB1.out.trans (hb.mono HB1.out.size))
    have HQa2 := Lib.hid (HQa1.out.next hb)
    have HQb2 := Lib.hid (HQb1.out.next hb)
    (try clear q0 q1 q2 q3 q4)
    obtain ⟨⟨q0, q1, q2, q3, q4⟩, -⟩ := c5 HQa2.out
    clear hb
    obtain ⟨⟨r0, r1, r2, r3, r4⟩, ⟨f0, f1, f2, f3, f4⟩⟩ := c5 HQb2.out
    clear q0 q1 q2 q3 q4
    go_wp2_with fail
    obtain ⟨hb5, hq5, -⟩ := st5_next HB2.out (by omega) HQb2.out (.int .i64 0) (.int .i64 0) (.int .i64 0) (.int .i64 0) (.slice none 0 0)
    have hk5 := KV.st5 (g := w.heap.size + 1) (Z' := fun b => Z b ∨ w.heap.size ≤ b) (KV.nil w2 Z none 0) (fun b hb => by have := HZ.out b hb; omega) (fun b hb => .inl hb) (.int .i64 0) (.int .i64 0) (.int .i64 0) (.int .i64 0) (.slice none 0 0)
    obtain ⟨w5, hw5⟩ : ∃ w5, w5 = st5 w2 (w.heap.size + 1) (.int .i64 0) (.int .i64 0) (.int .i64 0) (.int .i64 0) (.slice none 0 0) := ⟨_, rfl⟩
    rw [← hw5] at hb5 hq5 hk5
    unfold st5 at hw5
    rewrite [← hw5]
    obtain ⟨⟨b0, b1, b2, b3, b4⟩, -⟩ := c5 hq5
    exact bodyPost_ret (v := .tuple #[.agg #[.int .i64 0, .int .i64 0, .int .i64 0, .int .i64 0, .slice none 0 0], .int .i64 q8]) (by simp [results, Try.results36, go_sem, b0, b1, b2, b3, b4]) rfl ((HR.out _ _).2 ⟨hb5, zeroT, .slice none 0 0, rfl, hk5, (by rw [if_neg HN0.out])⟩)
  · subst h8
    by_cases h9 : q9 = 0
    rotate_left
    · rw [show swapI x a b = (zeroT, q9) by unfold swapI; rw [if_neg (by rw [← hq8]; simp), if_pos (by rw [← hq9]; exact h9), hq9]] at hRe
      have HR := Lib.hid hRe
      have hne : (q9 == 0) = false := by simpa using h9
      have HN0 := Lib.hid h9
      clear hR hRe hK hZ hd hf hwB hb0 hq1 hq2 hm hq8 hq9 hat hbt h9
      show Calls Try.prog 36 #[.agg #[.int .i64 x.a.k, .int .i64 x.a.w, .int .i64 x.a.c, .int .i64 x.a.s, .slice p m cap], .int .i64 a, .int .i64 b] w R
      go_enter Try.func36, Try.ntmps36
      go_wp2_with fail
      rw [← HWB.out]
      refine (HA1.out wB HB0.out).mono ?_
      rintro e w1 ⟨rfl, hb⟩
      have HB1 := Lib.hid (HB0.out.trans (hb.mono HB0.out.size))
      have HQa1 := Lib.hid (HQa0.out.next hb)
      have HQb1 := Lib.hid (HQb0.out.next hb)
      (try clear q0 q1 q2 q3 q4)
      obtain ⟨⟨q0, q1, q2, q3, q4⟩, -⟩ := c5 HQa1.out
      clear hb
      go_wp2_with fail
      refine (HA2.out w1 HB1.out).mono ?_
      rintro e w2 ⟨rfl, hb⟩
      have HB2 := Lib.hid (HB1.out.trans (hb.mono HB1.out.size))
      have HQa2 := Lib.hid (HQa1.out.next hb)
      have HQb2 := Lib.hid (HQb1.out.next hb)
      (try clear q0 q1 q2 q3 q4)
      obtain ⟨⟨q0, q1, q2, q3, q4⟩, -⟩ := c5 HQa2.out
      clear hb
      go_wp2_with fail
      refine (HA2.out w2 HB2.out).mono ?_
      rintro e w3 ⟨rfl, hb⟩
      have HB3 := Lib.hid (HB2.out.trans (hb.mono HB2.out.size))
      have HQa3 := Lib.hid (HQa2.out.next hb)
      have HQb3 := Lib.hid (HQb2.out.next hb)
      (try clear q0 q1 q2 q3 q4)
      obtain ⟨⟨q0, q1, q2, q3, q4⟩, -⟩ := c5 HQa3.out
      clear hb
      obtain ⟨⟨r0, r1, r2, r3, r4⟩, ⟨f0, f1, f2, f3, f4⟩⟩ := c5 HQb3.out
      clear q0 q1 q2 q3 q4
      go_wp2_with fail
      obtain ⟨hb5, hq5, -⟩ := st5_next HB3.out (by omega) HQb3.out (.int .i64 0) (.int .i64 0) (.int .i64 0) (.int .i64 0) (.slice none 0 0)
      have hk5 := KV.st5 (g := w.heap.size + 1) (Z' := fun b => Z b ∨ w.heap.size ≤ b) (KV.nil w3 Z none 0) (fun b hb => by have := HZ.out b hb; omega) (fun b hb => .inl hb) (.int .i64 0) (.int .i64 0) (.int .i64 0) (.int .i64 0) (.slice none 0 0)
      obtain ⟨w5, hw5⟩ : ∃ w5, w5 = st5 w3 (w.heap.size + 1) (.int .i64 0) (.int .i64 0) (.int .i64 0) (.int .i64 0) (.slice none 0 0) := ⟨_, rfl⟩
      rw [← hw5] at hb5 hq5 hk5
      unfold st5 at hw5
      rewrite [← hw5]
      obtain ⟨⟨b0, b1, b2, b3, b4⟩, -⟩ := c5 hq5
      exact bodyPost_ret (v := .tuple #[.agg #[.int .i64 0, .int .i64 0, .int .i64 0, .int .i64 0, .slice none 0 0], .int .i64 q9]) (by simp [results, Try.results36, go_sem, b0, b1, b2, b3, b4]) rfl ((HR.out _ _).2 ⟨hb5, zeroT, .slice none 0 0, rfl, hk5, (by rw [if_neg HN0.out])⟩)
    · subst h9
      obtain ⟨htr, hh1⟩ := hat rfl
      obtain ⟨-, hh2⟩ := hbt rfl
      rcases findI_spec (c := a) htr with ⟨h7, _⟩ | ⟨_, u, hu, hfu⟩
      · rw [hh1] at h7; cases h7
      rcases findI_spec (c := b) htr with ⟨h7, _⟩ | ⟨_, v, hv, hfv⟩
      · rw [hh2] at h7; cases h7
      obtain ⟨y, hgy, hyk, hyc, hyl, -, -⟩ := hu.leaf htr
      obtain ⟨z, hgz, hzk, hzc, hzl, -, -⟩ := hv.leaf htr
      have hYW := (hf u y hgy).1
      have hZW := (hf v z hgz).1
      obtain ⟨Y, hY⟩ : ∃ Y, Y = (.mk ⟨0, y.a.w, z.a.c, z.a.s⟩ [] : Con) := ⟨_, rfl⟩
      obtain ⟨Q, hQ⟩ : ∃ Q, Q = (.mk ⟨0, z.a.w, y.a.c, y.a.s⟩ [] : Con) := ⟨_, rfl⟩
      obtain ⟨x1, hx1⟩ : ∃ x1, x1 = put x u Y := ⟨_, rfl⟩
      obtain ⟨x2, hx2⟩ : ∃ x2, x2 = put x1 v Q := ⟨_, rfl⟩
      have hI : swapI x a b = (x2, 0) := by rw [swapI_at htr hu hv]; unfold swapF; rw [hgy, hgz, hx2, hx1, hY, hQ]
      have h00 : I64 0 := ⟨by decide, by decide⟩
      have hYw : Y.a.wide := by rw [hY]; exact ⟨h00, hYW.2.1, hZW.2.2.1, hZW.2.2.2⟩
      have hQw : Q.a.wide := by rw [hQ]; exact ⟨h00, hZW.2.1, hYW.2.2.1, hYW.2.2.2⟩
      have hYf : fine Y := by rw [hY]; exact fine_mk ⟨h00, hYW.2.1, hZW.2.2.1, hZW.2.2.2⟩ (by simp) (by simp)
      have hYk : Y.ks = [] := by rw [hY]; rfl
      have hQk : Q.ks = [] := by rw [hQ]; rfl
      have hf1 : fine x1 := by rw [hx1]; exact fine_put hf hYf
      have hg1 : ∃ t, get x1 v = some t := by
        by_cases e : u = v
        · subst e; exact ⟨Y, by rw [hx1]; exact get_put_at hgy⟩
        · exact ⟨z, by rw [hx1]; exact get_put_other hgy hyl hgz hzl e⟩
      obtain ⟨t1, hg1⟩ := hg1
      rw [hI] at hRe
      have HR := Lib.hid hRe
      have HFU := Lib.hid hfu
      have HFV := Lib.hid hfv
      have HAT := Lib.hid (fun (W : World) (h : Below w.heap.size w W) (vv : Value) (hv : WI W u vv) => At_c Z x y (.slice p m cap) u vv W (hK.next h) (fun b hb => Nat.lt_of_lt_of_le (hZ b hb) h.size) hv hgy)
      have HBT := Lib.hid (fun (W : World) (h : Below w.heap.size w W) (vv : Value) (hv : WI W v vv) => At_c Z x z (.slice p m cap) v vv W (hK.next h) (fun b hb => Nat.lt_of_lt_of_le (hZ b hb) h.size) hv hgz)
      have hYa : conV Y.a (.slice none 0 0) = .agg #[.int .i64 0, .int .i64 y.a.w, .int .i64 z.a.c, .int .i64 z.a.s, .slice none 0 0] := by rw [hY]; simp only [Tr.a_mk]
      have hQa : conV Q.a (.slice none 0 0) = .agg #[.int .i64 0, .int .i64 z.a.w, .int .i64 y.a.c, .int .i64 y.a.s, .slice none 0 0] := by rw [hQ]; simp only [Tr.a_mk]
      have HP1 := Lib.hid (fun (W : World) (h : Below w.heap.size w W) (vv : Value) (hv : WI W u vv) => by
        have := Put_c Y (.slice none 0 0) hYw u Z x y (.slice p m cap) vv W (fun b hb => Nat.lt_of_lt_of_le (hZ b hb) h.size) (hK.next h) (by rw [hYk]; exact KV.nil W Z none 0) hv hgy hf
        rw [hYa, ← hx1] at this
        exact this)
      have HP2 := Lib.hid (fun (W : World) (Z' : Nat → Prop) (s vv : Value) (h : ∀ b, Z' b → b < W.heap.size) (hk : KV W Z' x1.ks s) (hv : WI W v vv) => by
        have := Put_c Q (.slice none 0 0) hQw v Z' x1 t1 s vv W h hk (by rw [hQk]; exact KV.nil W Z' none 0) hv hg1 hf1
        rw [hQa, ← hx2] at this
        exact this)
      obtain ⟨ya, hya⟩ : ∃ d, d = y.a := ⟨_, rfl⟩
      obtain ⟨za, hza⟩ : ∃ d, d = z.a := ⟨_, rfl⟩
      rw [← hya] at HP1 HP2 HAT
      rw [← hza] at HP1 HP2 HBT
      rw [hyl] at HAT
      rw [hzl] at HBT
      clear hR hRe hK hZ hd hf hwB hb0 hq1 hq2 hm hq8 hq9 hat hbt hu hv hfu hfv htr hh1 hh2 hgy hgz hyk hzk hyc hzc hyl hzl hYW hZW hY hQ hx1 hx2 hI hYw hQw hYf hYk hQk hf1 hg1 hYa hQa h00 hya hza
      show Calls Try.prog 36 #[.agg #[.int .i64 x.a.k, .int .i64 x.a.w, .int .i64 x.a.c, .int .i64 x.a.s, .slice p m cap], .int .i64 a, .int .i64 b] w R
      go_enter Try.func36, Try.ntmps36
      go_wp2_with fail
      rw [← HWB.out]
      refine (HA1.out wB HB0.out).mono ?_
      rintro e w1 ⟨rfl, hb⟩
      have HB1 := Lib.hid (HB0.out.trans (hb.mono HB0.out.size))
      have HQa1 := Lib.hid (HQa0.out.next hb)
      have HQb1 := Lib.hid (HQb0.out.next hb)
      (try clear q0 q1 q2 q3 q4)
      obtain ⟨⟨q0, q1, q2, q3, q4⟩, -⟩ := c5 HQa1.out
      clear hb
      go_wp2_with fail
      refine (HA2.out w1 HB1.out).mono ?_
      rintro e w2 ⟨rfl, hb⟩
      have HB2 := Lib.hid (HB1.out.trans (hb.mono HB1.out.size))
      have HQa2 := Lib.hid (HQa1.out.next hb)
      have HQb2 := Lib.hid (HQb1.out.next hb)
      (try clear q0 q1 q2 q3 q4)
      obtain ⟨⟨q0, q1, q2, q3, q4⟩, -⟩ := c5 HQa2.out
      clear hb
      go_wp2_with fail
      refine (HF1.out w2 HB2.out).mono ?_
      rintro e w3 ⟨hb, ⟨hn, -⟩ | ⟨u9, vw, hfi2, rfl, hwi, hyo⟩⟩
      · rw [HFU.out] at hn; cases hn
      rw [HFU.out] at hfi2
      have hfi2 := Option.some.inj hfi2
      subst hfi2
      obtain ⟨p1, c1, rfl, -, -⟩ := hwi.slice
      obtain ⟨n1, hn1⟩ : ∃ n, n = u.length := ⟨_, rfl⟩
      rw [← hn1] at hwi hyo ⊢
      have HYO1 := Lib.hid (fun b o (h : p1 = some ⟨b, o, none⟩) => hyo b o n1 c1 (by rw [h]))
      have HWI1 := Lib.hid hwi
      have HB3 := Lib.hid (HB2.out.trans (hb.mono HB2.out.size))
      have HQa3 := Lib.hid (HQa2.out.next hb)
      have HQb3 := Lib.hid (HQb2.out.next hb)
      (try clear q0 q1 q2 q3 q4)
      obtain ⟨⟨q0, q1, q2, q3, q4⟩, -⟩ := c5 HQa3.out
      clear hb hwi hyo hn1
      go_wp2_with fail
      refine (HF2.out w3 HB3.out).mono ?_
      rintro e w4 ⟨hb, ⟨hn, -⟩ | ⟨u9, vw, hfi2, rfl, hwi, hyo⟩⟩
      · rw [HFV.out] at hn; cases hn
      rw [HFV.out] at hfi2
      have hfi2 := Option.some.inj hfi2
      subst hfi2
      obtain ⟨p2, c2, rfl, -, -⟩ := hwi.slice
      obtain ⟨n2, hn2⟩ : ∃ n, n = v.length := ⟨_, rfl⟩
      rw [← hn2] at hwi hyo ⊢
      have HYO2 := Lib.hid (fun b o (h : p2 = some ⟨b, o, none⟩) => hyo b o n2 c2 (by rw [h]))
      have HWI2 := Lib.hid hwi
      have HWI1 := Lib.hid (HWI1.out.next hb)
      have HB4 := Lib.hid (HB3.out.trans (hb.mono HB3.out.size))
      have HQa4 := Lib.hid (HQa3.out.next hb)
      have HQb4 := Lib.hid (HQb3.out.next hb)
      (try clear q0 q1 q2 q3 q4)
      obtain ⟨⟨q0, q1, q2, q3, q4⟩, -⟩ := c5 HQa4.out
      clear hb hwi hyo hn2
      go_wp2_with fail
      have HSS : Hid (∀ W, Below w4.heap.size w4 W → W.cell? ⟨w.heap.size, 0, none⟩ = some (.int .i64 x.a.k) ∧ W.cell? ⟨w.heap.size, 1, none⟩ = some (.int .i64 x.a.w) ∧ W.cell? ⟨w.heap.size, 2, none⟩ = some (.int .i64 x.a.c) ∧ W.cell? ⟨w.heap.size, 3, none⟩ = some (.int .i64 x.a.s) ∧ W.cell? ⟨w.heap.size, 4, none⟩ = some (.slice p m cap)) := fun W h => (c5 (HQa4.out.next h)).1
      have HS4 : Hid (w.heap.size + 1 + 1 ≤ w4.heap.size) := HQb4.out.lt
      clear q0 q1 q2 q3 q4
      go_cut [12, 13] (fun s12 s13 wx => ∃ g h sy sz, s12 = .pointer (some ⟨g, 0, none⟩) ∧ s13 = .pointer (some ⟨h, 0, none⟩) ∧ Blk wx g 24 #[.int .i64 ya.k, .int .i64 ya.w, .int .i64 ya.c, .int .i64 ya.s, sy] ∧ Blk wx h 24 #[.int .i64 za.k, .int .i64 za.w, .int .i64 za.c, .int .i64 za.s, sz] ∧ w4.heap.size ≤ g ∧ w4.heap.size ≤ h ∧ Below w4.heap.size w4 wx)
      case first =>
        refine wp_region_noPanic ?_
        refine wp_region_held_drew (S := fun wx => wx.cell? ⟨w.heap.size, 0, none⟩ = some (.int .i64 x.a.k) ∧ wx.cell? ⟨w.heap.size, 1, none⟩ = some (.int .i64 x.a.w) ∧ wx.cell? ⟨w.heap.size, 2, none⟩ = some (.int .i64 x.a.c) ∧ wx.cell? ⟨w.heap.size, 3, none⟩ = some (.int .i64 x.a.s) ∧ wx.cell? ⟨w.heap.size, 4, none⟩ = some (.slice p m cap)) (by kernel_rfl) (by exact HSS.out _ (Below.refl _ _).drew) (fun hHeld => ?_)
        refine wpAnyH_take (i := 0) (v := ?va0) rfl (by kernel_rfl) (by kernel_rfl) (by kernel_rfl) (fun _ _ _ h => h) (Or.inl ⟨by kernel_rfl, ?ya0⟩) (by assumption) ?ra0
        case ya0 => (intro wq hSw; (try dsimp only at hSw); go_simp; (try with_reducible rfl))
        (try simp only [Act.put, List.getElem_toArray, List.getElem_cons_zero, List.setIfInBounds_toArray, List.set_cons_zero, List.set_cons_succ])
        refine wpAnyH_take (i := 1) (v := ?va1) rfl (by kernel_rfl) (by kernel_rfl) (by kernel_rfl) (fun _ _ _ h => h) (Or.inl ⟨by kernel_rfl, ?ya1⟩) (by assumption) ?ra1
        case ya1 => (intro wq hSw; (try dsimp only at hSw); go_simp; (try with_reducible rfl))
        (try simp only [Act.put, List.getElem_toArray, List.getElem_cons_succ, List.getElem_cons_zero, List.setIfInBounds_toArray, List.set_cons_zero, List.set_cons_succ])
        refine wpAnyH_take (i := 3) (v := ?va3) rfl (by kernel_rfl) (by kernel_rfl) (by kernel_rfl) (fun _ _ _ h => h) (Or.inl ⟨by kernel_rfl, ?ya3⟩) (by assumption) ?ra3
        case ya3 => (intro wq hSw; (try dsimp only at hSw); go_simp; (try with_reducible rfl))
        (try simp only [Act.put, List.getElem_toArray, List.getElem_cons_succ, List.getElem_cons_zero, List.setIfInBounds_toArray, List.set_cons_zero, List.set_cons_succ])
        refine wpAnyH_take (i := 4) (v := ?va4) rfl (by kernel_rfl) (by kernel_rfl) (by kernel_rfl) (fun _ _ _ h => h) (Or.inl ⟨by kernel_rfl, ?ya4⟩) (by assumption) ?ra4
        case ya4 => (intro wq hSw; (try dsimp only at hSw); go_simp; (try with_reducible rfl))
        (try simp only [Act.put, List.getElem_toArray, List.getElem_cons_succ, List.getElem_cons_zero, List.setIfInBounds_toArray, List.set_cons_zero, List.set_cons_succ])
        obtain ⟨wd, hwd⟩ : ∃ wd, wd = w4.drew := ⟨_, rfl⟩
        have HBd := Lib.hid (show Below w4.heap.size w4 wd from hwd ▸ (Below.refl _ _).drew)
        rw [← hwd]
        clear hwd
        refine wpAnyH_ready (rs := [2, 6, 7]) (by kernel_rfl) (by simp) ?_
        refine AllReadyH.cons rfl (fun K hK => ?_) (AllReadyH.cons rfl (fun K hK => ?_) (AllReadyH.cons rfl (fun K hK => ?_) AllReadyH.nil))
        · go_simp
          refine (HAT.out wd (HB4.out.trans (HBd.out.mono HB4.out.size)) _ (HWI1.out.next HBd.out)).mono ?_
          rintro e wn1 ⟨hb, sy, rfl, hk⟩
          obtain ⟨py, cy, rfl, -⟩ := hk.slice
          have HBn1 := Lib.hid (HBd.out.trans (hb.mono HBd.out.size))
          (try dsimp only)
          refine hK.out _ _ (by exact HSS.out _ HBn1.out) (fun hHeld => ?_)
          clear hK K hk hb
          (try simp only [Act.put, List.getElem_toArray, List.getElem_cons_succ, List.getElem_cons_zero, List.setIfInBounds_toArray, List.set_cons_zero, List.set_cons_succ])
          refine wpAnyH_ready (rs := [5, 6, 7]) (by kernel_rfl) (by simp) ?_
          refine AllReadyH.cons rfl (fun K hK => ?_) (AllReadyH.cons rfl (fun K hK => ?_) (AllReadyH.cons rfl (fun K hK => ?_) AllReadyH.nil))
          · go_simp
            refine (HBT.out wn1 (HB4.out.trans (HBn1.out.mono HB4.out.size)) _ (HWI2.out.next HBn1.out)).mono ?_
            rintro e wn2 ⟨hb, sz, rfl, hk⟩
            obtain ⟨pz, cz, rfl, -⟩ := hk.slice
            have HBn2 := Lib.hid (HBn1.out.trans (hb.mono HBn1.out.size))
            (try dsimp only)
            refine hK.out _ _ (by exact HSS.out _ HBn2.out) (fun hHeld => ?_)
            clear hK K hk hb
            (try simp only [Act.put, List.getElem_toArray, List.getElem_cons_succ, List.getElem_cons_zero, List.setIfInBounds_toArray, List.set_cons_zero, List.set_cons_succ])
            refine wpAnyH_ready (rs := [6, 7]) (by kernel_rfl) (by simp) ?_
            refine AllReadyH.cons rfl (fun K hK => ?_) (AllReadyH.cons rfl (fun K hK => ?_) AllReadyH.nil)
            · go_simp
              refine hK.out _ _ (by exact HSS.out _ (HBn2.out.alloc HBn2.out.size (.cells #[.int .i64 0, .int .i64 0, .int .i64 0, .int .i64 0, .slice none 0 0] 24))) (fun hHeld => ?_)
              clear hK K
              (try simp only [Act.put, List.getElem_toArray, List.getElem_cons_succ, List.getElem_cons_zero, List.setIfInBounds_toArray, List.set_cons_zero, List.set_cons_succ])
              obtain ⟨wn3, hwn⟩ : ∃ wn, wn = wn2.alloc (.cells #[.int .i64 0, .int .i64 0, .int .i64 0, .int .i64 0, .slice none 0 0] 24) := ⟨_, rfl⟩
              have HBn3 := Lib.hid (show Below w4.heap.size w4 wn3 from hwn ▸ HBn2.out.alloc HBn2.out.size _)
              have HG63 := Lib.hid (show Blk wn3 wn2.heap.size 24 #[.int .i64 0, .int .i64 0, .int .i64 0, .int .i64 0, .slice none 0 0] from hwn ▸ Blk.new _ _ _)
              have HL63 : Hid (w4.heap.size ≤ wn2.heap.size) := HBn2.out.size
              rw [← hwn]
              clear hwn
              refine wpAnyH_ready (rs := [7]) (by kernel_rfl) (by simp) ?_
              refine AllReadyH.cons rfl (fun K hK => ?_) AllReadyH.nil
              · go_simp
                refine hK.out _ _ (by exact HSS.out _ (HBn3.out.alloc HBn3.out.size (.cells #[.int .i64 0, .int .i64 0, .int .i64 0, .int .i64 0, .slice none 0 0] 24))) (fun hHeld => ?_)
                clear hK K
                (try simp only [Act.put, List.getElem_toArray, List.getElem_cons_succ, List.getElem_cons_zero, List.setIfInBounds_toArray, List.set_cons_zero, List.set_cons_succ])
                obtain ⟨wn4, hwn⟩ : ∃ wn, wn = wn3.alloc (.cells #[.int .i64 0, .int .i64 0, .int .i64 0, .int .i64 0, .slice none 0 0] 24) := ⟨_, rfl⟩
                have HBn4 := Lib.hid (show Below w4.heap.size w4 wn4 from hwn ▸ HBn3.out.alloc HBn3.out.size _)
                have HG74 := Lib.hid (show Blk wn4 wn3.heap.size 24 #[.int .i64 0, .int .i64 0, .int .i64 0, .int .i64 0, .slice none 0 0] from hwn ▸ Blk.new _ _ _)
                have HL74 : Hid (w4.heap.size ≤ wn3.heap.size) := HBn3.out.size
                have HG64 := Lib.hid (show Blk wn4 _ 24 #[.int .i64 0, .int .i64 0, .int .i64 0, .int .i64 0, .slice none 0 0] from hwn ▸ HG63.out.alloc _)
                have HL64 := HL63
                have HNE := Lib.hid (show _ ≠ _ from Nat.ne_of_lt HG63.out.lt)
                rw [← hwn]
                clear hwn
                obtain ⟨⟨g0, g1, g2, g3, g4⟩, k0, k1, k2, k3, k4⟩ := c5 HG64.out
                obtain ⟨⟨h0, h1, h2, h3, h4⟩, l0, l1, l2, l3, l4⟩ := c5 HG74.out
                refine wpAnyH_ready (rs := [8]) (by kernel_rfl) (by simp) ?_
                refine AllReadyH.cons rfl (fun K hK => ?_) AllReadyH.nil
                go_simp
                refine hK.out _ _ (by exact HSS.out _ (below_st5 HBn4.out HL64.out (.int .i64 ya.k) (.int .i64 ya.w) (.int .i64 ya.c) (.int .i64 ya.s) (.slice py 0 cy))) (fun hHeld => ?_)
                clear hK K
                (try simp only [Act.put, List.getElem_toArray, List.getElem_cons_succ, List.getElem_cons_zero, List.setIfInBounds_toArray, List.set_cons_zero, List.set_cons_succ])
                obtain ⟨v8, hwn⟩ : ∃ wn, wn = st5 wn4 wn2.heap.size (.int .i64 ya.k) (.int .i64 ya.w) (.int .i64 ya.c) (.int .i64 ya.s) (.slice py 0 cy) := ⟨_, rfl⟩
                have HX6 := Lib.hid (show Blk v8 _ 24 #[.int .i64 ya.k, .int .i64 ya.w, .int .i64 ya.c, .int .i64 ya.s, .slice py 0 cy] from hwn ▸ blk_st5 HG64.out (.int .i64 ya.k) (.int .i64 ya.w) (.int .i64 ya.c) (.int .i64 ya.s) (.slice py 0 cy))
                have HX7 := Lib.hid (show Blk v8 _ 24 #[.int .i64 0, .int .i64 0, .int .i64 0, .int .i64 0, .slice none 0 0] from hwn ▸ (far_st5 _ _ _ _ _ _ _ _ (fun e => HNE.out e.symm)).trans HG74.out)
                have HBv8 := Lib.hid (show Below w4.heap.size w4 v8 from hwn ▸ below_st5 HBn4.out HL64.out (.int .i64 ya.k) (.int .i64 ya.w) (.int .i64 ya.c) (.int .i64 ya.s) (.slice py 0 cy))
                unfold st5 at hwn
                rw [← hwn]
                clear hwn
                clear g0 g1 g2 g3 g4 h0 h1 h2 h3 h4 k0 k1 k2 k3 k4 l0 l1 l2 l3 l4
                obtain ⟨⟨h0, h1, h2, h3, h4⟩, l0, l1, l2, l3, l4⟩ := c5 HX7.out
                refine wpAnyH_ready (rs := [9]) (by kernel_rfl) (by simp) ?_
                refine AllReadyH.cons rfl (fun K hK => ?_) AllReadyH.nil
                go_simp
                refine hK.out _ _ (by exact HSS.out _ (below_st5 HBv8.out HL74.out (.int .i64 za.k) (.int .i64 za.w) (.int .i64 za.c) (.int .i64 za.s) (.slice pz 0 cz))) (fun hHeld => ?_)
                clear hK K
                (try simp only [Act.put, List.getElem_toArray, List.getElem_cons_succ, List.getElem_cons_zero, List.setIfInBounds_toArray, List.set_cons_zero, List.set_cons_succ])
                obtain ⟨v9, hwn⟩ : ∃ wn, wn = st5 v8 wn3.heap.size (.int .i64 za.k) (.int .i64 za.w) (.int .i64 za.c) (.int .i64 za.s) (.slice pz 0 cz) := ⟨_, rfl⟩
                have HY7 := Lib.hid (show Blk v9 _ 24 #[.int .i64 za.k, .int .i64 za.w, .int .i64 za.c, .int .i64 za.s, .slice pz 0 cz] from hwn ▸ blk_st5 HX7.out (.int .i64 za.k) (.int .i64 za.w) (.int .i64 za.c) (.int .i64 za.s) (.slice pz 0 cz))
                have HY6 := Lib.hid (show Blk v9 _ 24 #[.int .i64 ya.k, .int .i64 ya.w, .int .i64 ya.c, .int .i64 ya.s, .slice py 0 cy] from hwn ▸ (far_st5 _ _ _ _ _ _ _ _ HNE.out).trans HX6.out)
                have HBv9 := Lib.hid (show Below w4.heap.size w4 v9 from hwn ▸ below_st5 HBv8.out HL74.out (.int .i64 za.k) (.int .i64 za.w) (.int .i64 za.c) (.int .i64 za.s) (.slice pz 0 cz))
                unfold st5 at hwn
                rw [← hwn]
                clear hwn
                refine wpAnyH_done (by kernel_rfl) ?_ _
                refine NoPanic.normal ?_
                clear h0 h1 h2 h3 h4 l0 l1 l2 l3 l4 hHeld
                go_wp2_with fail
                go_meet
                exact ⟨_, _, _, _, rfl, rfl, HY6.out, HY7.out, HL64.out, HL74.out, HBv9.out⟩
            · go_simp
              refine hK.out _ _ (by exact HSS.out _ (HBn2.out.alloc HBn2.out.size (.cells #[.int .i64 0, .int .i64 0, .int .i64 0, .int .i64 0, .slice none 0 0] 24))) (fun hHeld => ?_)
              clear hK K
              (try simp only [Act.put, List.getElem_toArray, List.getElem_cons_succ, List.getElem_cons_zero, List.setIfInBounds_toArray, List.set_cons_zero, List.set_cons_succ])
              obtain ⟨wn5, hwn⟩ : ∃ wn, wn = wn2.alloc (.cells #[.int .i64 0, .int .i64 0, .int .i64 0, .int .i64 0, .slice none 0 0] 24) := ⟨_, rfl⟩
              have HBn5 := Lib.hid (show Below w4.heap.size w4 wn5 from hwn ▸ HBn2.out.alloc HBn2.out.size _)
              have HG75 := Lib.hid (show Blk wn5 wn2.heap.size 24 #[.int .i64 0, .int .i64 0, .int .i64 0, .int .i64 0, .slice none 0 0] from hwn ▸ Blk.new _ _ _)
              have HL75 : Hid (w4.heap.size ≤ wn2.heap.size) := HBn2.out.size
              rw [← hwn]
              clear hwn
              refine wpAnyH_ready (rs := [6]) (by kernel_rfl) (by simp) ?_
              refine AllReadyH.cons rfl (fun K hK => ?_) AllReadyH.nil
              · go_simp
                refine hK.out _ _ (by exact HSS.out _ (HBn5.out.alloc HBn5.out.size (.cells #[.int .i64 0, .int .i64 0, .int .i64 0, .int .i64 0, .slice none 0 0] 24))) (fun hHeld => ?_)
                clear hK K
                (try simp only [Act.put, List.getElem_toArray, List.getElem_cons_succ, List.getElem_cons_zero, List.setIfInBounds_toArray, List.set_cons_zero, List.set_cons_succ])
                obtain ⟨wn6, hwn⟩ : ∃ wn, wn = wn5.alloc (.cells #[.int .i64 0, .int .i64 0, .int .i64 0, .int .i64 0, .slice none 0 0] 24) := ⟨_, rfl⟩
                have HBn6 := Lib.hid (show Below w4.heap.size w4 wn6 from hwn ▸ HBn5.out.alloc HBn5.out.size _)
                have HG66 := Lib.hid (show Blk wn6 wn5.heap.size 24 #[.int .i64 0, .int .i64 0, .int .i64 0, .int .i64 0, .slice none 0 0] from hwn ▸ Blk.new _ _ _)
                have HL66 : Hid (w4.heap.size ≤ wn5.heap.size) := HBn5.out.size
                have HG76 := Lib.hid (show Blk wn6 _ 24 #[.int .i64 0, .int .i64 0, .int .i64 0, .int .i64 0, .slice none 0 0] from hwn ▸ HG75.out.alloc _)
                have HL76 := HL75
                have HNE := Lib.hid (show _ ≠ _ from Nat.ne_of_gt HG75.out.lt)
                rw [← hwn]
                clear hwn
                obtain ⟨⟨g0, g1, g2, g3, g4⟩, k0, k1, k2, k3, k4⟩ := c5 HG66.out
                obtain ⟨⟨h0, h1, h2, h3, h4⟩, l0, l1, l2, l3, l4⟩ := c5 HG76.out
                refine wpAnyH_ready (rs := [8]) (by kernel_rfl) (by simp) ?_
                refine AllReadyH.cons rfl (fun K hK => ?_) AllReadyH.nil
                go_simp
                refine hK.out _ _ (by exact HSS.out _ (below_st5 HBn6.out HL66.out (.int .i64 ya.k) (.int .i64 ya.w) (.int .i64 ya.c) (.int .i64 ya.s) (.slice py 0 cy))) (fun hHeld => ?_)
                clear hK K
                (try simp only [Act.put, List.getElem_toArray, List.getElem_cons_succ, List.getElem_cons_zero, List.setIfInBounds_toArray, List.set_cons_zero, List.set_cons_succ])
                obtain ⟨v8, hwn⟩ : ∃ wn, wn = st5 wn6 wn5.heap.size (.int .i64 ya.k) (.int .i64 ya.w) (.int .i64 ya.c) (.int .i64 ya.s) (.slice py 0 cy) := ⟨_, rfl⟩
                have HX6 := Lib.hid (show Blk v8 _ 24 #[.int .i64 ya.k, .int .i64 ya.w, .int .i64 ya.c, .int .i64 ya.s, .slice py 0 cy] from hwn ▸ blk_st5 HG66.out (.int .i64 ya.k) (.int .i64 ya.w) (.int .i64 ya.c) (.int .i64 ya.s) (.slice py 0 cy))
                have HX7 := Lib.hid (show Blk v8 _ 24 #[.int .i64 0, .int .i64 0, .int .i64 0, .int .i64 0, .slice none 0 0] from hwn ▸ (far_st5 _ _ _ _ _ _ _ _ (fun e => HNE.out e.symm)).trans HG76.out)
                have HBv8 := Lib.hid (show Below w4.heap.size w4 v8 from hwn ▸ below_st5 HBn6.out HL66.out (.int .i64 ya.k) (.int .i64 ya.w) (.int .i64 ya.c) (.int .i64 ya.s) (.slice py 0 cy))
                unfold st5 at hwn
                rw [← hwn]
                clear hwn
                clear g0 g1 g2 g3 g4 h0 h1 h2 h3 h4 k0 k1 k2 k3 k4 l0 l1 l2 l3 l4
                obtain ⟨⟨h0, h1, h2, h3, h4⟩, l0, l1, l2, l3, l4⟩ := c5 HX7.out
                refine wpAnyH_ready (rs := [9]) (by kernel_rfl) (by simp) ?_
                refine AllReadyH.cons rfl (fun K hK => ?_) AllReadyH.nil
                go_simp
                refine hK.out _ _ (by exact HSS.out _ (below_st5 HBv8.out HL76.out (.int .i64 za.k) (.int .i64 za.w) (.int .i64 za.c) (.int .i64 za.s) (.slice pz 0 cz))) (fun hHeld => ?_)
                clear hK K
                (try simp only [Act.put, List.getElem_toArray, List.getElem_cons_succ, List.getElem_cons_zero, List.setIfInBounds_toArray, List.set_cons_zero, List.set_cons_succ])
                obtain ⟨v9, hwn⟩ : ∃ wn, wn = st5 v8 wn2.heap.size (.int .i64 za.k) (.int .i64 za.w) (.int .i64 za.c) (.int .i64 za.s) (.slice pz 0 cz) := ⟨_, rfl⟩
                have HY7 := Lib.hid (show Blk v9 _ 24 #[.int .i64 za.k, .int .i64 za.w, .int .i64 za.c, .int .i64 za.s, .slice pz 0 cz] from hwn ▸ blk_st5 HX7.out (.int .i64 za.k) (.int .i64 za.w) (.int .i64 za.c) (.int .i64 za.s) (.slice pz 0 cz))
                have HY6 := Lib.hid (show Blk v9 _ 24 #[.int .i64 ya.k, .int .i64 ya.w, .int .i64 ya.c, .int .i64 ya.s, .slice py 0 cy] from hwn ▸ (far_st5 _ _ _ _ _ _ _ _ HNE.out).trans HX6.out)
                have HBv9 := Lib.hid (show Below w4.heap.size w4 v9 from hwn ▸ below_st5 HBv8.out HL76.out (.int .i64 za.k) (.int .i64 za.w) (.int .i64 za.c) (.int .i64 za.s) (.slice pz 0 cz))
                unfold st5 at hwn
                rw [← hwn]
                clear hwn
                refine wpAnyH_done (by kernel_rfl) ?_ _
                refine NoPanic.normal ?_
                clear h0 h1 h2 h3 h4 l0 l1 l2 l3 l4 hHeld
                go_wp2_with fail
                go_meet
                exact ⟨_, _, _, _, rfl, rfl, HY6.out, HY7.out, HL66.out, HL76.out, HBv9.out⟩
          · go_simp
            refine hK.out _ _ (by exact HSS.out _ (HBn1.out.alloc HBn1.out.size (.cells #[.int .i64 0, .int .i64 0, .int .i64 0, .int .i64 0, .slice none 0 0] 24))) (fun hHeld => ?_)
            clear hK K
            (try simp only [Act.put, List.getElem_toArray, List.getElem_cons_succ, List.getElem_cons_zero, List.setIfInBounds_toArray, List.set_cons_zero, List.set_cons_succ])
            obtain ⟨wn7, hwn⟩ : ∃ wn, wn = wn1.alloc (.cells #[.int .i64 0, .int .i64 0, .int .i64 0, .int .i64 0, .slice none 0 0] 24) := ⟨_, rfl⟩
            have HBn7 := Lib.hid (show Below w4.heap.size w4 wn7 from hwn ▸ HBn1.out.alloc HBn1.out.size _)
            have HG67 := Lib.hid (show Blk wn7 wn1.heap.size 24 #[.int .i64 0, .int .i64 0, .int .i64 0, .int .i64 0, .slice none 0 0] from hwn ▸ Blk.new _ _ _)
            have HL67 : Hid (w4.heap.size ≤ wn1.heap.size) := HBn1.out.size
            rw [← hwn]
            clear hwn
            refine wpAnyH_ready (rs := [5, 7]) (by kernel_rfl) (by simp) ?_
            refine AllReadyH.cons rfl (fun K hK => ?_) (AllReadyH.cons rfl (fun K hK => ?_) AllReadyH.nil)
            · go_simp
              refine (HBT.out wn7 (HB4.out.trans (HBn7.out.mono HB4.out.size)) _ (HWI2.out.next HBn7.out)).mono ?_
              rintro e wn8 ⟨hb, sz, rfl, hk⟩
              obtain ⟨pz, cz, rfl, -⟩ := hk.slice
              have HBn8 := Lib.hid (HBn7.out.trans (hb.mono HBn7.out.size))
              have HG68 := Lib.hid (HG67.out.next hb)
              have HL68 := HL67
              (try dsimp only)
              refine hK.out _ _ (by exact HSS.out _ HBn8.out) (fun hHeld => ?_)
              clear hK K hk hb
              (try simp only [Act.put, List.getElem_toArray, List.getElem_cons_succ, List.getElem_cons_zero, List.setIfInBounds_toArray, List.set_cons_zero, List.set_cons_succ])
              refine wpAnyH_ready (rs := [7]) (by kernel_rfl) (by simp) ?_
              refine AllReadyH.cons rfl (fun K hK => ?_) AllReadyH.nil
              · go_simp
                refine hK.out _ _ (by exact HSS.out _ (HBn8.out.alloc HBn8.out.size (.cells #[.int .i64 0, .int .i64 0, .int .i64 0, .int .i64 0, .slice none 0 0] 24))) (fun hHeld => ?_)
                clear hK K
                (try simp only [Act.put, List.getElem_toArray, List.getElem_cons_succ, List.getElem_cons_zero, List.setIfInBounds_toArray, List.set_cons_zero, List.set_cons_succ])
                obtain ⟨wn9, hwn⟩ : ∃ wn, wn = wn8.alloc (.cells #[.int .i64 0, .int .i64 0, .int .i64 0, .int .i64 0, .slice none 0 0] 24) := ⟨_, rfl⟩
                have HBn9 := Lib.hid (show Below w4.heap.size w4 wn9 from hwn ▸ HBn8.out.alloc HBn8.out.size _)
                have HG79 := Lib.hid (show Blk wn9 wn8.heap.size 24 #[.int .i64 0, .int .i64 0, .int .i64 0, .int .i64 0, .slice none 0 0] from hwn ▸ Blk.new _ _ _)
                have HL79 : Hid (w4.heap.size ≤ wn8.heap.size) := HBn8.out.size
                have HG69 := Lib.hid (show Blk wn9 _ 24 #[.int .i64 0, .int .i64 0, .int .i64 0, .int .i64 0, .slice none 0 0] from hwn ▸ HG68.out.alloc _)
                have HL69 := HL68
                have HNE := Lib.hid (show _ ≠ _ from Nat.ne_of_lt HG68.out.lt)
                rw [← hwn]
                clear hwn
                obtain ⟨⟨g0, g1, g2, g3, g4⟩, k0, k1, k2, k3, k4⟩ := c5 HG69.out
                obtain ⟨⟨h0, h1, h2, h3, h4⟩, l0, l1, l2, l3, l4⟩ := c5 HG79.out
                refine wpAnyH_ready (rs := [8]) (by kernel_rfl) (by simp) ?_
                refine AllReadyH.cons rfl (fun K hK => ?_) AllReadyH.nil
                go_simp
                refine hK.out _ _ (by exact HSS.out _ (below_st5 HBn9.out HL69.out (.int .i64 ya.k) (.int .i64 ya.w) (.int .i64 ya.c) (.int .i64 ya.s) (.slice py 0 cy))) (fun hHeld => ?_)
                clear hK K
                (try simp only [Act.put, List.getElem_toArray, List.getElem_cons_succ, List.getElem_cons_zero, List.setIfInBounds_toArray, List.set_cons_zero, List.set_cons_succ])
                obtain ⟨v8, hwn⟩ : ∃ wn, wn = st5 wn9 wn1.heap.size (.int .i64 ya.k) (.int .i64 ya.w) (.int .i64 ya.c) (.int .i64 ya.s) (.slice py 0 cy) := ⟨_, rfl⟩
                have HX6 := Lib.hid (show Blk v8 _ 24 #[.int .i64 ya.k, .int .i64 ya.w, .int .i64 ya.c, .int .i64 ya.s, .slice py 0 cy] from hwn ▸ blk_st5 HG69.out (.int .i64 ya.k) (.int .i64 ya.w) (.int .i64 ya.c) (.int .i64 ya.s) (.slice py 0 cy))
                have HX7 := Lib.hid (show Blk v8 _ 24 #[.int .i64 0, .int .i64 0, .int .i64 0, .int .i64 0, .slice none 0 0] from hwn ▸ (far_st5 _ _ _ _ _ _ _ _ (fun e => HNE.out e.symm)).trans HG79.out)
                have HBv8 := Lib.hid (show Below w4.heap.size w4 v8 from hwn ▸ below_st5 HBn9.out HL69.out (.int .i64 ya.k) (.int .i64 ya.w) (.int .i64 ya.c) (.int .i64 ya.s) (.slice py 0 cy))
                unfold st5 at hwn
                rw [← hwn]
                clear hwn
                clear g0 g1 g2 g3 g4 h0 h1 h2 h3 h4 k0 k1 k2 k3 k4 l0 l1 l2 l3 l4
                obtain ⟨⟨h0, h1, h2, h3, h4⟩, l0, l1, l2, l3, l4⟩ := c5 HX7.out
                refine wpAnyH_ready (rs := [9]) (by kernel_rfl) (by simp) ?_
                refine AllReadyH.cons rfl (fun K hK => ?_) AllReadyH.nil
                go_simp
                refine hK.out _ _ (by exact HSS.out _ (below_st5 HBv8.out HL79.out (.int .i64 za.k) (.int .i64 za.w) (.int .i64 za.c) (.int .i64 za.s) (.slice pz 0 cz))) (fun hHeld => ?_)
                clear hK K
                (try simp only [Act.put, List.getElem_toArray, List.getElem_cons_succ, List.getElem_cons_zero, List.setIfInBounds_toArray, List.set_cons_zero, List.set_cons_succ])
                obtain ⟨v9, hwn⟩ : ∃ wn, wn = st5 v8 wn8.heap.size (.int .i64 za.k) (.int .i64 za.w) (.int .i64 za.c) (.int .i64 za.s) (.slice pz 0 cz) := ⟨_, rfl⟩
                have HY7 := Lib.hid (show Blk v9 _ 24 #[.int .i64 za.k, .int .i64 za.w, .int .i64 za.c, .int .i64 za.s, .slice pz 0 cz] from hwn ▸ blk_st5 HX7.out (.int .i64 za.k) (.int .i64 za.w) (.int .i64 za.c) (.int .i64 za.s) (.slice pz 0 cz))
                have HY6 := Lib.hid (show Blk v9 _ 24 #[.int .i64 ya.k, .int .i64 ya.w, .int .i64 ya.c, .int .i64 ya.s, .slice py 0 cy] from hwn ▸ (far_st5 _ _ _ _ _ _ _ _ HNE.out).trans HX6.out)
                have HBv9 := Lib.hid (show Below w4.heap.size w4 v9 from hwn ▸ below_st5 HBv8.out HL79.out (.int .i64 za.k) (.int .i64 za.w) (.int .i64 za.c) (.int .i64 za.s) (.slice pz 0 cz))
                unfold st5 at hwn
                rw [← hwn]
                clear hwn
                refine wpAnyH_done (by kernel_rfl) ?_ _
                refine NoPanic.normal ?_
                clear h0 h1 h2 h3 h4 l0 l1 l2 l3 l4 hHeld
                go_wp2_with fail
                go_meet
                exact ⟨_, _, _, _, rfl, rfl, HY6.out, HY7.out, HL69.out, HL79.out, HBv9.out⟩
            · go_simp
              refine hK.out _ _ (by exact HSS.out _ (HBn7.out.alloc HBn7.out.size (.cells #[.int .i64 0, .int .i64 0, .int .i64 0, .int .i64 0, .slice none 0 0] 24))) (fun hHeld => ?_)
              clear hK K
              (try simp only [Act.put, List.getElem_toArray, List.getElem_cons_succ, List.getElem_cons_zero, List.setIfInBounds_toArray, List.set_cons_zero, List.set_cons_succ])
              obtain ⟨wn10, hwn⟩ : ∃ wn, wn = wn7.alloc (.cells #[.int .i64 0, .int .i64 0, .int .i64 0, .int .i64 0, .slice none 0 0] 24) := ⟨_, rfl⟩
              have HBn10 := Lib.hid (show Below w4.heap.size w4 wn10 from hwn ▸ HBn7.out.alloc HBn7.out.size _)
              have HG710 := Lib.hid (show Blk wn10 wn7.heap.size 24 #[.int .i64 0, .int .i64 0, .int .i64 0, .int .i64 0, .slice none 0 0] from hwn ▸ Blk.new _ _ _)
              have HL710 : Hid (w4.heap.size ≤ wn7.heap.size) := HBn7.out.size
              have HG610 := Lib.hid (show Blk wn10 _ 24 #[.int .i64 0, .int .i64 0, .int .i64 0, .int .i64 0, .slice none 0 0] from hwn ▸ HG67.out.alloc _)
              have HL610 := HL67
              have HNE := Lib.hid (show _ ≠ _ from Nat.ne_of_lt HG67.out.lt)
              rw [← hwn]
              clear hwn
              refine wpAnyH_ready (rs := [5]) (by kernel_rfl) (by simp) ?_
              refine AllReadyH.cons rfl (fun K hK => ?_) AllReadyH.nil
              · go_simp
                refine (HBT.out wn10 (HB4.out.trans (HBn10.out.mono HB4.out.size)) _ (HWI2.out.next HBn10.out)).mono ?_
                rintro e wn11 ⟨hb, sz, rfl, hk⟩
                obtain ⟨pz, cz, rfl, -⟩ := hk.slice
                have HBn11 := Lib.hid (HBn10.out.trans (hb.mono HBn10.out.size))
                have HG611 := Lib.hid (HG610.out.next hb)
                have HL611 := HL610
                have HG711 := Lib.hid (HG710.out.next hb)
                have HL711 := HL710
                (try dsimp only)
                refine hK.out _ _ (by exact HSS.out _ HBn11.out) (fun hHeld => ?_)
                clear hK K hk hb
                (try simp only [Act.put, List.getElem_toArray, List.getElem_cons_succ, List.getElem_cons_zero, List.setIfInBounds_toArray, List.set_cons_zero, List.set_cons_succ])
                obtain ⟨⟨g0, g1, g2, g3, g4⟩, k0, k1, k2, k3, k4⟩ := c5 HG611.out
                obtain ⟨⟨h0, h1, h2, h3, h4⟩, l0, l1, l2, l3, l4⟩ := c5 HG711.out
                refine wpAnyH_ready (rs := [8]) (by kernel_rfl) (by simp) ?_
                refine AllReadyH.cons rfl (fun K hK => ?_) AllReadyH.nil
                go_simp
                refine hK.out _ _ (by exact HSS.out _ (below_st5 HBn11.out HL611.out (.int .i64 ya.k) (.int .i64 ya.w) (.int .i64 ya.c) (.int .i64 ya.s) (.slice py 0 cy))) (fun hHeld => ?_)
                clear hK K
                (try simp only [Act.put, List.getElem_toArray, List.getElem_cons_succ, List.getElem_cons_zero, List.setIfInBounds_toArray, List.set_cons_zero, List.set_cons_succ])
                obtain ⟨v8, hwn⟩ : ∃ wn, wn = st5 wn11 wn1.heap.size (.int .i64 ya.k) (.int .i64 ya.w) (.int .i64 ya.c) (.int .i64 ya.s) (.slice py 0 cy) := ⟨_, rfl⟩
                have HX6 := Lib.hid (show Blk v8 _ 24 #[.int .i64 ya.k, .int .i64 ya.w, .int .i64 ya.c, .int .i64 ya.s, .slice py 0 cy] from hwn ▸ blk_st5 HG611.out (.int .i64 ya.k) (.int .i64 ya.w) (.int .i64 ya.c) (.int .i64 ya.s) (.slice py 0 cy))
                have HX7 := Lib.hid (show Blk v8 _ 24 #[.int .i64 0, .int .i64 0, .int .i64 0, .int .i64 0, .slice none 0 0] from hwn ▸ (far_st5 _ _ _ _ _ _ _ _ (fun e => HNE.out e.symm)).trans HG711.out)
                have HBv8 := Lib.hid (show Below w4.heap.size w4 v8 from hwn ▸ below_st5 HBn11.out HL611.out (.int .i64 ya.k) (.int .i64 ya.w) (.int .i64 ya.c) (.int .i64 ya.s) (.slice py 0 cy))
                unfold st5 at hwn
                rw [← hwn]
                clear hwn
                clear g0 g1 g2 g3 g4 h0 h1 h2 h3 h4 k0 k1 k2 k3 k4 l0 l1 l2 l3 l4
                obtain ⟨⟨h0, h1, h2, h3, h4⟩, l0, l1, l2, l3, l4⟩ := c5 HX7.out
                refine wpAnyH_ready (rs := [9]) (by kernel_rfl) (by simp) ?_
                refine AllReadyH.cons rfl (fun K hK => ?_) AllReadyH.nil
                go_simp
                refine hK.out _ _ (by exact HSS.out _ (below_st5 HBv8.out HL711.out (.int .i64 za.k) (.int .i64 za.w) (.int .i64 za.c) (.int .i64 za.s) (.slice pz 0 cz))) (fun hHeld => ?_)
                clear hK K
                (try simp only [Act.put, List.getElem_toArray, List.getElem_cons_succ, List.getElem_cons_zero, List.setIfInBounds_toArray, List.set_cons_zero, List.set_cons_succ])
                obtain ⟨v9, hwn⟩ : ∃ wn, wn = st5 v8 wn7.heap.size (.int .i64 za.k) (.int .i64 za.w) (.int .i64 za.c) (.int .i64 za.s) (.slice pz 0 cz) := ⟨_, rfl⟩
                have HY7 := Lib.hid (show Blk v9 _ 24 #[.int .i64 za.k, .int .i64 za.w, .int .i64 za.c, .int .i64 za.s, .slice pz 0 cz] from hwn ▸ blk_st5 HX7.out (.int .i64 za.k) (.int .i64 za.w) (.int .i64 za.c) (.int .i64 za.s) (.slice pz 0 cz))
                have HY6 := Lib.hid (show Blk v9 _ 24 #[.int .i64 ya.k, .int .i64 ya.w, .int .i64 ya.c, .int .i64 ya.s, .slice py 0 cy] from hwn ▸ (far_st5 _ _ _ _ _ _ _ _ HNE.out).trans HX6.out)
                have HBv9 := Lib.hid (show Below w4.heap.size w4 v9 from hwn ▸ below_st5 HBv8.out HL711.out (.int .i64 za.k) (.int .i64 za.w) (.int .i64 za.c) (.int .i64 za.s) (.slice pz 0 cz))
                unfold st5 at hwn
                rw [← hwn]
                clear hwn
                refine wpAnyH_done (by kernel_rfl) ?_ _
                refine NoPanic.normal ?_
                clear h0 h1 h2 h3 h4 l0 l1 l2 l3 l4 hHeld
                go_wp2_with fail
                go_meet
                exact ⟨_, _, _, _, rfl, rfl, HY6.out, HY7.out, HL611.out, HL711.out, HBv9.out⟩
          · go_simp
            refine hK.out _ _ (by exact HSS.out _ (HBn1.out.alloc HBn1.out.size (.cells #[.int .i64 0, .int .i64 0, .int .i64 0, .int .i64 0, .slice none 0 0] 24))) (fun hHeld => ?_)
            clear hK K
            (try simp only [Act.put, List.getElem_toArray, List.getElem_cons_succ, List.getElem_cons_zero, List.setIfInBounds_toArray, List.set_cons_zero, List.set_cons_succ])
            obtain ⟨wn12, hwn⟩ : ∃ wn, wn = wn1.alloc (.cells #[.int .i64 0, .int .i64 0, .int .i64 0, .int .i64 0, .slice none 0 0] 24) := ⟨_, rfl⟩
            have HBn12 := Lib.hid (show Below w4.heap.size w4 wn12 from hwn ▸ HBn1.out.alloc HBn1.out.size _)
            have HG712 := Lib.hid (show Blk wn12 wn1.heap.size 24 #[.int .i64 0, .int .i64 0, .int .i64 0, .int .i64 0, .slice none 0 0] from hwn ▸ Blk.new _ _ _)
            have HL712 : Hid (w4.heap.size ≤ wn1.heap.size) := HBn1.out.size
            rw [← hwn]
            clear hwn
            refine wpAnyH_ready (rs := [5, 6]) (by kernel_rfl) (by simp) ?_
            refine AllReadyH.cons rfl (fun K hK => ?_) (AllReadyH.cons rfl (fun K hK => ?_) AllReadyH.nil)
            · go_simp
              refine (HBT.out wn12 (HB4.out.trans (HBn12.out.mono HB4.out.size)) _ (HWI2.out.next HBn12.out)).mono ?_
              rintro e wn13 ⟨hb, sz, rfl, hk⟩
              obtain ⟨pz, cz, rfl, -⟩ := hk.slice
              have HBn13 := Lib.hid (HBn12.out.trans (hb.mono HBn12.out.size))
              have HG713 := Lib.hid (HG712.out.next hb)
              have HL713 := HL712
              (try dsimp only)
              refine hK.out _ _ (by exact HSS.out _ HBn13.out) (fun hHeld => ?_)
              clear hK K hk hb
              (try simp only [Act.put, List.getElem_toArray, List.getElem_cons_succ, List.getElem_cons_zero, List.setIfInBounds_toArray, List.set_cons_zero, List.set_cons_succ])
              refine wpAnyH_ready (rs := [6]) (by kernel_rfl) (by simp) ?_
              refine AllReadyH.cons rfl (fun K hK => ?_) AllReadyH.nil
              · go_simp
                refine hK.out _ _ (by exact HSS.out _ (HBn13.out.alloc HBn13.out.size (.cells #[.int .i64 0, .int .i64 0, .int .i64 0, .int .i64 0, .slice none 0 0] 24))) (fun hHeld => ?_)
                clear hK K
                (try simp only [Act.put, List.getElem_toArray, List.getElem_cons_succ, List.getElem_cons_zero, List.setIfInBounds_toArray, List.set_cons_zero, List.set_cons_succ])
                obtain ⟨wn14, hwn⟩ : ∃ wn, wn = wn13.alloc (.cells #[.int .i64 0, .int .i64 0, .int .i64 0, .int .i64 0, .slice none 0 0] 24) := ⟨_, rfl⟩
                have HBn14 := Lib.hid (show Below w4.heap.size w4 wn14 from hwn ▸ HBn13.out.alloc HBn13.out.size _)
                have HG614 := Lib.hid (show Blk wn14 wn13.heap.size 24 #[.int .i64 0, .int .i64 0, .int .i64 0, .int .i64 0, .slice none 0 0] from hwn ▸ Blk.new _ _ _)
                have HL614 : Hid (w4.heap.size ≤ wn13.heap.size) := HBn13.out.size
                have HG714 := Lib.hid (show Blk wn14 _ 24 #[.int .i64 0, .int .i64 0, .int .i64 0, .int .i64 0, .slice none 0 0] from hwn ▸ HG713.out.alloc _)
                have HL714 := HL713
                have HNE := Lib.hid (show _ ≠ _ from Nat.ne_of_gt HG713.out.lt)
                rw [← hwn]
                clear hwn
                obtain ⟨⟨g0, g1, g2, g3, g4⟩, k0, k1, k2, k3, k4⟩ := c5 HG614.out
                obtain ⟨⟨h0, h1, h2, h3, h4⟩, l0, l1, l2, l3, l4⟩ := c5 HG714.out
                refine wpAnyH_ready (rs := [8]) (by kernel_rfl) (by simp) ?_
                refine AllReadyH.cons rfl (fun K hK => ?_) AllReadyH.nil
                go_simp
                refine hK.out _ _ (by exact HSS.out _ (below_st5 HBn14.out HL614.out (.int .i64 ya.k) (.int .i64 ya.w) (.int .i64 ya.c) (.int .i64 ya.s) (.slice py 0 cy))) (fun hHeld => ?_)
                clear hK K
                (try simp only [Act.put, List.getElem_toArray, List.getElem_cons_succ, List.getElem_cons_zero, List.setIfInBounds_toArray, List.set_cons_zero, List.set_cons_succ])
                obtain ⟨v8, hwn⟩ : ∃ wn, wn = st5 wn14 wn13.heap.size (.int .i64 ya.k) (.int .i64 ya.w) (.int .i64 ya.c) (.int .i64 ya.s) (.slice py 0 cy) := ⟨_, rfl⟩
                have HX6 := Lib.hid (show Blk v8 _ 24 #[.int .i64 ya.k, .int .i64 ya.w, .int .i64 ya.c, .int .i64 ya.s, .slice py 0 cy] from hwn ▸ blk_st5 HG614.out (.int .i64 ya.k) (.int .i64 ya.w) (.int .i64 ya.c) (.int .i64 ya.s) (.slice py 0 cy))
                have HX7 := Lib.hid (show Blk v8 _ 24 #[.int .i64 0, .int .i64 0, .int .i64 0, .int .i64 0, .slice none 0 0] from hwn ▸ (far_st5 _ _ _ _ _ _ _ _ (fun e => HNE.out e.symm)).trans HG714.out)
                have HBv8 := Lib.hid (show Below w4.heap.size w4 v8 from hwn ▸ below_st5 HBn14.out HL614.out (.int .i64 ya.k) (.int .i64 ya.w) (.int .i64 ya.c) (.int .i64 ya.s) (.slice py 0 cy))
                unfold st5 at hwn
                rw [← hwn]
                clear hwn
                clear g0 g1 g2 g3 g4 h0 h1 h2 h3 h4 k0 k1 k2 k3 k4 l0 l1 l2 l3 l4
                obtain ⟨⟨h0, h1, h2, h3, h4⟩, l0, l1, l2, l3, l4⟩ := c5 HX7.out
                refine wpAnyH_ready (rs := [9]) (by kernel_rfl) (by simp) ?_
                refine AllReadyH.cons rfl (fun K hK => ?_) AllReadyH.nil
                go_simp
                refine hK.out _ _ (by exact HSS.out _ (below_st5 HBv8.out HL714.out (.int .i64 za.k) (.int .i64 za.w) (.int .i64 za.c) (.int .i64 za.s) (.slice pz 0 cz))) (fun hHeld => ?_)
                clear hK K
                (try simp only [Act.put, List.getElem_toArray, List.getElem_cons_succ, List.getElem_cons_zero, List.setIfInBounds_toArray, List.set_cons_zero, List.set_cons_succ])
                obtain ⟨v9, hwn⟩ : ∃ wn, wn = st5 v8 wn1.heap.size (.int .i64 za.k) (.int .i64 za.w) (.int .i64 za.c) (.int .i64 za.s) (.slice pz 0 cz) := ⟨_, rfl⟩
                have HY7 := Lib.hid (show Blk v9 _ 24 #[.int .i64 za.k, .int .i64 za.w, .int .i64 za.c, .int .i64 za.s, .slice pz 0 cz] from hwn ▸ blk_st5 HX7.out (.int .i64 za.k) (.int .i64 za.w) (.int .i64 za.c) (.int .i64 za.s) (.slice pz 0 cz))
                have HY6 := Lib.hid (show Blk v9 _ 24 #[.int .i64 ya.k, .int .i64 ya.w, .int .i64 ya.c, .int .i64 ya.s, .slice py 0 cy] from hwn ▸ (far_st5 _ _ _ _ _ _ _ _ HNE.out).trans HX6.out)
                have HBv9 := Lib.hid (show Below w4.heap.size w4 v9 from hwn ▸ below_st5 HBv8.out HL714.out (.int .i64 za.k) (.int .i64 za.w) (.int .i64 za.c) (.int .i64 za.s) (.slice pz 0 cz))
                unfold st5 at hwn
                rw [← hwn]
                clear hwn
                refine wpAnyH_done (by kernel_rfl) ?_ _
                refine NoPanic.normal ?_
                clear h0 h1 h2 h3 h4 l0 l1 l2 l3 l4 hHeld
                go_wp2_with fail
                go_meet
                exact ⟨_, _, _, _, rfl, rfl, HY6.out, HY7.out, HL614.out, HL714.out, HBv9.out⟩
            · go_simp
              refine hK.out _ _ (by exact HSS.out _ (HBn12.out.alloc HBn12.out.size (.cells #[.int .i64 0, .int .i64 0, .int .i64 0, .int .i64 0, .slice none 0 0] 24))) (fun hHeld => ?_)
              clear hK K
              (try simp only [Act.put, List.getElem_toArray, List.getElem_cons_succ, List.getElem_cons_zero, List.setIfInBounds_toArray, List.set_cons_zero, List.set_cons_succ])
              obtain ⟨wn15, hwn⟩ : ∃ wn, wn = wn12.alloc (.cells #[.int .i64 0, .int .i64 0, .int .i64 0, .int .i64 0, .slice none 0 0] 24) := ⟨_, rfl⟩
              have HBn15 := Lib.hid (show Below w4.heap.size w4 wn15 from hwn ▸ HBn12.out.alloc HBn12.out.size _)
              have HG615 := Lib.hid (show Blk wn15 wn12.heap.size 24 #[.int .i64 0, .int .i64 0, .int .i64 0, .int .i64 0, .slice none 0 0] from hwn ▸ Blk.new _ _ _)
              have HL615 : Hid (w4.heap.size ≤ wn12.heap.size) := HBn12.out.size
              have HG715 := Lib.hid (show Blk wn15 _ 24 #[.int .i64 0, .int .i64 0, .int .i64 0, .int .i64 0, .slice none 0 0] from hwn ▸ HG712.out.alloc _)
              have HL715 := HL712
              have HNE := Lib.hid (show _ ≠ _ from Nat.ne_of_gt HG712.out.lt)
              rw [← hwn]
              clear hwn
              refine wpAnyH_ready (rs := [5]) (by kernel_rfl) (by simp) ?_
              refine AllReadyH.cons rfl (fun K hK => ?_) AllReadyH.nil
              · go_simp
                refine (HBT.out wn15 (HB4.out.trans (HBn15.out.mono HB4.out.size)) _ (HWI2.out.next HBn15.out)).mono ?_
                rintro e wn16 ⟨hb, sz, rfl, hk⟩
                obtain ⟨pz, cz, rfl, -⟩ := hk.slice
                have HBn16 := Lib.hid (HBn15.out.trans (hb.mono HBn15.out.size))
                have HG616 := Lib.hid (HG615.out.next hb)
                have HL616 := HL615
                have HG716 := Lib.hid (HG715.out.next hb)
                have HL716 := HL715
                (try dsimp only)
                refine hK.out _ _ (by exact HSS.out _ HBn16.out) (fun hHeld => ?_)
                clear hK K hk hb
                (try simp only [Act.put, List.getElem_toArray, List.getElem_cons_succ, List.getElem_cons_zero, List.setIfInBounds_toArray, List.set_cons_zero, List.set_cons_succ])
                obtain ⟨⟨g0, g1, g2, g3, g4⟩, k0, k1, k2, k3, k4⟩ := c5 HG616.out
                obtain ⟨⟨h0, h1, h2, h3, h4⟩, l0, l1, l2, l3, l4⟩ := c5 HG716.out
                refine wpAnyH_ready (rs := [8]) (by kernel_rfl) (by simp) ?_
                refine AllReadyH.cons rfl (fun K hK => ?_) AllReadyH.nil
                go_simp
                refine hK.out _ _ (by exact HSS.out _ (below_st5 HBn16.out HL616.out (.int .i64 ya.k) (.int .i64 ya.w) (.int .i64 ya.c) (.int .i64 ya.s) (.slice py 0 cy))) (fun hHeld => ?_)
                clear hK K
                (try simp only [Act.put, List.getElem_toArray, List.getElem_cons_succ, List.getElem_cons_zero, List.setIfInBounds_toArray, List.set_cons_zero, List.set_cons_succ])
                obtain ⟨v8, hwn⟩ : ∃ wn, wn = st5 wn16 wn12.heap.size (.int .i64 ya.k) (.int .i64 ya.w) (.int .i64 ya.c) (.int .i64 ya.s) (.slice py 0 cy) := ⟨_, rfl⟩
                have HX6 := Lib.hid (show Blk v8 _ 24 #[.int .i64 ya.k, .int .i64 ya.w, .int .i64 ya.c, .int .i64 ya.s, .slice py 0 cy] from hwn ▸ blk_st5 HG616.out (.int .i64 ya.k) (.int .i64 ya.w) (.int .i64 ya.c) (.int .i64 ya.s) (.slice py 0 cy))
                have HX7 := Lib.hid (show Blk v8 _ 24 #[.int .i64 0, .int .i64 0, .int .i64 0, .int .i64 0, .slice none 0 0] from hwn ▸ (far_st5 _ _ _ _ _ _ _ _ (fun e => HNE.out e.symm)).trans HG716.out)
                have HBv8 := Lib.hid (show Below w4.heap.size w4 v8 from hwn ▸ below_st5 HBn16.out HL616.out (.int .i64 ya.k) (.int .i64 ya.w) (.int .i64 ya.c) (.int .i64 ya.s) (.slice py 0 cy))
                unfold st5 at hwn
                rw [← hwn]
                clear hwn
                clear g0 g1 g2 g3 g4 h0 h1 h2 h3 h4 k0 k1 k2 k3 k4 l0 l1 l2 l3 l4
                obtain ⟨⟨h0, h1, h2, h3, h4⟩, l0, l1, l2, l3, l4⟩ := c5 HX7.out
                refine wpAnyH_ready (rs := [9]) (by kernel_rfl) (by simp) ?_
                refine AllReadyH.cons rfl (fun K hK => ?_) AllReadyH.nil
                go_simp
                refine hK.out _ _ (by exact HSS.out _ (below_st5 HBv8.out HL716.out (.int .i64 za.k) (.int .i64 za.w) (.int .i64 za.c) (.int .i64 za.s) (.slice pz 0 cz))) (fun hHeld => ?_)
                clear hK K
                (try simp only [Act.put, List.getElem_toArray, List.getElem_cons_succ, List.getElem_cons_zero, List.setIfInBounds_toArray, List.set_cons_zero, List.set_cons_succ])
                obtain ⟨v9, hwn⟩ : ∃ wn, wn = st5 v8 wn1.heap.size (.int .i64 za.k) (.int .i64 za.w) (.int .i64 za.c) (.int .i64 za.s) (.slice pz 0 cz) := ⟨_, rfl⟩
                have HY7 := Lib.hid (show Blk v9 _ 24 #[.int .i64 za.k, .int .i64 za.w, .int .i64 za.c, .int .i64 za.s, .slice pz 0 cz] from hwn ▸ blk_st5 HX7.out (.int .i64 za.k) (.int .i64 za.w) (.int .i64 za.c) (.int .i64 za.s) (.slice pz 0 cz))
                have HY6 := Lib.hid (show Blk v9 _ 24 #[.int .i64 ya.k, .int .i64 ya.w, .int .i64 ya.c, .int .i64 ya.s, .slice py 0 cy] from hwn ▸ (far_st5 _ _ _ _ _ _ _ _ HNE.out).trans HX6.out)
                have HBv9 := Lib.hid (show Below w4.heap.size w4 v9 from hwn ▸ below_st5 HBv8.out HL716.out (.int .i64 za.k) (.int .i64 za.w) (.int .i64 za.c) (.int .i64 za.s) (.slice pz 0 cz))
                unfold st5 at hwn
                rw [← hwn]
                clear hwn
                refine wpAnyH_done (by kernel_rfl) ?_ _
                refine NoPanic.normal ?_
                clear h0 h1 h2 h3 h4 l0 l1 l2 l3 l4 hHeld
                go_wp2_with fail
                go_meet
                exact ⟨_, _, _, _, rfl, rfl, HY6.out, HY7.out, HL616.out, HL716.out, HBv9.out⟩
        · go_simp
          refine hK.out _ _ (by exact HSS.out _ (HBd.out.alloc HBd.out.size (.cells #[.int .i64 0, .int .i64 0, .int .i64 0, .int .i64 0, .slice none 0 0] 24))) (fun hHeld => ?_)
          clear hK K
          (try simp only [Act.put, List.getElem_toArray, List.getElem_cons_succ, List.getElem_cons_zero, List.setIfInBounds_toArray, List.set_cons_zero, List.set_cons_succ])
          obtain ⟨wn17, hwn⟩ : ∃ wn, wn = wd.alloc (.cells #[.int .i64 0, .int .i64 0, .int .i64 0, .int .i64 0, .slice none 0 0] 24) := ⟨_, rfl⟩
          have HBn17 := Lib.hid (show Below w4.heap.size w4 wn17 from hwn ▸ HBd.out.alloc HBd.out.size _)
          have HG617 := Lib.hid (show Blk wn17 wd.heap.size 24 #[.int .i64 0, .int .i64 0, .int .i64 0, .int .i64 0, .slice none 0 0] from hwn ▸ Blk.new _ _ _)
          have HL617 : Hid (w4.heap.size ≤ wd.heap.size) := HBd.out.size
          rw [← hwn]
          clear hwn
          refine wpAnyH_ready (rs := [2, 7]) (by kernel_rfl) (by simp) ?_
          refine AllReadyH.cons rfl (fun K hK => ?_) (AllReadyH.cons rfl (fun K hK => ?_) AllReadyH.nil)
          · go_simp
            refine (HAT.out wn17 (HB4.out.trans (HBn17.out.mono HB4.out.size)) _ (HWI1.out.next HBn17.out)).mono ?_
            rintro e wn18 ⟨hb, sy, rfl, hk⟩
            obtain ⟨py, cy, rfl, -⟩ := hk.slice
            have HBn18 := Lib.hid (HBn17.out.trans (hb.mono HBn17.out.size))
            have HG618 := Lib.hid (HG617.out.next hb)
            have HL618 := HL617
            (try dsimp only)
            refine hK.out _ _ (by exact HSS.out _ HBn18.out) (fun hHeld => ?_)
            clear hK K hk hb
            (try simp only [Act.put, List.getElem_toArray, List.getElem_cons_succ, List.getElem_cons_zero, List.setIfInBounds_toArray, List.set_cons_zero, List.set_cons_succ])
            refine wpAnyH_ready (rs := [5, 7]) (by kernel_rfl) (by simp) ?_
            refine AllReadyH.cons rfl (fun K hK => ?_) (AllReadyH.cons rfl (fun K hK => ?_) AllReadyH.nil)
            · go_simp
              refine (HBT.out wn18 (HB4.out.trans (HBn18.out.mono HB4.out.size)) _ (HWI2.out.next HBn18.out)).mono ?_
              rintro e wn19 ⟨hb, sz, rfl, hk⟩
              obtain ⟨pz, cz, rfl, -⟩ := hk.slice
              have HBn19 := Lib.hid (HBn18.out.trans (hb.mono HBn18.out.size))
              have HG619 := Lib.hid (HG618.out.next hb)
              have HL619 := HL618
              (try dsimp only)
              refine hK.out _ _ (by exact HSS.out _ HBn19.out) (fun hHeld => ?_)
              clear hK K hk hb
              (try simp only [Act.put, List.getElem_toArray, List.getElem_cons_succ, List.getElem_cons_zero, List.setIfInBounds_toArray, List.set_cons_zero, List.set_cons_succ])
              refine wpAnyH_ready (rs := [7]) (by kernel_rfl) (by simp) ?_
              refine AllReadyH.cons rfl (fun K hK => ?_) AllReadyH.nil
              · go_simp
                refine hK.out _ _ (by exact HSS.out _ (HBn19.out.alloc HBn19.out.size (.cells #[.int .i64 0, .int .i64 0, .int .i64 0, .int .i64 0, .slice none 0 0] 24))) (fun hHeld => ?_)
                clear hK K
                (try simp only [Act.put, List.getElem_toArray, List.getElem_cons_succ, List.getElem_cons_zero, List.setIfInBounds_toArray, List.set_cons_zero, List.set_cons_succ])
                obtain ⟨wn20, hwn⟩ : ∃ wn, wn = wn19.alloc (.cells #[.int .i64 0, .int .i64 0, .int .i64 0, .int .i64 0, .slice none 0 0] 24) := ⟨_, rfl⟩
                have HBn20 := Lib.hid (show Below w4.heap.size w4 wn20 from hwn ▸ HBn19.out.alloc HBn19.out.size _)
                have HG720 := Lib.hid (show Blk wn20 wn19.heap.size 24 #[.int .i64 0, .int .i64 0, .int .i64 0, .int .i64 0, .slice none 0 0] from hwn ▸ Blk.new _ _ _)
                have HL720 : Hid (w4.heap.size ≤ wn19.heap.size) := HBn19.out.size
                have HG620 := Lib.hid (show Blk wn20 _ 24 #[.int .i64 0, .int .i64 0, .int .i64 0, .int .i64 0, .slice none 0 0] from hwn ▸ HG619.out.alloc _)
                have HL620 := HL619
                have HNE := Lib.hid (show _ ≠ _ from Nat.ne_of_lt HG619.out.lt)
                rw [← hwn]
                clear hwn
                obtain ⟨⟨g0, g1, g2, g3, g4⟩, k0, k1, k2, k3, k4⟩ := c5 HG620.out
                obtain ⟨⟨h0, h1, h2, h3, h4⟩, l0, l1, l2, l3, l4⟩ := c5 HG720.out
                refine wpAnyH_ready (rs := [8]) (by kernel_rfl) (by simp) ?_
                refine AllReadyH.cons rfl (fun K hK => ?_) AllReadyH.nil
                go_simp
                refine hK.out _ _ (by exact HSS.out _ (below_st5 HBn20.out HL620.out (.int .i64 ya.k) (.int .i64 ya.w) (.int .i64 ya.c) (.int .i64 ya.s) (.slice py 0 cy))) (fun hHeld => ?_)
                clear hK K
                (try simp only [Act.put, List.getElem_toArray, List.getElem_cons_succ, List.getElem_cons_zero, List.setIfInBounds_toArray, List.set_cons_zero, List.set_cons_succ])
                obtain ⟨v8, hwn⟩ : ∃ wn, wn = st5 wn20 wd.heap.size (.int .i64 ya.k) (.int .i64 ya.w) (.int .i64 ya.c) (.int .i64 ya.s) (.slice py 0 cy) := ⟨_, rfl⟩
                have HX6 := Lib.hid (show Blk v8 _ 24 #[.int .i64 ya.k, .int .i64 ya.w, .int .i64 ya.c, .int .i64 ya.s, .slice py 0 cy] from hwn ▸ blk_st5 HG620.out (.int .i64 ya.k) (.int .i64 ya.w) (.int .i64 ya.c) (.int .i64 ya.s) (.slice py 0 cy))
                have HX7 := Lib.hid (show Blk v8 _ 24 #[.int .i64 0, .int .i64 0, .int .i64 0, .int .i64 0, .slice none 0 0] from hwn ▸ (far_st5 _ _ _ _ _ _ _ _ (fun e => HNE.out e.symm)).trans HG720.out)
                have HBv8 := Lib.hid (show Below w4.heap.size w4 v8 from hwn ▸ below_st5 HBn20.out HL620.out (.int .i64 ya.k) (.int .i64 ya.w) (.int .i64 ya.c) (.int .i64 ya.s) (.slice py 0 cy))
                unfold st5 at hwn
                rw [← hwn]
                clear hwn
                clear g0 g1 g2 g3 g4 h0 h1 h2 h3 h4 k0 k1 k2 k3 k4 l0 l1 l2 l3 l4
                obtain ⟨⟨h0, h1, h2, h3, h4⟩, l0, l1, l2, l3, l4⟩ := c5 HX7.out
                refine wpAnyH_ready (rs := [9]) (by kernel_rfl) (by simp) ?_
                refine AllReadyH.cons rfl (fun K hK => ?_) AllReadyH.nil
                go_simp
                refine hK.out _ _ (by exact HSS.out _ (below_st5 HBv8.out HL720.out (.int .i64 za.k) (.int .i64 za.w) (.int .i64 za.c) (.int .i64 za.s) (.slice pz 0 cz))) (fun hHeld => ?_)
                clear hK K
                (try simp only [Act.put, List.getElem_toArray, List.getElem_cons_succ, List.getElem_cons_zero, List.setIfInBounds_toArray, List.set_cons_zero, List.set_cons_succ])
                obtain ⟨v9, hwn⟩ : ∃ wn, wn = st5 v8 wn19.heap.size (.int .i64 za.k) (.int .i64 za.w) (.int .i64 za.c) (.int .i64 za.s) (.slice pz 0 cz) := ⟨_, rfl⟩
                have HY7 := Lib.hid (show Blk v9 _ 24 #[.int .i64 za.k, .int .i64 za.w, .int .i64 za.c, .int .i64 za.s, .slice pz 0 cz] from hwn ▸ blk_st5 HX7.out (.int .i64 za.k) (.int .i64 za.w) (.int .i64 za.c) (.int .i64 za.s) (.slice pz 0 cz))
                have HY6 := Lib.hid (show Blk v9 _ 24 #[.int .i64 ya.k, .int .i64 ya.w, .int .i64 ya.c, .int .i64 ya.s, .slice py 0 cy] from hwn ▸ (far_st5 _ _ _ _ _ _ _ _ HNE.out).trans HX6.out)
                have HBv9 := Lib.hid (show Below w4.heap.size w4 v9 from hwn ▸ below_st5 HBv8.out HL720.out (.int .i64 za.k) (.int .i64 za.w) (.int .i64 za.c) (.int .i64 za.s) (.slice pz 0 cz))
                unfold st5 at hwn
                rw [← hwn]
                clear hwn
                refine wpAnyH_done (by kernel_rfl) ?_ _
                refine NoPanic.normal ?_
                clear h0 h1 h2 h3 h4 l0 l1 l2 l3 l4 hHeld
                go_wp2_with fail
                go_meet
                exact ⟨_, _, _, _, rfl, rfl, HY6.out, HY7.out, HL620.out, HL720.out, HBv9.out⟩
            · go_simp
              refine hK.out _ _ (by exact HSS.out _ (HBn18.out.alloc HBn18.out.size (.cells #[.int .i64 0, .int .i64 0, .int .i64 0, .int .i64 0, .slice none 0 0] 24))) (fun hHeld => ?_)
              clear hK K
              (try simp only [Act.put, List.getElem_toArray, List.getElem_cons_succ, List.getElem_cons_zero, List.setIfInBounds_toArray, List.set_cons_zero, List.set_cons_succ])
              obtain ⟨wn21, hwn⟩ : ∃ wn, wn = wn18.alloc (.cells #[.int .i64 0, .int .i64 0, .int .i64 0, .int .i64 0, .slice none 0 0] 24) := ⟨_, rfl⟩
              have HBn21 := Lib.hid (show Below w4.heap.size w4 wn21 from hwn ▸ HBn18.out.alloc HBn18.out.size _)
              have HG721 := Lib.hid (show Blk wn21 wn18.heap.size 24 #[.int .i64 0, .int .i64 0, .int .i64 0, .int .i64 0, .slice none 0 0] from hwn ▸ Blk.new _ _ _)
              have HL721 : Hid (w4.heap.size ≤ wn18.heap.size) := HBn18.out.size
              have HG621 := Lib.hid (show Blk wn21 _ 24 #[.int .i64 0, .int .i64 0, .int .i64 0, .int .i64 0, .slice none 0 0] from hwn ▸ HG618.out.alloc _)
              have HL621 := HL618
              have HNE := Lib.hid (show _ ≠ _ from Nat.ne_of_lt HG618.out.lt)
              rw [← hwn]
              clear hwn
              refine wpAnyH_ready (rs := [5]) (by kernel_rfl) (by simp) ?_
              refine AllReadyH.cons rfl (fun K hK => ?_) AllReadyH.nil
              · go_simp
                refine (HBT.out wn21 (HB4.out.trans (HBn21.out.mono HB4.out.size)) _ (HWI2.out.next HBn21.out)).mono ?_
                rintro e wn22 ⟨hb, sz, rfl, hk⟩
                obtain ⟨pz, cz, rfl, -⟩ := hk.slice
                have HBn22 := Lib.hid (HBn21.out.trans (hb.mono HBn21.out.size))
                have HG622 := Lib.hid (HG621.out.next hb)
                have HL622 := HL621
                have HG722 := Lib.hid (HG721.out.next hb)
                have HL722 := HL721
                (try dsimp only)
                refine hK.out _ _ (by exact HSS.out _ HBn22.out) (fun hHeld => ?_)
                clear hK K hk hb
                (try simp only [Act.put, List.getElem_toArray, List.getElem_cons_succ, List.getElem_cons_zero, List.setIfInBounds_toArray, List.set_cons_zero, List.set_cons_succ])
                obtain ⟨⟨g0, g1, g2, g3, g4⟩, k0, k1, k2, k3, k4⟩ := c5 HG622.out
                obtain ⟨⟨h0, h1, h2, h3, h4⟩, l0, l1, l2, l3, l4⟩ := c5 HG722.out
                refine wpAnyH_ready (rs := [8]) (by kernel_rfl) (by simp) ?_
                refine AllReadyH.cons rfl (fun K hK => ?_) AllReadyH.nil
                go_simp
                refine hK.out _ _ (by exact HSS.out _ (below_st5 HBn22.out HL622.out (.int .i64 ya.k) (.int .i64 ya.w) (.int .i64 ya.c) (.int .i64 ya.s) (.slice py 0 cy))) (fun hHeld => ?_)
                clear hK K
                (try simp only [Act.put, List.getElem_toArray, List.getElem_cons_succ, List.getElem_cons_zero, List.setIfInBounds_toArray, List.set_cons_zero, List.set_cons_succ])
                obtain ⟨v8, hwn⟩ : ∃ wn, wn = st5 wn22 wd.heap.size (.int .i64 ya.k) (.int .i64 ya.w) (.int .i64 ya.c) (.int .i64 ya.s) (.slice py 0 cy) := ⟨_, rfl⟩
                have HX6 := Lib.hid (show Blk v8 _ 24 #[.int .i64 ya.k, .int .i64 ya.w, .int .i64 ya.c, .int .i64 ya.s, .slice py 0 cy] from hwn ▸ blk_st5 HG622.out (.int .i64 ya.k) (.int .i64 ya.w) (.int .i64 ya.c) (.int .i64 ya.s) (.slice py 0 cy))
                have HX7 := Lib.hid (show Blk v8 _ 24 #[.int .i64 0, .int .i64 0, .int .i64 0, .int .i64 0, .slice none 0 0] from hwn ▸ (far_st5 _ _ _ _ _ _ _ _ (fun e => HNE.out e.symm)).trans HG722.out)
                have HBv8 := Lib.hid (show Below w4.heap.size w4 v8 from hwn ▸ below_st5 HBn22.out HL622.out (.int .i64 ya.k) (.int .i64 ya.w) (.int .i64 ya.c) (.int .i64 ya.s) (.slice py 0 cy))
                unfold st5 at hwn
                rw [← hwn]
                clear hwn
                clear g0 g1 g2 g3 g4 h0 h1 h2 h3 h4 k0 k1 k2 k3 k4 l0 l1 l2 l3 l4
                obtain ⟨⟨h0, h1, h2, h3, h4⟩, l0, l1, l2, l3, l4⟩ := c5 HX7.out
                refine wpAnyH_ready (rs := [9]) (by kernel_rfl) (by simp) ?_
                refine AllReadyH.cons rfl (fun K hK => ?_) AllReadyH.nil
                go_simp
                refine hK.out _ _ (by exact HSS.out _ (below_st5 HBv8.out HL722.out (.int .i64 za.k) (.int .i64 za.w) (.int .i64 za.c) (.int .i64 za.s) (.slice pz 0 cz))) (fun hHeld => ?_)
                clear hK K
                (try simp only [Act.put, List.getElem_toArray, List.getElem_cons_succ, List.getElem_cons_zero, List.setIfInBounds_toArray, List.set_cons_zero, List.set_cons_succ])
                obtain ⟨v9, hwn⟩ : ∃ wn, wn = st5 v8 wn18.heap.size (.int .i64 za.k) (.int .i64 za.w) (.int .i64 za.c) (.int .i64 za.s) (.slice pz 0 cz) := ⟨_, rfl⟩
                have HY7 := Lib.hid (show Blk v9 _ 24 #[.int .i64 za.k, .int .i64 za.w, .int .i64 za.c, .int .i64 za.s, .slice pz 0 cz] from hwn ▸ blk_st5 HX7.out (.int .i64 za.k) (.int .i64 za.w) (.int .i64 za.c) (.int .i64 za.s) (.slice pz 0 cz))
                have HY6 := Lib.hid (show Blk v9 _ 24 #[.int .i64 ya.k, .int .i64 ya.w, .int .i64 ya.c, .int .i64 ya.s, .slice py 0 cy] from hwn ▸ (far_st5 _ _ _ _ _ _ _ _ HNE.out).trans HX6.out)
                have HBv9 := Lib.hid (show Below w4.heap.size w4 v9 from hwn ▸ below_st5 HBv8.out HL722.out (.int .i64 za.k) (.int .i64 za.w) (.int .i64 za.c) (.int .i64 za.s) (.slice pz 0 cz))
                unfold st5 at hwn
                rw [← hwn]
                clear hwn
                refine wpAnyH_done (by kernel_rfl) ?_ _
                refine NoPanic.normal ?_
                clear h0 h1 h2 h3 h4 l0 l1 l2 l3 l4 hHeld
                go_wp2_with fail
                go_meet
                exact ⟨_, _, _, _, rfl, rfl, HY6.out, HY7.out, HL622.out, HL722.out, HBv9.out⟩
          · go_simp
            refine hK.out _ _ (by exact HSS.out _ (HBn17.out.alloc HBn17.out.size (.cells #[.int .i64 0, .int .i64 0, .int .i64 0, .int .i64 0, .slice none 0 0] 24))) (fun hHeld => ?_)
            clear hK K
            (try simp only [Act.put, List.getElem_toArray, List.getElem_cons_succ, List.getElem_cons_zero, List.setIfInBounds_toArray, List.set_cons_zero, List.set_cons_succ])
            obtain ⟨wn23, hwn⟩ : ∃ wn, wn = wn17.alloc (.cells #[.int .i64 0, .int .i64 0, .int .i64 0, .int .i64 0, .slice none 0 0] 24) := ⟨_, rfl⟩
            have HBn23 := Lib.hid (show Below w4.heap.size w4 wn23 from hwn ▸ HBn17.out.alloc HBn17.out.size _)
            have HG723 := Lib.hid (show Blk wn23 wn17.heap.size 24 #[.int .i64 0, .int .i64 0, .int .i64 0, .int .i64 0, .slice none 0 0] from hwn ▸ Blk.new _ _ _)
            have HL723 : Hid (w4.heap.size ≤ wn17.heap.size) := HBn17.out.size
            have HG623 := Lib.hid (show Blk wn23 _ 24 #[.int .i64 0, .int .i64 0, .int .i64 0, .int .i64 0, .slice none 0 0] from hwn ▸ HG617.out.alloc _)
            have HL623 := HL617
            have HNE := Lib.hid (show _ ≠ _ from Nat.ne_of_lt HG617.out.lt)
            rw [← hwn]
            clear hwn
            refine wpAnyH_ready (rs := [2]) (by kernel_rfl) (by simp) ?_
            refine AllReadyH.cons rfl (fun K hK => ?_) AllReadyH.nil
            · go_simp
              refine (HAT.out wn23 (HB4.out.trans (HBn23.out.mono HB4.out.size)) _ (HWI1.out.next HBn23.out)).mono ?_
              rintro e wn24 ⟨hb, sy, rfl, hk⟩
              obtain ⟨py, cy, rfl, -⟩ := hk.slice
              have HBn24 := Lib.hid (HBn23.out.trans (hb.mono HBn23.out.size))
              have HG624 := Lib.hid (HG623.out.next hb)
              have HL624 := HL623
              have HG724 := Lib.hid (HG723.out.next hb)
              have HL724 := HL723
              (try dsimp only)
              refine hK.out _ _ (by exact HSS.out _ HBn24.out) (fun hHeld => ?_)
              clear hK K hk hb
              (try simp only [Act.put, List.getElem_toArray, List.getElem_cons_succ, List.getElem_cons_zero, List.setIfInBounds_toArray, List.set_cons_zero, List.set_cons_succ])
              refine wpAnyH_ready (rs := [5]) (by kernel_rfl) (by simp) ?_
              refine AllReadyH.cons rfl (fun K hK => ?_) AllReadyH.nil
              · go_simp
                refine (HBT.out wn24 (HB4.out.trans (HBn24.out.mono HB4.out.size)) _ (HWI2.out.next HBn24.out)).mono ?_
                rintro e wn25 ⟨hb, sz, rfl, hk⟩
                obtain ⟨pz, cz, rfl, -⟩ := hk.slice
                have HBn25 := Lib.hid (HBn24.out.trans (hb.mono HBn24.out.size))
                have HG625 := Lib.hid (HG624.out.next hb)
                have HL625 := HL624
                have HG725 := Lib.hid (HG724.out.next hb)
                have HL725 := HL724
                (try dsimp only)
                refine hK.out _ _ (by exact HSS.out _ HBn25.out) (fun hHeld => ?_)
                clear hK K hk hb
                (try simp only [Act.put, List.getElem_toArray, List.getElem_cons_succ, List.getElem_cons_zero, List.setIfInBounds_toArray, List.set_cons_zero, List.set_cons_succ])
                obtain ⟨⟨g0, g1, g2, g3, g4⟩, k0, k1, k2, k3, k4⟩ := c5 HG625.out
                obtain ⟨⟨h0, h1, h2, h3, h4⟩, l0, l1, l2, l3, l4⟩ := c5 HG725.out
                refine wpAnyH_ready (rs := [8]) (by kernel_rfl) (by simp) ?_
                refine AllReadyH.cons rfl (fun K hK => ?_) AllReadyH.nil
                go_simp
                refine hK.out _ _ (by exact HSS.out _ (below_st5 HBn25.out HL625.out (.int .i64 ya.k) (.int .i64 ya.w) (.int .i64 ya.c) (.int .i64 ya.s) (.slice py 0 cy))) (fun hHeld => ?_)
                clear hK K
                (try simp only [Act.put, List.getElem_toArray, List.getElem_cons_succ, List.getElem_cons_zero, List.setIfInBounds_toArray, List.set_cons_zero, List.set_cons_succ])
                obtain ⟨v8, hwn⟩ : ∃ wn, wn = st5 wn25 wd.heap.size (.int .i64 ya.k) (.int .i64 ya.w) (.int .i64 ya.c) (.int .i64 ya.s) (.slice py 0 cy) := ⟨_, rfl⟩
                have HX6 := Lib.hid (show Blk v8 _ 24 #[.int .i64 ya.k, .int .i64 ya.w, .int .i64 ya.c, .int .i64 ya.s, .slice py 0 cy] from hwn ▸ blk_st5 HG625.out (.int .i64 ya.k) (.int .i64 ya.w) (.int .i64 ya.c) (.int .i64 ya.s) (.slice py 0 cy))
                have HX7 := Lib.hid (show Blk v8 _ 24 #[.int .i64 0, .int .i64 0, .int .i64 0, .int .i64 0, .slice none 0 0] from hwn ▸ (far_st5 _ _ _ _ _ _ _ _ (fun e => HNE.out e.symm)).trans HG725.out)
                have HBv8 := Lib.hid (show Below w4.heap.size w4 v8 from hwn ▸ below_st5 HBn25.out HL625.out (.int .i64 ya.k) (.int .i64 ya.w) (.int .i64 ya.c) (.int .i64 ya.s) (.slice py 0 cy))
                unfold st5 at hwn
                rw [← hwn]
                clear hwn
                clear g0 g1 g2 g3 g4 h0 h1 h2 h3 h4 k0 k1 k2 k3 k4 l0 l1 l2 l3 l4
                obtain ⟨⟨h0, h1, h2, h3, h4⟩, l0, l1, l2, l3, l4⟩ := c5 HX7.out
                refine wpAnyH_ready (rs := [9]) (by kernel_rfl) (by simp) ?_
                refine AllReadyH.cons rfl (fun K hK => ?_) AllReadyH.nil
                go_simp
                refine hK.out _ _ (by exact HSS.out _ (below_st5 HBv8.out HL725.out (.int .i64 za.k) (.int .i64 za.w) (.int .i64 za.c) (.int .i64 za.s) (.slice pz 0 cz))) (fun hHeld => ?_)
                clear hK K
                (try simp only [Act.put, List.getElem_toArray, List.getElem_cons_succ, List.getElem_cons_zero, List.setIfInBounds_toArray, List.set_cons_zero, List.set_cons_succ])
                obtain ⟨v9, hwn⟩ : ∃ wn, wn = st5 v8 wn17.heap.size (.int .i64 za.k) (.int .i64 za.w) (.int .i64 za.c) (.int .i64 za.s) (.slice pz 0 cz) := ⟨_, rfl⟩
                have HY7 := Lib.hid (show Blk v9 _ 24 #[.int .i64 za.k, .int .i64 za.w, .int .i64 za.c, .int .i64 za.s, .slice pz 0 cz] from hwn ▸ blk_st5 HX7.out (.int .i64 za.k) (.int .i64 za.w) (.int .i64 za.c) (.int .i64 za.s) (.slice pz 0 cz))
                have HY6 := Lib.hid (show Blk v9 _ 24 #[.int .i64 ya.k, .int .i64 ya.w, .int .i64 ya.c, .int .i64 ya.s, .slice py 0 cy] from hwn ▸ (far_st5 _ _ _ _ _ _ _ _ HNE.out).trans HX6.out)
                have HBv9 := Lib.hid (show Below w4.heap.size w4 v9 from hwn ▸ below_st5 HBv8.out HL725.out (.int .i64 za.k) (.int .i64 za.w) (.int .i64 za.c) (.int .i64 za.s) (.slice pz 0 cz))
                unfold st5 at hwn
                rw [← hwn]
                clear hwn
                refine wpAnyH_done (by kernel_rfl) ?_ _
                refine NoPanic.normal ?_
                clear h0 h1 h2 h3 h4 l0 l1 l2 l3 l4 hHeld
                go_wp2_with fail
                go_meet
                exact ⟨_, _, _, _, rfl, rfl, HY6.out, HY7.out, HL625.out, HL725.out, HBv9.out⟩
        · go_simp
          refine hK.out _ _ (by exact HSS.out _ (HBd.out.alloc HBd.out.size (.cells #[.int .i64 0, .int .i64 0, .int .i64 0, .int .i64 0, .slice none 0 0] 24))) (fun hHeld => ?_)
          clear hK K
          (try simp only [Act.put, List.getElem_toArray, List.getElem_cons_succ, List.getElem_cons_zero, List.setIfInBounds_toArray, List.set_cons_zero, List.set_cons_succ])
          obtain ⟨wn26, hwn⟩ : ∃ wn, wn = wd.alloc (.cells #[.int .i64 0, .int .i64 0, .int .i64 0, .int .i64 0, .slice none 0 0] 24) := ⟨_, rfl⟩
          have HBn26 := Lib.hid (show Below w4.heap.size w4 wn26 from hwn ▸ HBd.out.alloc HBd.out.size _)
          have HG726 := Lib.hid (show Blk wn26 wd.heap.size 24 #[.int .i64 0, .int .i64 0, .int .i64 0, .int .i64 0, .slice none 0 0] from hwn ▸ Blk.new _ _ _)
          have HL726 : Hid (w4.heap.size ≤ wd.heap.size) := HBd.out.size
          rw [← hwn]
          clear hwn
          refine wpAnyH_ready (rs := [2, 6]) (by kernel_rfl) (by simp) ?_
          refine AllReadyH.cons rfl (fun K hK => ?_) (AllReadyH.cons rfl (fun K hK => ?_) AllReadyH.nil)
          · go_simp
            refine (HAT.out wn26 (HB4.out.trans (HBn26.out.mono HB4.out.size)) _ (HWI1.out.next HBn26.out)).mono ?_
            rintro e wn27 ⟨hb, sy, rfl, hk⟩
            obtain ⟨py, cy, rfl, -⟩ := hk.slice
            have HBn27 := Lib.hid (HBn26.out.trans (hb.mono HBn26.out.size))
            have HG727 := Lib.hid (HG726.out.next hb)
            have HL727 := HL726
            (try dsimp only)
            refine hK.out _ _ (by exact HSS.out _ HBn27.out) (fun hHeld => ?_)
            clear hK K hk hb
            (try simp only [Act.put, List.getElem_toArray, List.getElem_cons_succ, List.getElem_cons_zero, List.setIfInBounds_toArray, List.set_cons_zero, List.set_cons_succ])
            refine wpAnyH_ready (rs := [5, 6]) (by kernel_rfl) (by simp) ?_
            refine AllReadyH.cons rfl (fun K hK => ?_) (AllReadyH.cons rfl (fun K hK => ?_) AllReadyH.nil)
            · go_simp
              refine (HBT.out wn27 (HB4.out.trans (HBn27.out.mono HB4.out.size)) _ (HWI2.out.next HBn27.out)).mono ?_
              rintro e wn28 ⟨hb, sz, rfl, hk⟩
              obtain ⟨pz, cz, rfl, -⟩ := hk.slice
              have HBn28 := Lib.hid (HBn27.out.trans (hb.mono HBn27.out.size))
              have HG728 := Lib.hid (HG727.out.next hb)
              have HL728 := HL727
              (try dsimp only)
              refine hK.out _ _ (by exact HSS.out _ HBn28.out) (fun hHeld => ?_)
              clear hK K hk hb
              (try simp only [Act.put, List.getElem_toArray, List.getElem_cons_succ, List.getElem_cons_zero, List.setIfInBounds_toArray, List.set_cons_zero, List.set_cons_succ])
              refine wpAnyH_ready (rs := [6]) (by kernel_rfl) (by simp) ?_
              refine AllReadyH.cons rfl (fun K hK => ?_) AllReadyH.nil
              · go_simp
                refine hK.out _ _ (by exact HSS.out _ (HBn28.out.alloc HBn28.out.size (.cells #[.int .i64 0, .int .i64 0, .int .i64 0, .int .i64 0, .slice none 0 0] 24))) (fun hHeld => ?_)
                clear hK K
                (try simp only [Act.put, List.getElem_toArray, List.getElem_cons_succ, List.getElem_cons_zero, List.setIfInBounds_toArray, List.set_cons_zero, List.set_cons_succ])
                obtain ⟨wn29, hwn⟩ : ∃ wn, wn = wn28.alloc (.cells #[.int .i64 0, .int .i64 0, .int .i64 0, .int .i64 0, .slice none 0 0] 24) := ⟨_, rfl⟩
                have HBn29 := Lib.hid (show Below w4.heap.size w4 wn29 from hwn ▸ HBn28.out.alloc HBn28.out.size _)
                have HG629 := Lib.hid (show Blk wn29 wn28.heap.size 24 #[.int .i64 0, .int .i64 0, .int .i64 0, .int .i64 0, .slice none 0 0] from hwn ▸ Blk.new _ _ _)
                have HL629 : Hid (w4.heap.size ≤ wn28.heap.size) := HBn28.out.size
                have HG729 := Lib.hid (show Blk wn29 _ 24 #[.int .i64 0, .int .i64 0, .int .i64 0, .int .i64 0, .slice none 0 0] from hwn ▸ HG728.out.alloc _)
                have HL729 := HL728
                have HNE := Lib.hid (show _ ≠ _ from Nat.ne_of_gt HG728.out.lt)
                rw [← hwn]
                clear hwn
                obtain ⟨⟨g0, g1, g2, g3, g4⟩, k0, k1, k2, k3, k4⟩ := c5 HG629.out
                obtain ⟨⟨h0, h1, h2, h3, h4⟩, l0, l1, l2, l3, l4⟩ := c5 HG729.out
                refine wpAnyH_ready (rs := [8]) (by kernel_rfl) (by simp) ?_
                refine AllReadyH.cons rfl (fun K hK => ?_) AllReadyH.nil
                go_simp
                refine hK.out _ _ (by exact HSS.out _ (below_st5 HBn29.out HL629.out (.int .i64 ya.k) (.int .i64 ya.w) (.int .i64 ya.c) (.int .i64 ya.s) (.slice py 0 cy))) (fun hHeld => ?_)
                clear hK K
                (try simp only [Act.put, List.getElem_toArray, List.getElem_cons_succ, List.getElem_cons_zero, List.setIfInBounds_toArray, List.set_cons_zero, List.set_cons_succ])
                obtain ⟨v8, hwn⟩ : ∃ wn, wn = st5 wn29 wn28.heap.size (.int .i64 ya.k) (.int .i64 ya.w) (.int .i64 ya.c) (.int .i64 ya.s) (.slice py 0 cy) := ⟨_, rfl⟩
                have HX6 := Lib.hid (show Blk v8 _ 24 #[.int .i64 ya.k, .int .i64 ya.w, .int .i64 ya.c, .int .i64 ya.s, .slice py 0 cy] from hwn ▸ blk_st5 HG629.out (.int .i64 ya.k) (.int .i64 ya.w) (.int .i64 ya.c) (.int .i64 ya.s) (.slice py 0 cy))
                have HX7 := Lib.hid (show Blk v8 _ 24 #[.int .i64 0, .int .i64 0, .int .i64 0, .int .i64 0, .slice none 0 0] from hwn ▸ (far_st5 _ _ _ _ _ _ _ _ (fun e => HNE.out e.symm)).trans HG729.out)
                have HBv8 := Lib.hid (show Below w4.heap.size w4 v8 from hwn ▸ below_st5 HBn29.out HL629.out (.int .i64 ya.k) (.int .i64 ya.w) (.int .i64 ya.c) (.int .i64 ya.s) (.slice py 0 cy))
                unfold st5 at hwn
                rw [← hwn]
                clear hwn
                clear g0 g1 g2 g3 g4 h0 h1 h2 h3 h4 k0 k1 k2 k3 k4 l0 l1 l2 l3 l4
                obtain ⟨⟨h0, h1, h2, h3, h4⟩, l0, l1, l2, l3, l4⟩ := c5 HX7.out
                refine wpAnyH_ready (rs := [9]) (by kernel_rfl) (by simp) ?_
                refine AllReadyH.cons rfl (fun K hK => ?_) AllReadyH.nil
                go_simp
                refine hK.out _ _ (by exact HSS.out _ (below_st5 HBv8.out HL729.out (.int .i64 za.k) (.int .i64 za.w) (.int .i64 za.c) (.int .i64 za.s) (.slice pz 0 cz))) (fun hHeld => ?_)
                clear hK K
                (try simp only [Act.put, List.getElem_toArray, List.getElem_cons_succ, List.getElem_cons_zero, List.setIfInBounds_toArray, List.set_cons_zero, List.set_cons_succ])
                obtain ⟨v9, hwn⟩ : ∃ wn, wn = st5 v8 wd.heap.size (.int .i64 za.k) (.int .i64 za.w) (.int .i64 za.c) (.int .i64 za.s) (.slice pz 0 cz) := ⟨_, rfl⟩
                have HY7 := Lib.hid (show Blk v9 _ 24 #[.int .i64 za.k, .int .i64 za.w, .int .i64 za.c, .int .i64 za.s, .slice pz 0 cz] from hwn ▸ blk_st5 HX7.out (.int .i64 za.k) (.int .i64 za.w) (.int .i64 za.c) (.int .i64 za.s) (.slice pz 0 cz))
                have HY6 := Lib.hid (show Blk v9 _ 24 #[.int .i64 ya.k, .int .i64 ya.w, .int .i64 ya.c, .int .i64 ya.s, .slice py 0 cy] from hwn ▸ (far_st5 _ _ _ _ _ _ _ _ HNE.out).trans HX6.out)
                have HBv9 := Lib.hid (show Below w4.heap.size w4 v9 from hwn ▸ below_st5 HBv8.out HL729.out (.int .i64 za.k) (.int .i64 za.w) (.int .i64 za.c) (.int .i64 za.s) (.slice pz 0 cz))
                unfold st5 at hwn
                rw [← hwn]
                clear hwn
                refine wpAnyH_done (by kernel_rfl) ?_ _
                refine NoPanic.normal ?_
                clear h0 h1 h2 h3 h4 l0 l1 l2 l3 l4 hHeld
                go_wp2_with fail
                go_meet
                exact ⟨_, _, _, _, rfl, rfl, HY6.out, HY7.out, HL629.out, HL729.out, HBv9.out⟩
            · go_simp
              refine hK.out _ _ (by exact HSS.out _ (HBn27.out.alloc HBn27.out.size (.cells #[.int .i64 0, .int .i64 0, .int .i64 0, .int .i64 0, .slice none 0 0] 24))) (fun hHeld => ?_)
              clear hK K
              (try simp only [Act.put, List.getElem_toArray, List.getElem_cons_succ, List.getElem_cons_zero, List.setIfInBounds_toArray, List.set_cons_zero, List.set_cons_succ])
              obtain ⟨wn30, hwn⟩ : ∃ wn, wn = wn27.alloc (.cells #[.int .i64 0, .int .i64 0, .int .i64 0, .int .i64 0, .slice none 0 0] 24) := ⟨_, rfl⟩
              have HBn30 := Lib.hid (show Below w4.heap.size w4 wn30 from hwn ▸ HBn27.out.alloc HBn27.out.size _)
              have HG630 := Lib.hid (show Blk wn30 wn27.heap.size 24 #[.int .i64 0, .int .i64 0, .int .i64 0, .int .i64 0, .slice none 0 0] from hwn ▸ Blk.new _ _ _)
              have HL630 : Hid (w4.heap.size ≤ wn27.heap.size) := HBn27.out.size
              have HG730 := Lib.hid (show Blk wn30 _ 24 #[.int .i64 0, .int .i64 0, .int .i64 0, .int .i64 0, .slice none 0 0] from hwn ▸ HG727.out.alloc _)
              have HL730 := HL727
              have HNE := Lib.hid (show _ ≠ _ from Nat.ne_of_gt HG727.out.lt)
              rw [← hwn]
              clear hwn
              refine wpAnyH_ready (rs := [5]) (by kernel_rfl) (by simp) ?_
              refine AllReadyH.cons rfl (fun K hK => ?_) AllReadyH.nil
              · go_simp
                refine (HBT.out wn30 (HB4.out.trans (HBn30.out.mono HB4.out.size)) _ (HWI2.out.next HBn30.out)).mono ?_
                rintro e wn31 ⟨hb, sz, rfl, hk⟩
                obtain ⟨pz, cz, rfl, -⟩ := hk.slice
                have HBn31 := Lib.hid (HBn30.out.trans (hb.mono HBn30.out.size))
                have HG631 := Lib.hid (HG630.out.next hb)
                have HL631 := HL630
                have HG731 := Lib.hid (HG730.out.next hb)
                have HL731 := HL730
                (try dsimp only)
                refine hK.out _ _ (by exact HSS.out _ HBn31.out) (fun hHeld => ?_)
                clear hK K hk hb
                (try simp only [Act.put, List.getElem_toArray, List.getElem_cons_succ, List.getElem_cons_zero, List.setIfInBounds_toArray, List.set_cons_zero, List.set_cons_succ])
                obtain ⟨⟨g0, g1, g2, g3, g4⟩, k0, k1, k2, k3, k4⟩ := c5 HG631.out
                obtain ⟨⟨h0, h1, h2, h3, h4⟩, l0, l1, l2, l3, l4⟩ := c5 HG731.out
                refine wpAnyH_ready (rs := [8]) (by kernel_rfl) (by simp) ?_
                refine AllReadyH.cons rfl (fun K hK => ?_) AllReadyH.nil
                go_simp
                refine hK.out _ _ (by exact HSS.out _ (below_st5 HBn31.out HL631.out (.int .i64 ya.k) (.int .i64 ya.w) (.int .i64 ya.c) (.int .i64 ya.s) (.slice py 0 cy))) (fun hHeld => ?_)
                clear hK K
                (try simp only [Act.put, List.getElem_toArray, List.getElem_cons_succ, List.getElem_cons_zero, List.setIfInBounds_toArray, List.set_cons_zero, List.set_cons_succ])
                obtain ⟨v8, hwn⟩ : ∃ wn, wn = st5 wn31 wn27.heap.size (.int .i64 ya.k) (.int .i64 ya.w) (.int .i64 ya.c) (.int .i64 ya.s) (.slice py 0 cy) := ⟨_, rfl⟩
                have HX6 := Lib.hid (show Blk v8 _ 24 #[.int .i64 ya.k, .int .i64 ya.w, .int .i64 ya.c, .int .i64 ya.s, .slice py 0 cy] from hwn ▸ blk_st5 HG631.out (.int .i64 ya.k) (.int .i64 ya.w) (.int .i64 ya.c) (.int .i64 ya.s) (.slice py 0 cy))
                have HX7 := Lib.hid (show Blk v8 _ 24 #[.int .i64 0, .int .i64 0, .int .i64 0, .int .i64 0, .slice none 0 0] from hwn ▸ (far_st5 _ _ _ _ _ _ _ _ (fun e => HNE.out e.symm)).trans HG731.out)
                have HBv8 := Lib.hid (show Below w4.heap.size w4 v8 from hwn ▸ below_st5 HBn31.out HL631.out (.int .i64 ya.k) (.int .i64 ya.w) (.int .i64 ya.c) (.int .i64 ya.s) (.slice py 0 cy))
                unfold st5 at hwn
                rw [← hwn]
                clear hwn
                clear g0 g1 g2 g3 g4 h0 h1 h2 h3 h4 k0 k1 k2 k3 k4 l0 l1 l2 l3 l4
                obtain ⟨⟨h0, h1, h2, h3, h4⟩, l0, l1, l2, l3, l4⟩ := c5 HX7.out
                refine wpAnyH_ready (rs := [9]) (by kernel_rfl) (by simp) ?_
                refine AllReadyH.cons rfl (fun K hK => ?_) AllReadyH.nil
                go_simp
                refine hK.out _ _ (by exact HSS.out _ (below_st5 HBv8.out HL731.out (.int .i64 za.k) (.int .i64 za.w) (.int .i64 za.c) (.int .i64 za.s) (.slice pz 0 cz))) (fun hHeld => ?_)
                clear hK K
                (try simp only [Act.put, List.getElem_toArray, List.getElem_cons_succ, List.getElem_cons_zero, List.setIfInBounds_toArray, List.set_cons_zero, List.set_cons_succ])
                obtain ⟨v9, hwn⟩ : ∃ wn, wn = st5 v8 wd.heap.size (.int .i64 za.k) (.int .i64 za.w) (.int .i64 za.c) (.int .i64 za.s) (.slice pz 0 cz) := ⟨_, rfl⟩
                have HY7 := Lib.hid (show Blk v9 _ 24 #[.int .i64 za.k, .int .i64 za.w, .int .i64 za.c, .int .i64 za.s, .slice pz 0 cz] from hwn ▸ blk_st5 HX7.out (.int .i64 za.k) (.int .i64 za.w) (.int .i64 za.c) (.int .i64 za.s) (.slice pz 0 cz))
                have HY6 := Lib.hid (show Blk v9 _ 24 #[.int .i64 ya.k, .int .i64 ya.w, .int .i64 ya.c, .int .i64 ya.s, .slice py 0 cy] from hwn ▸ (far_st5 _ _ _ _ _ _ _ _ HNE.out).trans HX6.out)
                have HBv9 := Lib.hid (show Below w4.heap.size w4 v9 from hwn ▸ below_st5 HBv8.out HL731.out (.int .i64 za.k) (.int .i64 za.w) (.int .i64 za.c) (.int .i64 za.s) (.slice pz 0 cz))
                unfold st5 at hwn
                rw [← hwn]
                clear hwn
                refine wpAnyH_done (by kernel_rfl) ?_ _
                refine NoPanic.normal ?_
                clear h0 h1 h2 h3 h4 l0 l1 l2 l3 l4 hHeld
                go_wp2_with fail
                go_meet
                exact ⟨_, _, _, _, rfl, rfl, HY6.out, HY7.out, HL631.out, HL731.out, HBv9.out⟩
          · go_simp
            refine hK.out _ _ (by exact HSS.out _ (HBn26.out.alloc HBn26.out.size (.cells #[.int .i64 0, .int .i64 0, .int .i64 0, .int .i64 0, .slice none 0 0] 24))) (fun hHeld => ?_)
            clear hK K
            (try simp only [Act.put, List.getElem_toArray, List.getElem_cons_succ, List.getElem_cons_zero, List.setIfInBounds_toArray, List.set_cons_zero, List.set_cons_succ])
            obtain ⟨wn32, hwn⟩ : ∃ wn, wn = wn26.alloc (.cells #[.int .i64 0, .int .i64 0, .int .i64 0, .int .i64 0, .slice none 0 0] 24) := ⟨_, rfl⟩
            have HBn32 := Lib.hid (show Below w4.heap.size w4 wn32 from hwn ▸ HBn26.out.alloc HBn26.out.size _)
            have HG632 := Lib.hid (show Blk wn32 wn26.heap.size 24 #[.int .i64 0, .int .i64 0, .int .i64 0, .int .i64 0, .slice none 0 0] from hwn ▸ Blk.new _ _ _)
            have HL632 : Hid (w4.heap.size ≤ wn26.heap.size) := HBn26.out.size
            have HG732 := Lib.hid (show Blk wn32 _ 24 #[.int .i64 0, .int .i64 0, .int .i64 0, .int .i64 0, .slice none 0 0] from hwn ▸ HG726.out.alloc _)
            have HL732 := HL726
            have HNE := Lib.hid (show _ ≠ _ from Nat.ne_of_gt HG726.out.lt)
            rw [← hwn]
            clear hwn
            refine wpAnyH_ready (rs := [2]) (by kernel_rfl) (by simp) ?_
            refine AllReadyH.cons rfl (fun K hK => ?_) AllReadyH.nil
            · go_simp
              refine (HAT.out wn32 (HB4.out.trans (HBn32.out.mono HB4.out.size)) _ (HWI1.out.next HBn32.out)).mono ?_
              rintro e wn33 ⟨hb, sy, rfl, hk⟩
              obtain ⟨py, cy, rfl, -⟩ := hk.slice
              have HBn33 := Lib.hid (HBn32.out.trans (hb.mono HBn32.out.size))
              have HG633 := Lib.hid (HG632.out.next hb)
              have HL633 := HL632
              have HG733 := Lib.hid (HG732.out.next hb)
              have HL733 := HL732
              (try dsimp only)
              refine hK.out _ _ (by exact HSS.out _ HBn33.out) (fun hHeld => ?_)
              clear hK K hk hb
              (try simp only [Act.put, List.getElem_toArray, List.getElem_cons_succ, List.getElem_cons_zero, List.setIfInBounds_toArray, List.set_cons_zero, List.set_cons_succ])
              refine wpAnyH_ready (rs := [5]) (by kernel_rfl) (by simp) ?_
              refine AllReadyH.cons rfl (fun K hK => ?_) AllReadyH.nil
              · go_simp
                refine (HBT.out wn33 (HB4.out.trans (HBn33.out.mono HB4.out.size)) _ (HWI2.out.next HBn33.out)).mono ?_
                rintro e wn34 ⟨hb, sz, rfl, hk⟩
                obtain ⟨pz, cz, rfl, -⟩ := hk.slice
                have HBn34 := Lib.hid (HBn33.out.trans (hb.mono HBn33.out.size))
                have HG634 := Lib.hid (HG633.out.next hb)
                have HL634 := HL633
                have HG734 := Lib.hid (HG733.out.next hb)
                have HL734 := HL733
                (try dsimp only)
                refine hK.out _ _ (by exact HSS.out _ HBn34.out) (fun hHeld => ?_)
                clear hK K hk hb
                (try simp only [Act.put, List.getElem_toArray, List.getElem_cons_succ, List.getElem_cons_zero, List.setIfInBounds_toArray, List.set_cons_zero, List.set_cons_succ])
                obtain ⟨⟨g0, g1, g2, g3, g4⟩, k0, k1, k2, k3, k4⟩ := c5 HG634.out
                obtain ⟨⟨h0, h1, h2, h3, h4⟩, l0, l1, l2, l3, l4⟩ := c5 HG734.out
                refine wpAnyH_ready (rs := [8]) (by kernel_rfl) (by simp) ?_
                refine AllReadyH.cons rfl (fun K hK => ?_) AllReadyH.nil
                go_simp
                refine hK.out _ _ (by exact HSS.out _ (below_st5 HBn34.out HL634.out (.int .i64 ya.k) (.int .i64 ya.w) (.int .i64 ya.c) (.int .i64 ya.s) (.slice py 0 cy))) (fun hHeld => ?_)
                clear hK K
                (try simp only [Act.put, List.getElem_toArray, List.getElem_cons_succ, List.getElem_cons_zero, List.setIfInBounds_toArray, List.set_cons_zero, List.set_cons_succ])
                obtain ⟨v8, hwn⟩ : ∃ wn, wn = st5 wn34 wn26.heap.size (.int .i64 ya.k) (.int .i64 ya.w) (.int .i64 ya.c) (.int .i64 ya.s) (.slice py 0 cy) := ⟨_, rfl⟩
                have HX6 := Lib.hid (show Blk v8 _ 24 #[.int .i64 ya.k, .int .i64 ya.w, .int .i64 ya.c, .int .i64 ya.s, .slice py 0 cy] from hwn ▸ blk_st5 HG634.out (.int .i64 ya.k) (.int .i64 ya.w) (.int .i64 ya.c) (.int .i64 ya.s) (.slice py 0 cy))
                have HX7 := Lib.hid (show Blk v8 _ 24 #[.int .i64 0, .int .i64 0, .int .i64 0, .int .i64 0, .slice none 0 0] from hwn ▸ (far_st5 _ _ _ _ _ _ _ _ (fun e => HNE.out e.symm)).trans HG734.out)
                have HBv8 := Lib.hid (show Below w4.heap.size w4 v8 from hwn ▸ below_st5 HBn34.out HL634.out (.int .i64 ya.k) (.int .i64 ya.w) (.int .i64 ya.c) (.int .i64 ya.s) (.slice py 0 cy))
                unfold st5 at hwn
                rw [← hwn]
                clear hwn
                clear g0 g1 g2 g3 g4 h0 h1 h2 h3 h4 k0 k1 k2 k3 k4 l0 l1 l2 l3 l4
                obtain ⟨⟨h0, h1, h2, h3, h4⟩, l0, l1, l2, l3, l4⟩ := c5 HX7.out
                refine wpAnyH_ready (rs := [9]) (by kernel_rfl) (by simp) ?_
                refine AllReadyH.cons rfl (fun K hK => ?_) AllReadyH.nil
                go_simp
                refine hK.out _ _ (by exact HSS.out _ (below_st5 HBv8.out HL734.out (.int .i64 za.k) (.int .i64 za.w) (.int .i64 za.c) (.int .i64 za.s) (.slice pz 0 cz))) (fun hHeld => ?_)
                clear hK K
                (try simp only [Act.put, List.getElem_toArray, List.getElem_cons_succ, List.getElem_cons_zero, List.setIfInBounds_toArray, List.set_cons_zero, List.set_cons_succ])
                obtain ⟨v9, hwn⟩ : ∃ wn, wn = st5 v8 wd.heap.size (.int .i64 za.k) (.int .i64 za.w) (.int .i64 za.c) (.int .i64 za.s) (.slice pz 0 cz) := ⟨_, rfl⟩
                have HY7 := Lib.hid (show Blk v9 _ 24 #[.int .i64 za.k, .int .i64 za.w, .int .i64 za.c, .int .i64 za.s, .slice pz 0 cz] from hwn ▸ blk_st5 HX7.out (.int .i64 za.k) (.int .i64 za.w) (.int .i64 za.c) (.int .i64 za.s) (.slice pz 0 cz))
                have HY6 := Lib.hid (show Blk v9 _ 24 #[.int .i64 ya.k, .int .i64 ya.w, .int .i64 ya.c, .int .i64 ya.s, .slice py 0 cy] from hwn ▸ (far_st5 _ _ _ _ _ _ _ _ HNE.out).trans HX6.out)
                have HBv9 := Lib.hid (show Below w4.heap.size w4 v9 from hwn ▸ below_st5 HBv8.out HL734.out (.int .i64 za.k) (.int .i64 za.w) (.int .i64 za.c) (.int .i64 za.s) (.slice pz 0 cz))
                unfold st5 at hwn
                rw [← hwn]
                clear hwn
                refine wpAnyH_done (by kernel_rfl) ?_ _
                refine NoPanic.normal ?_
                clear h0 h1 h2 h3 h4 l0 l1 l2 l3 l4 hHeld
                go_wp2_with fail
                go_meet
                exact ⟨_, _, _, _, rfl, rfl, HY6.out, HY7.out, HL634.out, HL734.out, HBv9.out⟩
      case rest =>
        obtain ⟨w5, hw5⟩ : ∃ w5, w5 = wc := ⟨_, rfl⟩
        subst hw5
        obtain ⟨g, h, sy, sz, rfl, rfl, hg, hh, hlg, hlh, hb⟩ := hcut
        have HB5 := Lib.hid (HB4.out.trans (hb.mono HB4.out.size))
        have HQa5 := Lib.hid (HQa4.out.next hb)
        have HQb5 := Lib.hid (HQb4.out.next hb)
        have HW1 := Lib.hid (HWI1.out.next hb)
        have HW2 := Lib.hid (HWI2.out.next hb)
        have HG := Lib.hid hg
        have HH := Lib.hid hh
        have HLG := Lib.hid hlg
        have HLH := Lib.hid hlh
        obtain ⟨⟨q0, q1, q2, q3, q4⟩, q5, q6, q7, q8, q9⟩ := c5 HQa5.out
        obtain ⟨⟨g0, g1, g2, g3, g4⟩, -⟩ := c5 hg
        obtain ⟨⟨h0, h1, h2, h3, h4⟩, -⟩ := c5 hh
        clear hg hh hb hlg hlh HAT HBT HA1 HA2 HF1 HF2 HSS
        go_wp2_with fail
        refine (HP1.out _ HB5.out _ HW1.out).mono ?_
        rintro e w6 ⟨hb, s6, rfl, hk6⟩
        obtain ⟨p6, c6, rfl, -⟩ := hk6.slice
        obtain ⟨n6, hn6⟩ : ∃ q, q = x1.ks.length := ⟨_, rfl⟩
        rw [← hn6] at hk6 ⊢
        have HB6 := Lib.hid (HB5.out.trans (hb.mono HB5.out.size))
        have HQa6 := Lib.hid (HQa5.out.next hb)
        have HQb6 := Lib.hid (HQb5.out.next hb)
        have HG6 := Lib.hid (HG.out.next hb)
        have HH6 := Lib.hid (HH.out.next hb)
        have HW6 := Lib.hid (HW2.out.next hb)
        have HK6 := Lib.hid hk6
        have HS5 : Hid (w.heap.size + 1 + 1 ≤ w5.heap.size) := HQb5.out.lt
        clear q0 q1 q2 q3 q4 q5 q6 q7 q8 q9 g0 g1 g2 g3 g4 h0 h1 h2 h3 h4
        obtain ⟨⟨q0, q1, q2, q3, q4⟩, q5, q6, q7, q8, q9⟩ := c5 HQa6.out
        clear hb hk6 hn6 HP1
        go_upto_region 9 with fail
        clear q0 q1 q2 q3 q4 q5 q6 q7 q8 q9
        obtain ⟨hb7, hq7, hne7⟩ := st5_next HB6.out (Nat.le_refl _) HQa6.out (.int .i64 x1.a.k) (.int .i64 x1.a.w) (.int .i64 x1.a.c) (.int .i64 x1.a.s) (.slice p6 n6 c6)
        have hk7 := KV.st5 (g := w.heap.size) (Z' := fun b => Z b ∨ w5.heap.size ≤ b) HK6.out (fun b hb => by rcases hb with hb | hb; (have := HZ.out b hb; omega); (have := HS5.out; omega)) (fun b hb => hb) (.int .i64 x1.a.k) (.int .i64 x1.a.w) (.int .i64 x1.a.c) (.int .i64 x1.a.s) (.slice p6 n6 c6)
        have hqb7 := hne7 _ _ _ (show w.heap.size + 1 ≠ w.heap.size by omega) HQb6.out
        have hg7 := hne7 _ _ _ (show g ≠ w.heap.size by have := HLG.out; have := HS4.out; omega) HG6.out
        have hh7 := hne7 _ _ _ (show h ≠ w.heap.size by have := HLH.out; have := HS4.out; omega) HH6.out
        have hw7 : WI (st5 w6 w.heap.size (.int .i64 x1.a.k) (.int .i64 x1.a.w) (.int .i64 x1.a.c) (.int .i64 x1.a.s) (.slice p6 n6 c6)) v (.slice p2 n2 c2) := by
          refine HW6.out.same9 (by simp [st5, World.setCell]) fun b o e => far_st5 _ _ _ _ _ _ _ _ ?_
          have h1 := HYO2.out b o e
          have h2 := HB3.out.size
          omega
        obtain ⟨w7, hw7e⟩ : ∃ w7, w7 = st5 w6 w.heap.size (.int .i64 x1.a.k) (.int .i64 x1.a.w) (.int .i64 x1.a.c) (.int .i64 x1.a.s) (.slice p6 n6 c6) := ⟨_, rfl⟩
        rw [← hw7e] at hb7 hq7 hk7 hqb7 hg7 hh7 hw7
        unfold st5 at hw7e
        rewrite [← hw7e]
        have HB7 := Lib.hid hb7
        have HQa7 := Lib.hid hq7
        have HQb7 := Lib.hid hqb7
        have HK7 := Lib.hid hk7
        have HW7 := Lib.hid hw7
        obtain ⟨⟨q0, q1, q2, q3, q4⟩, -⟩ := c5 hq7
        obtain ⟨⟨g0, g1, g2, g3, g4⟩, -⟩ := c5 hg7
        obtain ⟨⟨h0, h1, h2, h3, h4⟩, -⟩ := c5 hh7
        have hlg := hg7.lt
        have hlh := hh7.lt
        clear hb7 hq7 hne7 hk7 hqb7 hg7 hh7 hw7 hw7e
        go_wp2_with fail
        refine (HP2.out _ (fun b => (Z b ∨ w5.heap.size ≤ b) ∧ b < w7.heap.size) _ _ (fun _ h => h.2) HK7.out.lt_ HW7.out).mono ?_
        rintro e w8 ⟨hb, s8, rfl, hk8⟩
        obtain ⟨p8, c8, rfl, -⟩ := hk8.slice
        obtain ⟨n8, hn8⟩ : ∃ q, q = x2.ks.length := ⟨_, rfl⟩
        rw [← hn8] at hk8 ⊢
        have HB8 := Lib.hid (HB7.out.trans (hb.mono HB7.out.size))
        have HQb8 := Lib.hid (HQb7.out.next hb)
        have HK8 := Lib.hid hk8
        have HS7 : Hid (w.heap.size + 1 + 1 ≤ w7.heap.size) := HQb7.out.lt
        clear q0 q1 q2 q3 q4 g0 g1 g2 g3 g4 h0 h1 h2 h3 h4 hlg hlh
        obtain ⟨⟨r0, r1, r2, r3, r4⟩, ⟨f0, f1, f2, f3, f4⟩⟩ := c5 HQb8.out
        clear hb hk8 hn8 HP2
        go_wp2_with fail
        obtain ⟨hb5, hq5, -⟩ := st5_next HB8.out (by omega) HQb8.out (.int .i64 x2.a.k) (.int .i64 x2.a.w) (.int .i64 x2.a.c) (.int .i64 x2.a.s) (.slice p8 n8 c8)
        have hk5 := KV.st5 (g := w.heap.size + 1) (Z' := fun b => Z b ∨ w.heap.size ≤ b) HK8.out (fun b hb => by rcases hb with ⟨hb | hb, _⟩ | hb; (have := HZ.out b hb; omega); (have := HS5.out; omega); (have := HS7.out; omega)) (fun b hb => by rcases hb with ⟨hb | hb, _⟩ | hb; exact .inl hb; (right; have := HS5.out; omega); (right; have := HS7.out; omega)) (.int .i64 x2.a.k) (.int .i64 x2.a.w) (.int .i64 x2.a.c) (.int .i64 x2.a.s) (.slice p8 n8 c8)
        obtain ⟨w9, hw9⟩ : ∃ w9, w9 = st5 w8 (w.heap.size + 1) (.int .i64 x2.a.k) (.int .i64 x2.a.w) (.int .i64 x2.a.c) (.int .i64 x2.a.s) (.slice p8 n8 c8) := ⟨_, rfl⟩
        rw [← hw9] at hb5 hq5 hk5
        unfold st5 at hw9
        rewrite [← hw9]
        obtain ⟨⟨b0, b1, b2, b3, b4⟩, -⟩ := c5 hq5
        exact bodyPost_ret (v := .tuple #[.agg #[.int .i64 x2.a.k, .int .i64 x2.a.w, .int .i64 x2.a.c, .int .i64 x2.a.s, .slice p8 n8 c8], .int .i64 0]) (by simp [results, Try.results36, go_sem, b0, b1, b2, b3, b4]) rfl ((HR.out _ _).2 ⟨hb5, x2, .slice p8 n8 c8, rfl, hk5, (by rw [if_pos rfl])⟩)
end Go.Proofs.Ytbbmfpdlkogkfaa.Co
end
