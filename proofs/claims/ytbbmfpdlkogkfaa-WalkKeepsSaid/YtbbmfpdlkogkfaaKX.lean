/- The document's less. The document's Remove. Small containers; what the code's calls tell, as it reads. Plain: what a tree is when a container in it becomes another: its leaves, its shape, how many containers. Plain: two clients swapped: a tree, and back again. -/
import Derived.Test.YtbbmfpdlkogkfaaCpZ
import Derived.Test.YtbbmfpdlkogkfaaCpF
import Derived.Test.YtbbmfpdlkogkfaaCpM
section
namespace Go.Proofs.Ytbbmfpdlkogkfaa.Co
open Go.RowKit Go.Shelf Go.Maps
theorem add0 (g i : Nat) : (⟨g, 0, none⟩ : Addr).add i = ⟨g, i, none⟩ := by unfold Addr.add; split <;> simp_all
theorem KV.st5 {w : World} {Z Z' : Nat → Prop} {ks : List Con} {v : Value} {g : Nat} (h : KV w Z ks v) (hg : ∀ b, Z b → b ≠ g) (hz : ∀ b, Z b → Z' b) (v0 v1 v2 v3 v4 : Value) : KV (st5 w g v0 v1 v2 v3 v4) Z' ks v :=
  h.same hz (by simp [Co.st5, World.setCell]) fun b hb _ => far_st5 w g v0 v1 v2 v3 v4 b (hg b hb)
/-- What is left, and whether. -/
def LessR (Z : Nat → Prop) (x : Con) (c : Int) (w : World) (e : Ending) (w' : World) : Prop :=
  Below w.heap.size w w' ∧ ∃ (y : Con) (s : Value), e = .returned (.tuple #[conV y.a s, .bool (lessT c x).isSome]) ∧ KV w' (fun b => Z b ∨ w.heap.size ≤ b) y.ks s ∧ ∀ t, lessT c x = some t → y = t
set_option maxHeartbeats 4000000 in
theorem less_c (c : Int) : ∀ (x : Con) (Z : Nat → Prop) (sv : Value) (w : World), KV w Z x.ks sv → (∀ b, Z b → b < w.heap.size) → (all x).length ≤ 1000000 → fine x →
    Calls Try.prog 74 #[conV x.a sv, .int .i64 c] w (LessR Z x c w) := by
  intro x
  induction x using Tr.ind with
  | h a ks ih =>
    intro Z sv w hK hZ hd hf
    obtain ⟨p, cap, rfl, -⟩ : ∃ p cap, sv = .slice p ks.length cap ∧ ks.length ≤ 1152921504606846976 := hK.slice
    have hK : KV w Z ks (.slice p ks.length cap) := hK
    obtain ⟨m, hm⟩ : ∃ m, m = ks.length := ⟨_, rfl⟩
    rw [← hm] at hK ⊢
    obtain ⟨hfa, hfl, hfk⟩ := fine_kids hf
    rw [← hm] at hfl
    obtain ⟨R, hR⟩ : ∃ R, R = LessR Z (.mk a ks) c w := ⟨_, rfl⟩
    have hRe : ∀ e w', R e w' ↔ LessR Z (.mk a ks) c w e w' := by rw [hR]; exact fun _ _ => Iff.rfl
    rw [← hR]
    have HR := Lib.hid hRe
    obtain ⟨wB, hwB⟩ : ∃ wB, wB = (w.alloc (.cells #[.int .i64 a.k, .int .i64 a.w, .int .i64 a.c, .int .i64 a.s, .slice p m cap] 24)).alloc (.cells #[.int .i64 0, .int .i64 0, .int .i64 0, .int .i64 0, .slice none 0 0] 24) := ⟨_, rfl⟩
    have hb0 : Below w.heap.size w wB := by rw [hwB]; exact ((Below.refl w.heap.size w).alloc (Nat.le_refl _) _).alloc (by simp) _
    have hq1 : Blk wB w.heap.size 24 #[.int .i64 a.k, .int .i64 a.w, .int .i64 a.c, .int .i64 a.s, .slice p m cap] := by rw [hwB]; exact (Blk.new w 24 _).alloc _
    have hq2 : Blk wB (w.heap.size + 1) 24 #[.int .i64 0, .int .i64 0, .int .i64 0, .int .i64 0, .slice none 0 0] := by
      rw [hwB]; have := Blk.new (w.alloc (.cells #[.int .i64 a.k, .int .i64 a.w, .int .i64 a.c, .int .i64 a.s, .slice p m cap] 24)) 24 #[.int .i64 0, .int .i64 0, .int .i64 0, .int .i64 0, .slice none 0 0]; rwa [World.size_alloc] at this
    have HB := Lib.hid hb0
    have HQ1 := Lib.hid hq1
    have HQ2 := Lib.hid hq2
    have HWB := Lib.hid hwB
    have HK := Lib.hid hK
    have HZ := Lib.hid hZ
    by_cases hk0 : a.k = 0
    · have hke : (a.k == 0) = true := by simpa using hk0
      have hT : lessT c (.mk a ks) = if a.c = c then none else some (.mk a ks) := by simp only [lessT]; rw [if_pos hk0]
      have HT := Lib.hid hT
      obtain ⟨⟨q0, q1, q2, q3, q4⟩, -⟩ := c5 hq1
      obtain ⟨⟨r0, r1, r2, r3, r4⟩, ⟨f0, f1, f2, f3, f4⟩⟩ := c5 hq2
      clear hR hRe hK hZ hd hf hwB hb0 hq1 hq2 hfk ih hm hT hk0
      show Calls Try.prog 74 #[.agg #[.int .i64 a.k, .int .i64 a.w, .int .i64 a.c, .int .i64 a.s, .slice p m cap], .int .i64 c] w R
      go_enter Try.func74, Try.ntmps74
      go_wp2_with fail
      rw [← HWB.out]
      go_region
      go_wp2_with fail
      obtain ⟨hb5, hq5, -⟩ := st5_next HB.out (by omega) HQ2.out (.int .i64 a.k) (.int .i64 a.w) (.int .i64 a.c) (.int .i64 a.s) (.slice p m cap)
      have hk5 := KV.st5 (g := w.heap.size + 1) (Z' := fun b => Z b ∨ w.heap.size ≤ b) (HK.out.next HB.out) (fun b hb => by have := HZ.out b hb; omega) (fun b hb => .inl hb) (.int .i64 a.k) (.int .i64 a.w) (.int .i64 a.c) (.int .i64 a.s) (.slice p m cap)
      obtain ⟨w5, hw5⟩ : ∃ w5, w5 = st5 wB (w.heap.size + 1) (.int .i64 a.k) (.int .i64 a.w) (.int .i64 a.c) (.int .i64 a.s) (.slice p m cap) := ⟨_, rfl⟩
      rw [← hw5] at hb5 hq5 hk5
      unfold st5 at hw5
      rw [← hw5]
      obtain ⟨⟨b0, b1, b2, b3, b4⟩, -⟩ := c5 hq5.drew
      exact bodyPost_ret (v := .tuple #[.agg #[.int .i64 a.k, .int .i64 a.w, .int .i64 a.c, .int .i64 a.s, .slice p m cap], .bool (a.c != c)]) (by simp [results, Try.results74, go_sem, b0, b1, b2, b3, b4]) rfl ((HR.out _ _).2 ⟨hb5.drew, .mk a ks, .slice p m cap, (by rw [HT.out]; by_cases hac : a.c = c <;> simp [hac]), hk5.drew, (fun t ht => by rw [HT.out] at ht; split at ht; cases ht; exact Option.some.inj ht)⟩)
    · have hke : (a.k == 0) = false := by simpa using hk0
      have hd' : (all (.mk a ks)).length ≤ 1000000 := hd
      have HI := Lib.hid (Has_c Z (.mk a ks) (.slice p m cap) c wB (hK.next hb0) hd (fun b hb => Nat.lt_of_lt_of_le (hZ b hb) hb0.size))
      obtain ⟨⟨q0, q1, q2, q3, q4⟩, -⟩ := c5 hq1
      cases hhb : hasB (.mk a ks) c
      · rw [hhb] at HI
        have HT := Lib.hid (lessT_same hhb)
        clear hR hRe hK hZ hd hd' hf hwB hb0 hq1 hq2 hfk ih hm hk0 hhb
        show Calls Try.prog 74 #[.agg #[.int .i64 a.k, .int .i64 a.w, .int .i64 a.c, .int .i64 a.s, .slice p m cap], .int .i64 c] w R
        go_enter Try.func74, Try.ntmps74
        go_wp2_with fail
        rw [← HWB.out]
        go_wp2_with fail
        refine HI.out.mono ?_
        rintro e w1 ⟨rfl, hb⟩
        have HB1 := Lib.hid (HB.out.trans (hb.mono HB.out.size))
        have HQ3 := Lib.hid (HQ2.out.next hb)
        clear q0 q1 q2 q3 q4
        obtain ⟨⟨q0, q1, q2, q3, q4⟩, -⟩ := c5 (HQ1.out.next hb)
        obtain ⟨⟨r0, r1, r2, r3, r4⟩, ⟨f0, f1, f2, f3, f4⟩⟩ := c5 HQ3.out
        clear hb
        go_wp2_with fail
        obtain ⟨hb5, hq5, -⟩ := st5_next HB1.out (by omega) HQ3.out (.int .i64 a.k) (.int .i64 a.w) (.int .i64 a.c) (.int .i64 a.s) (.slice p m cap)
        have hk5 := KV.st5 (g := w.heap.size + 1) (Z' := fun b => Z b ∨ w.heap.size ≤ b) (HK.out.next HB1.out) (fun b hb => by have := HZ.out b hb; omega) (fun b hb => .inl hb) (.int .i64 a.k) (.int .i64 a.w) (.int .i64 a.c) (.int .i64 a.s) (.slice p m cap)
        obtain ⟨w5, hw5⟩ : ∃ w5, w5 = st5 w1 (w.heap.size + 1) (.int .i64 a.k) (.int .i64 a.w) (.int .i64 a.c) (.int .i64 a.s) (.slice p m cap) := ⟨_, rfl⟩
        rw [← hw5] at hb5 hq5 hk5
        unfold st5 at hw5
        rw [← hw5]
        obtain ⟨⟨b0, b1, b2, b3, b4⟩, -⟩ := c5 hq5
        exact bodyPost_ret (v := .tuple #[.agg #[.int .i64 a.k, .int .i64 a.w, .int .i64 a.c, .int .i64 a.s, .slice p m cap], .bool true]) (by simp [results, Try.results74, go_sem, b0, b1, b2, b3, b4]) rfl ((HR.out _ _).2 ⟨hb5, .mk a ks, .slice p m cap, (by rw [HT.out]; rfl), hk5, (fun t ht => by rw [HT.out] at ht; exact Option.some.inj ht)⟩)
      · rw [hhb] at HI
        have hT : lessT c (.mk a ks) = packT a (lessL c ks) := by simp only [lessT]; rw [if_neg hk0, if_neg (by rw [hhb]; simp)]
        have HT := Lib.hid hT
        have HIH : Hid (∀ (j : Nat) (q : Con) (s : Value) (W : World), ks[j]? = some q → KV w Z q.ks s → Below w.heap.size w W → Calls Try.prog 74 #[conV q.a s, .int .i64 c] W (LessR Z q c W)) := fun j q s W hj hs hb => by
          have hq := List.mem_of_getElem? hj
          refine ih q hq Z s W (hs.next hb) (fun b h => Nat.lt_of_lt_of_le (hZ b h) hb.size) ?_ (hfk q hq)
          rw [all_kid hk0] at hd'
          obtain ⟨l1, l2, e⟩ := List.append_of_mem hq
          rw [e, List.flatMap_append, List.flatMap_cons] at hd'
          simp at hd'; omega
        have HFK := Lib.hid hfk
        have HFA := Lib.hid hfa
        have HM := Lib.hid hm
        clear hR hRe hK hZ hd hd' hf hwB hb0 hq1 hq2 hfk ih hm hk0 hhb hT
        show Calls Try.prog 74 #[.agg #[.int .i64 a.k, .int .i64 a.w, .int .i64 a.c, .int .i64 a.s, .slice p m cap], .int .i64 c] w R
        go_enter Try.func74, Try.ntmps74
        go_wp2_with fail
        rw [← HWB.out]
        go_wp2_with fail
        refine HI.out.mono ?_
        rintro e w1 ⟨rfl, hb⟩
        have hb1 := HB.out.trans (hb.mono HB.out.size)
        have hq1 := HQ1.out.next hb
        have hq2 := HQ2.out.next hb
        have hs1 : w.heap.size + 1 + 1 ≤ w1.heap.size := hq2.lt
        clear hb q0 q1 q2 q3 q4 HI
        go_wp2_with fail
        go_loopw [6, 7] (fun v z wr => ∃ i : Nat, i ≤ m ∧ z = .int .i64 i ∧ Below w.heap.size w wr ∧ Blk wr w.heap.size 24 #[.int .i64 a.k, .int .i64 a.w, .int .i64 a.c, .int .i64 a.s, .slice p m cap] ∧ Blk wr (w.heap.size + 1) 24 #[.int .i64 0, .int .i64 0, .int .i64 0, .int .i64 0, .slice none 0 0] ∧ RowF (fun b => Z b ∨ w.heap.size + 1 + 1 ≤ b) (w.heap.size + 1 + 1) (lessL c (ks.take i)) v wr) (fun _ z _ => m - (intOf z).toNat)
        case atStart => exact ⟨0, Nat.zero_le _, rfl, hb1, hq1, hq2, RowF.nil _ _ _⟩
        case round =>
          clear hb1 hq1 hq2 hs1
          obtain ⟨i, hi, rfl, hW, hq1, hq2, hrow⟩ := hrel
          have hsr : w.heap.size + 1 + 1 ≤ wr.heap.size := hq2.lt
          by_cases hlt : i < m
          · obtain ⟨q, hq⟩ : ∃ q, ks[i]? = some q := ⟨_, List.getElem?_eq_getElem (by rw [← HM.out]; exact hlt)⟩
            obtain ⟨-, kb, ko, sq, rfl, -, hkb, -, hkq, c0, c1, c2, c3, c4⟩ := HK.out.kid hq
            have HL := Lib.hid (HIH.out i q sq wr hq hkq hW)
            obtain ⟨pq, kq, rfl, -⟩ := hkq.slice
            obtain ⟨nq, hnq⟩ : ∃ n, n = q.ks.length := ⟨_, rfl⟩
            rw [← hnq] at HL c4
            obtain ⟨c0, c1, c2, c3, c4⟩ := cells5 hW hkb ⟨c0, c1, c2, c3, c4⟩
            obtain ⟨⟨q0, q1, q2, q3, q4⟩, -⟩ := c5 hq1
            obtain ⟨n, hn⟩ : ∃ n, n = (lessL c (ks.take i)).length := ⟨_, rfl⟩
            obtain ⟨pv, cv, rfl⟩ := hrow.slice' hn.symm
            have HSN := Lib.hid (lessL_snoc (c := c) hq)
            have hnm : n ≤ m := by rw [hn]; have := lessL_len c (ks.take i); simp at this; omega
            have HN := Lib.hid hn
            have HRW := Lib.hid hrow
            have HW := Lib.hid hW
            have HQ3 := Lib.hid hq1
            have HQ4 := Lib.hid hq2
            have HSR := Lib.hid hsr
            have HQF := Lib.hid (HFK.out q (List.mem_of_getElem? hq))
            clear hq hkq hnq hn hrow hW hq1 hq2 hsr
            go_wp2_with fail
            refine HL.out.mono ?_
            rintro e w2 ⟨hb, y, s, rfl, hky, hyt⟩
            obtain ⟨py, ky, rfl, -⟩ := hky.slice
            obtain ⟨ny, hny⟩ : ∃ n, n = y.ks.length := ⟨_, rfl⟩
            rw [← hny] at hky ⊢
            have HOL : Hid (∀ g, (Value.slice pv n cv).ownBlock = some g → w.heap.size + 1 + 1 ≤ g ∧ g < wr.heap.size) := fun g hg => by obtain ⟨vs, h1, _⟩ := HRW.out; exact h1.lt g hg
            have HKY := Lib.hid hky
            have HB2 := Lib.hid hb
            cases hl : lessT c q with
            | none =>
              have HSE : Hid (lessL c (ks.take (i + 1)) = lessL c (ks.take i)) := by show _ = _; rw [HSN.out, hl]; simp
              clear hky hyt hny hb hl
              go_wp2_with fail
              have hb3 := HB2.out.alloc HB2.out.size (.cells #[.int .i64 y.a.k, .int .i64 y.a.w, .int .i64 y.a.c, .int .i64 y.a.s, .slice py ny ky] 24)
              obtain ⟨w3, hw3⟩ : ∃ w3, w3 = w2.alloc (.cells #[.int .i64 y.a.k, .int .i64 y.a.w, .int .i64 y.a.c, .int .i64 y.a.s, .slice py ny ky] 24) := ⟨_, rfl⟩
              rw [← hw3] at hb3 ⊢
              refine ⟨⟨i + 1, by omega, by go_num, HW.out.trans (hb3.mono HW.out.size), HQ3.out.next hb3, HQ4.out.next hb3, ?_⟩, by simp [intOf]; omega⟩
              rw [HSE.out]
              exact HRW.out.next hb3
            | some t =>
              have HSE : Hid (lessL c (ks.take (i + 1)) = lessL c (ks.take i) ++ [t]) := by show _ = _; rw [HSN.out, hl]; simp
              have hyt := hyt t hl
              subst hyt
              have HYF := Lib.hid (lessT_fine c q y HQF.out hl)
              obtain ⟨w4, hw4⟩ : ∃ w4, w4 = (w2.alloc (.cells #[.int .i64 y.a.k, .int .i64 y.a.w, .int .i64 y.a.c, .int .i64 y.a.s, .slice py ny ky] 24)).alloc (.cells #[.int .i64 y.a.k, .int .i64 y.a.w, .int .i64 y.a.c, .int .i64 y.a.s, .slice py ny ky] 24) := ⟨_, rfl⟩
              have hb4 : Below wr.heap.size wr w4 := by rw [hw4]; exact (hb.alloc hb.size _).alloc (by have := hb.size; simp; omega) _
              have hq4 : Blk w4 (w2.heap.size + 1) 24 #[.int .i64 y.a.k, .int .i64 y.a.w, .int .i64 y.a.c, .int .i64 y.a.s, .slice py ny ky] := by
                rw [hw4]; have := Blk.new (w2.alloc (.cells #[.int .i64 y.a.k, .int .i64 y.a.w, .int .i64 y.a.c, .int .i64 y.a.s, .slice py ny ky] 24)) 24 #[.int .i64 y.a.k, .int .i64 y.a.w, .int .i64 y.a.c, .int .i64 y.a.s, .slice py ny ky]; rwa [World.size_alloc] at this
              have hb24 : Below w2.heap.size w2 w4 := by rw [hw4]; exact ((Below.refl _ _).alloc (Nat.le_refl _) _).alloc (by simp) _
              have HR4 := Lib.hid (HRW.out.next hb4)
              have HK4 : Hid (KV w4 (fun b => (Z b ∨ w.heap.size + 1 + 1 ≤ b) ∧ some b ≠ (Value.slice pv n cv).ownBlock) [y] (.slice (some ⟨w2.heap.size + 1, 0, none⟩) 1 1)) := by
                refine KV.single hq4 ⟨.inr (by have := HB2.out.size; have := HSR.out; omega), fun e => by have := (HOL.out _ e.symm).2; have := HB2.out.size; omega⟩ ((hky.next hb24).weak fun b hz => ?_) (HYF.out [] y rfl).1
                rcases hz with hz | hz
                · exact ⟨.inl hz, fun e => by have := (HOL.out _ e.symm).1; have := HZ.out b hz; omega⟩
                · exact ⟨.inr (by have := HSR.out; omega), fun e => by have := (HOL.out _ e.symm).2; omega⟩
              have HLN : Hid ((lessL c (ks.take i)).length + [y].length ≤ 1000000) := by show _ ≤ _; rw [← HN.out]; simp; omega
              have HS4 : Hid (w.heap.size + 1 + 1 ≤ w4.heap.size) := by show _ ≤ _; exact Nat.le_trans HSR.out hb4.size
              have HW4 := Lib.hid hw4
              have HB4 := Lib.hid (HW.out.trans (hb4.mono HW.out.size))
              have HQ5 := Lib.hid (HQ3.out.next hb4)
              have HQ6 := Lib.hid (HQ4.out.next hb4)
              clear hky hny hb hl hw4 hb4 hq4 hb24
              go_wp2_with (at_builtin; rw [← HW4.out]; (refine list_appF rfl (.tmp 41) (.tmp 43) rfl (fun b => Z b ∨ w.heap.size + 1 + 1 ≤ b) (w.heap.size + 1 + 1) (.slice pv n cv) (.slice (some ⟨w2.heap.size + 1, 0, none⟩) 1 1) (lessL c (ks.take i)) [y] rfl rfl HR4.out HK4.out HLN.out HS4.out ?_; intro v7 w7 hr7 hb7; have HR7 := Lib.hid hr7; have HB7 := Lib.hid hb7; clear hr7 hb7))
              refine ⟨⟨i + 1, by omega, by go_num, HB4.out.trans (HB7.out.mono (Nat.le_add_right _ 2)), HQ5.out.below HB7.out (by omega), HQ6.out.below HB7.out (by omega), ?_⟩, by simp [intOf]; omega⟩
              rw [HSE.out]
              exact HR7.out
          · have hL : lessL c (ks.take i) = lessL c ks := by rw [List.take_of_length_le (by have := HM.out; omega)]
            rw [hL] at hrow
            obtain ⟨l, hl⟩ : ∃ l, l = lessL c ks := ⟨_, rfl⟩
            rw [← hl] at hrow
            have HPT : Hid (lessT c (.mk a ks) = packT a l) := by show _ = _; rw [hl]; exact HT.out
            have HLF : Hid (∀ y ∈ l, fine y) := by rw [hl]; exact lessL_fine HFK.out
            have hlm : l.length ≤ 100000 := by rw [hl]; have := lessL_len c ks; have := HM.out; omega
            obtain ⟨n, hn⟩ : ∃ n, n = l.length := ⟨_, rfl⟩
            obtain ⟨pv, cv, rfl⟩ := hrow.slice' hn.symm
            rw [← hn] at hlm
            have HN := Lib.hid hn
            have HRW := Lib.hid hrow
            have HWr := Lib.hid hW
            have HQ3 := Lib.hid hq1
            have HQ4 := Lib.hid hq2
            obtain ⟨⟨q0, q1, q2, q3, q4⟩, ⟨e0, e1, e2, e3, e4⟩⟩ := c5 hq1
            obtain ⟨⟨r0, r1, r2, r3, r4⟩, ⟨f0, f1, f2, f3, f4⟩⟩ := c5 hq2
            clear hL hl hn hrow hW hq1 hq2
            by_cases h1 : n = 1
            · subst h1
              obtain ⟨z, hz⟩ : ∃ z, l = [z] := by
                match l, HN.out with
                | [z], _ => exact ⟨z, rfl⟩
              subst hz
              obtain ⟨vs, ho, sz, rest, hvs, hkz, hrest⟩ := HRW.out
              have hrest : rest = [] := hrest
              subst hrest
              rw [List.append_nil] at hvs
              subst hvs
              obtain ⟨gr, cr, hgv, hg1, hg2⟩ := ho.form (by simp)
              obtain ⟨e1', -, e3'⟩ := Value.slice.inj hgv
              subst e1' e3'
              clear hgv
              have hd := fun i u hu => ho.cells (g := gr) rfl i u hu
              obtain ⟨pz, kz, rfl, -⟩ := hkz.slice
              obtain ⟨nz, hnz⟩ : ∃ n, n = z.ks.length := ⟨_, rfl⟩
              rw [← hnz] at hkz hd
              have d0 := hd 0 _ rfl
              have d1 := hd 1 _ rfl
              have d2 := hd 2 _ rfl
              have d3 := hd 3 _ rfl
              have d4 := hd 4 _ rfl
              rw [add0] at d0 d1 d2 d3 d4
              have hfz : ∀ i, wr.frozen? ⟨gr, i, none⟩ = false := fun i => by
                rcases ho.2 with ⟨h3, _⟩ | ⟨g', c', cur, h3, _, h5, _⟩
                · cases h3
                · obtain ⟨e, -, -⟩ := Value.slice.inj h3
                  have e := Option.some.inj e
                  injection e with e
                  subst e
                  simp [World.frozen?, h5]
              have z1 := hfz 1
              have hgr1 : gr ≠ w.heap.size := by omega
              have hgr2 : gr ≠ w.heap.size + 1 := by omega
              have HKZ := Lib.hid hkz
              have HG1 := Lib.hid hg1
              have hPT : lessT c (.mk a ks) = some (.mk { z.a with w := a.w } z.ks) := HPT.out
              have HPZ := Lib.hid hPT
              clear ho hkz hd hfz hnz hPT hg1 hg2
              go_wp2_with fail
              have hkl : KV (wr.setCell ⟨gr, 1, none⟩ (.int .i64 a.w)) (fun b => Z b ∨ w.heap.size + 1 + 1 ≤ b) z.ks (.slice pz nz kz) :=
                HKZ.out.same (fun b h => h.1.1) (by simp [World.setCell]) fun b hb _ => Below.heap_setCell wr ⟨gr, 1, none⟩ _ b (fun e => hb.1.2 (congrArg some e))
              obtain ⟨hb5, hq5, -⟩ := st5_next (HWr.out.setCell (p := ⟨gr, 1, none⟩) (by show _ ≤ gr; have := HG1.out; omega) (.int .i64 a.w)) (by omega) (HQ4.out.far (p := ⟨gr, 1, none⟩) (Ne.symm hgr2) (.int .i64 a.w)) (.int .i64 z.a.k) (.int .i64 a.w) (.int .i64 z.a.c) (.int .i64 z.a.s) (.slice pz nz kz)
              have hk5 := KV.st5 (g := w.heap.size + 1) (Z' := fun b => Z b ∨ w.heap.size ≤ b) hkl (fun b hb => by rcases hb with hb | hb; (have := HZ.out b hb; omega); omega) (fun b hb => by rcases hb with hb | hb; exact .inl hb; (right; omega)) (.int .i64 z.a.k) (.int .i64 a.w) (.int .i64 z.a.c) (.int .i64 z.a.s) (.slice pz nz kz)
              obtain ⟨w5, hw5⟩ : ∃ w5, w5 = st5 (wr.setCell ⟨gr, 1, none⟩ (.int .i64 a.w)) (w.heap.size + 1) (.int .i64 z.a.k) (.int .i64 a.w) (.int .i64 z.a.c) (.int .i64 z.a.s) (.slice pz nz kz) := ⟨_, rfl⟩
              rw [← hw5] at hb5 hq5 hk5
              unfold st5 at hw5
              rw [← hw5]
              obtain ⟨⟨b0, b1, b2, b3, b4⟩, -⟩ := c5 hq5
              exact bodyPost_ret (v := .tuple #[.agg #[.int .i64 z.a.k, .int .i64 a.w, .int .i64 z.a.c, .int .i64 z.a.s, .slice pz nz kz], .bool true]) (by simp [results, Try.results74, go_sem, b0, b1, b2, b3, b4]) rfl ((HR.out _ _).2 ⟨hb5, .mk { z.a with w := a.w } z.ks, .slice pz nz kz, (by rw [HPZ.out]; rfl), hk5, (fun t ht => by rw [HPZ.out] at ht; exact Option.some.inj ht)⟩)
            · have hn1 : ((n : Int) == 1) = false := by simp; omega
              have HN1 := Lib.hid h1
              clear h1
              go_wp2_with fail
              have hsame : ∀ b, ((Z b ∨ w.heap.size + 1 + 1 ≤ b) ∨ w.heap.size + 1 + 1 ≤ b) → (wr.setCell ⟨w.heap.size, 4, none⟩ (.slice pv n cv)).heap[b]? = wr.heap[b]? := fun b hb => Below.heap_setCell wr ⟨w.heap.size, 4, none⟩ _ b (by
                show b ≠ w.heap.size
                rcases hb with (hb | hb) | hb
                · have := HZ.out b hb; omega
                · omega
                · omega)
              have hkl := (HRW.out.same (w' := wr.setCell ⟨w.heap.size, 4, none⟩ (.slice pv n cv)) (by simp [World.setCell]) hsame).kv (fun y hy => (HLF.out y hy [] y rfl).1) (by rw [← HN.out]; omega)
              obtain ⟨hb5, hq5, -⟩ := st5_next (HWr.out.setCell (p := ⟨w.heap.size, 4, none⟩) (Nat.le_refl _) (.slice pv n cv)) (by omega) (HQ4.out.far (p := ⟨w.heap.size, 4, none⟩) (by simp) (.slice pv n cv)) (.int .i64 a.k) (.int .i64 a.w) (.int .i64 a.c) (.int .i64 a.s) (.slice pv n cv)
              have hk5 := KV.st5 (g := w.heap.size + 1) (Z' := fun b => Z b ∨ w.heap.size ≤ b) hkl (fun b hb => by rcases hb with (hb | hb) | hb; (have := HZ.out b hb; omega); omega; omega) (fun b hb => by rcases hb with (hb | hb) | hb; exact .inl hb; (right; omega); (right; omega)) (.int .i64 a.k) (.int .i64 a.w) (.int .i64 a.c) (.int .i64 a.s) (.slice pv n cv)
              obtain ⟨w5, hw5⟩ : ∃ w5, w5 = st5 (wr.setCell ⟨w.heap.size, 4, none⟩ (.slice pv n cv)) (w.heap.size + 1) (.int .i64 a.k) (.int .i64 a.w) (.int .i64 a.c) (.int .i64 a.s) (.slice pv n cv) := ⟨_, rfl⟩
              rw [← hw5] at hb5 hq5 hk5
              unfold st5 at hw5
              rw [← hw5]
              obtain ⟨⟨b0, b1, b2, b3, b4⟩, -⟩ := c5 hq5
              refine bodyPost_ret (v := .tuple #[.agg #[.int .i64 a.k, .int .i64 a.w, .int .i64 a.c, .int .i64 a.s, .slice pv n cv], .bool (decide (0 < n))]) (by simp [results, Try.results74, go_sem, b0, b1, b2, b3, b4]) rfl ((HR.out _ _).2 ⟨hb5, .mk a l, .slice pv n cv, ?_, hk5, ?_⟩)
              · rw [HPT.out]
                unfold packT
                rw [← HN.out, if_neg HN1.out]
                by_cases h0 : n = 0
                · rw [if_pos h0, h0]; rfl
                · rw [if_neg h0, decide_eq_true (Nat.pos_of_ne_zero h0)]; rfl
              · intro t ht
                rw [HPT.out] at ht
                unfold packT at ht
                rw [← HN.out, if_neg HN1.out] at ht
                split at ht
                · cases ht
                · exact Option.some.inj ht
end Go.Proofs.Ytbbmfpdlkogkfaa.Co
end
section
namespace Go.Proofs.Ytbbmfpdlkogkfaa.Co
open Go.RowKit Go.Shelf Go.Maps
/-- What the document's call tells: an error, or a container. -/
def DocR (Z : Nat → Prop) (r : Con × Int) (w : World) (e : Ending) (w' : World) : Prop :=
  Below w.heap.size w w' ∧ ∃ (y : Con) (s : Value), e = .returned (.tuple #[conV y.a s, .int .i64 r.2]) ∧ KV w' (fun b => Z b ∨ w.heap.size ≤ b) y.ks s ∧ y = if r.2 = 0 then r.1 else zeroT
theorem askedI_tree {x : Con} {c : Int} (h : askedI x c = 0) : treeB x = true ∧ hasB x c = true := by
  unfold askedI at h
  split at h
  · cases h
  · next h1 =>
    split at h
    · cases h
    · next h2 => exact ⟨by simpa using h1, by simpa using h2⟩
theorem removeD_asked (x : Con) (c : Int) : removeD x c = if askedI x c = 0 then (.mk x.a (lessL c x.ks), 0) else (zeroT, askedI x c) := by
  unfold removeD askedI
  cases treeB x <;> cases hasB x c <;> rfl
set_option maxHeartbeats 4000000 in
theorem RemoveR_c (c : Int) (x : Con) (Z : Nat → Prop) (sv : Value) (w : World) (hK : KV w Z x.ks sv) (hZ : ∀ b, Z b → b < w.heap.size) (hd : (all x).length ≤ 1000000) (hf : fine x) :
    Calls Try.prog 34 #[conV x.a sv, .int .i64 c] w (DocR Z (removeD x c) w) := by
  obtain ⟨a, ks⟩ := x
  obtain ⟨p, cap, rfl, -⟩ : ∃ p cap, sv = .slice p ks.length cap ∧ ks.length ≤ 1152921504606846976 := hK.slice
  have hK : KV w Z ks (.slice p ks.length cap) := hK
  obtain ⟨m, hm⟩ : ∃ m, m = ks.length := ⟨_, rfl⟩
  rw [← hm] at hK ⊢
  obtain ⟨hfa, hfl, hfk⟩ := fine_kids hf
  rw [← hm] at hfl
  obtain ⟨R, hR⟩ : ∃ R, R = DocR Z (removeD (.mk a ks) c) w := ⟨_, rfl⟩
  have hRe : ∀ e w', R e w' ↔ DocR Z (removeD (.mk a ks) c) w e w' := by rw [hR]; exact fun _ _ => Iff.rfl
  rw [← hR]
  rw [removeD_asked] at hRe
  have HA := Lib.hid (fun (W : World) (h : Below w.heap.size w W) => asked_c Z (.mk a ks) (.slice p m cap) c W (hK.next h) hd (fun b hb => Nat.lt_of_lt_of_le (hZ b hb) h.size))
  have hat := askedI_tree (x := .mk a ks) (c := c)
  obtain ⟨q9, hq9⟩ : ∃ q, q = askedI (.mk a ks) c := ⟨_, rfl⟩
  rw [← hq9] at HA hRe hat
  obtain ⟨wB, hwB⟩ : ∃ wB, wB = (w.alloc (.cells #[.int .i64 a.k, .int .i64 a.w, .int .i64 a.c, .int .i64 a.s, .slice p m cap] 24)).alloc (.cells #[.int .i64 0, .int .i64 0, .int .i64 0, .int .i64 0, .slice none 0 0] 24) := ⟨_, rfl⟩
  have hb0 : Below w.heap.size w wB := by rw [hwB]; exact ((Below.refl w.heap.size w).alloc (Nat.le_refl _) _).alloc (by simp) _
  have hq1 : Blk wB w.heap.size 24 #[.int .i64 a.k, .int .i64 a.w, .int .i64 a.c, .int .i64 a.s, .slice p m cap] := by rw [hwB]; exact (Blk.new w 24 _).alloc _
  have hq2 : Blk wB (w.heap.size + 1) 24 #[.int .i64 0, .int .i64 0, .int .i64 0, .int .i64 0, .slice none 0 0] := by
    rw [hwB]; have := Blk.new (w.alloc (.cells #[.int .i64 a.k, .int .i64 a.w, .int .i64 a.c, .int .i64 a.s, .slice p m cap] 24)) 24 #[.int .i64 0, .int .i64 0, .int .i64 0, .int .i64 0, .slice none 0 0]; rwa [World.size_alloc] at this
  have HB := Lib.hid hb0
  have HQ1 := Lib.hid hq1
  have HQ2 := Lib.hid hq2
  have HWB := Lib.hid hwB
  have HK := Lib.hid hK
  have HZ := Lib.hid hZ
  by_cases h0 : q9 = 0
  · subst h0
    obtain ⟨htr, hhb⟩ := hat rfl
    rw [if_pos rfl] at hRe
    have HR := Lib.hid hRe
    have hd' := (tree_parts htr).2.2
    have hk0 : a.k ≠ 0 := tree_root htr
    rw [all_kid hk0] at hd'
    have HIH : Hid (∀ (j : Nat) (q : Con) (s : Value) (W : World), ks[j]? = some q → KV w Z q.ks s → Below w.heap.size w W → Calls Try.prog 74 #[conV q.a s, .int .i64 c] W (LessR Z q c W)) := fun j q s W hj hs hb => by
      have hq := List.mem_of_getElem? hj
      refine less_c c q Z s W (hs.next hb) (fun b h => Nat.lt_of_lt_of_le (hZ b h) hb.size) ?_ (hfk q hq)
      obtain ⟨l1, l2, e⟩ := List.append_of_mem hq
      rw [e, List.flatMap_append, List.flatMap_cons] at hd'
      simp at hd'; omega
    have HFK := Lib.hid hfk
    have HFA := Lib.hid hfa
    have HM := Lib.hid hm
    clear hR hRe hK hZ hd hd' hf hwB hb0 hq1 hq2 hfk hm hk0 hhb htr hat hq9
    show Calls Try.prog 34 #[.agg #[.int .i64 a.k, .int .i64 a.w, .int .i64 a.c, .int .i64 a.s, .slice p m cap], .int .i64 c] w R
    go_enter Try.func34, Try.ntmps34
    go_wp2_with fail
    rw [← HWB.out]
    refine (HA.out wB HB.out).mono ?_
    rintro e w1 ⟨rfl, hb⟩
    have hb1 := HB.out.trans (hb.mono HB.out.size)
    have hq1 := HQ1.out.next hb
    have hq2 := HQ2.out.next hb
    have hs1 : w.heap.size + 1 + 1 ≤ w1.heap.size := hq2.lt
    clear hb HA
    go_wp2_with fail
    go_loopw [6, 7] (fun v z wr => ∃ i : Nat, i ≤ m ∧ z = .int .i64 i ∧ Below w.heap.size w wr ∧ Blk wr w.heap.size 24 #[.int .i64 a.k, .int .i64 a.w, .int .i64 a.c, .int .i64 a.s, .slice p m cap] ∧ Blk wr (w.heap.size + 1) 24 #[.int .i64 0, .int .i64 0, .int .i64 0, .int .i64 0, .slice none 0 0] ∧ RowF (fun b => Z b ∨ w.heap.size + 1 + 1 ≤ b) (w.heap.size + 1 + 1) (lessL c (ks.take i)) v wr) (fun _ z _ => m - (intOf z).toNat)
    case atStart => exact ⟨0, Nat.zero_le _, rfl, hb1, hq1, hq2, RowF.nil _ _ _⟩
    case round =>
      clear hb1 hq1 hq2 hs1
      obtain ⟨i, hi, rfl, hW, hq1, hq2, hrow⟩ := hrel
      have hsr : w.heap.size + 1 + 1 ≤ wr.heap.size := hq2.lt
      by_cases hlt : i < m
      · obtain ⟨q, hq⟩ : ∃ q, ks[i]? = some q := ⟨_, List.getElem?_eq_getElem (by rw [← HM.out]; exact hlt)⟩
        obtain ⟨-, kb, ko, sq, rfl, -, hkb, -, hkq, c0, c1, c2, c3, c4⟩ := HK.out.kid hq
        have HL := Lib.hid (HIH.out i q sq wr hq hkq hW)
        obtain ⟨pq, kq, rfl, -⟩ := hkq.slice
        obtain ⟨nq, hnq⟩ : ∃ n, n = q.ks.length := ⟨_, rfl⟩
        rw [← hnq] at HL c4
        obtain ⟨c0, c1, c2, c3, c4⟩ := cells5 hW hkb ⟨c0, c1, c2, c3, c4⟩
        obtain ⟨⟨q0, q1, q2, q3, q4⟩, -⟩ := c5 hq1
        obtain ⟨n, hn⟩ : ∃ n, n = (lessL c (ks.take i)).length := ⟨_, rfl⟩
        obtain ⟨pv, cv, rfl⟩ := hrow.slice' hn.symm
        have HSN := Lib.hid (lessL_snoc (c := c) hq)
        have hnm : n ≤ m := by rw [hn]; have := lessL_len c (ks.take i); simp at this; omega
        have HN := Lib.hid hn
        have HRW := Lib.hid hrow
        have HW := Lib.hid hW
        have HQ3 := Lib.hid hq1
        have HQ4 := Lib.hid hq2
        have HSR := Lib.hid hsr
        have HQF := Lib.hid (HFK.out q (List.mem_of_getElem? hq))
        clear hq hkq hnq hn hrow hW hq1 hq2 hsr
        go_wp2_with fail
        refine HL.out.mono ?_
        rintro e w2 ⟨hb, y, s, rfl, hky, hyt⟩
        obtain ⟨py, ky, rfl, -⟩ := hky.slice
        obtain ⟨ny, hny⟩ : ∃ n, n = y.ks.length := ⟨_, rfl⟩
        rw [← hny] at hky ⊢
        have HOL : Hid (∀ g, (Value.slice pv n cv).ownBlock = some g → w.heap.size + 1 + 1 ≤ g ∧ g < wr.heap.size) := fun g hg => by obtain ⟨vs, h1, _⟩ := HRW.out; exact h1.lt g hg
        have HKY := Lib.hid hky
        have HB2 := Lib.hid hb
        cases hl : lessT c q with
        | none =>
          have HSE : Hid (lessL c (ks.take (i + 1)) = lessL c (ks.take i)) := by show _ = _; rw [HSN.out, hl]; simp
          clear hky hyt hny hb hl
          go_wp2_with fail
          have hb3 := HB2.out.alloc HB2.out.size (.cells #[.int .i64 y.a.k, .int .i64 y.a.w, .int .i64 y.a.c, .int .i64 y.a.s, .slice py ny ky] 24)
          obtain ⟨w3, hw3⟩ : ∃ w3, w3 = w2.alloc (.cells #[.int .i64 y.a.k, .int .i64 y.a.w, .int .i64 y.a.c, .int .i64 y.a.s, .slice py ny ky] 24) := ⟨_, rfl⟩
          rw [← hw3] at hb3 ⊢
          refine ⟨⟨i + 1, by omega, by go_num, HW.out.trans (hb3.mono HW.out.size), HQ3.out.next hb3, HQ4.out.next hb3, ?_⟩, by simp [intOf]; omega⟩
          rw [HSE.out]
          exact HRW.out.next hb3
        | some t =>
          have HSE : Hid (lessL c (ks.take (i + 1)) = lessL c (ks.take i) ++ [t]) := by show _ = _; rw [HSN.out, hl]; simp
          have hyt := hyt t hl
          subst hyt
          have HYF := Lib.hid (lessT_fine c q y HQF.out hl)
          obtain ⟨w4, hw4⟩ : ∃ w4, w4 = (w2.alloc (.cells #[.int .i64 y.a.k, .int .i64 y.a.w, .int .i64 y.a.c, .int .i64 y.a.s, .slice py ny ky] 24)).alloc (.cells #[.int .i64 y.a.k, .int .i64 y.a.w, .int .i64 y.a.c, .int .i64 y.a.s, .slice py ny ky] 24) := ⟨_, rfl⟩
          have hb4 : Below wr.heap.size wr w4 := by rw [hw4]; exact (hb.alloc hb.size _).alloc (by have := hb.size; simp; omega) _
          have hq4 : Blk w4 (w2.heap.size + 1) 24 #[.int .i64 y.a.k, .int .i64 y.a.w, .int .i64 y.a.c, .int .i64 y.a.s, .slice py ny ky] := by
            rw [hw4]; have := Blk.new (w2.alloc (.cells #[.int .i64 y.a.k, .int .i64 y.a.w, .int .i64 y.a.c, .int .i64 y.a.s, .slice py ny ky] 24)) 24 #[.int .i64 y.a.k, .int .i64 y.a.w, .int .i64 y.a.c, .int .i64 y.a.s, .slice py ny ky]; rwa [World.size_alloc] at this
          have hb24 : Below w2.heap.size w2 w4 := by rw [hw4]; exact ((Below.refl _ _).alloc (Nat.le_refl _) _).alloc (by simp) _
          have HR4 := Lib.hid (HRW.out.next hb4)
          have HK4 : Hid (KV w4 (fun b => (Z b ∨ w.heap.size + 1 + 1 ≤ b) ∧ some b ≠ (Value.slice pv n cv).ownBlock) [y] (.slice (some ⟨w2.heap.size + 1, 0, none⟩) 1 1)) := by
            refine KV.single hq4 ⟨.inr (by have := HB2.out.size; have := HSR.out; omega), fun e => by have := (HOL.out _ e.symm).2; have := HB2.out.size; omega⟩ ((hky.next hb24).weak fun b hz => ?_) (HYF.out [] y rfl).1
            rcases hz with hz | hz
            · exact ⟨.inl hz, fun e => by have := (HOL.out _ e.symm).1; have := HZ.out b hz; omega⟩
            · exact ⟨.inr (by have := HSR.out; omega), fun e => by have := (HOL.out _ e.symm).2; omega⟩
          have HLN : Hid ((lessL c (ks.take i)).length + [y].length ≤ 1000000) := by show _ ≤ _; rw [← HN.out]; simp; omega
          have HS4 : Hid (w.heap.size + 1 + 1 ≤ w4.heap.size) := by show _ ≤ _; exact Nat.le_trans HSR.out hb4.size
          have HW4 := Lib.hid hw4
          have HB4 := Lib.hid (HW.out.trans (hb4.mono HW.out.size))
          have HQ5 := Lib.hid (HQ3.out.next hb4)
          have HQ6 := Lib.hid (HQ4.out.next hb4)
          clear hky hny hb hl hw4 hb4 hq4 hb24
          go_wp2_with (at_builtin; rw [← HW4.out]; (refine list_appF rfl (.tmp 36) (.tmp 38) rfl (fun b => Z b ∨ w.heap.size + 1 + 1 ≤ b) (w.heap.size + 1 + 1) (.slice pv n cv) (.slice (some ⟨w2.heap.size + 1, 0, none⟩) 1 1) (lessL c (ks.take i)) [y] rfl rfl HR4.out HK4.out HLN.out HS4.out ?_; intro v7 w7 hr7 hb7; have HR7 := Lib.hid hr7; have HB7 := Lib.hid hb7; clear hr7 hb7))
          refine ⟨⟨i + 1, by omega, by go_num, HB4.out.trans (HB7.out.mono (Nat.le_add_right _ 2)), HQ5.out.below HB7.out (by omega), HQ6.out.below HB7.out (by omega), ?_⟩, by simp [intOf]; omega⟩
          rw [HSE.out]
          exact HR7.out
      · have hL : lessL c (ks.take i) = lessL c ks := by rw [List.take_of_length_le (by have := HM.out; omega)]
        rw [hL] at hrow
        obtain ⟨l, hl⟩ : ∃ l, l = lessL c ks := ⟨_, rfl⟩
        rw [← hl] at hrow
        have HPT := Lib.hid hl
        have HLF : Hid (∀ y ∈ l, fine y) := by rw [hl]; exact lessL_fine HFK.out
        have hlm : l.length ≤ 100000 := by rw [hl]; have := lessL_len c ks; have := HM.out; omega
        obtain ⟨n, hn⟩ : ∃ n, n = l.length := ⟨_, rfl⟩
        obtain ⟨pv, cv, rfl⟩ := hrow.slice' hn.symm
        rw [← hn] at hlm
        have HN := Lib.hid hn
        have HRW := Lib.hid hrow
        have HWr := Lib.hid hW
        have HQ3 := Lib.hid hq1
        have HQ4 := Lib.hid hq2
        obtain ⟨⟨q0, q1, q2, q3, q4⟩, ⟨e0, e1, e2, e3, e4⟩⟩ := c5 hq1
        obtain ⟨⟨r0, r1, r2, r3, r4⟩, ⟨f0, f1, f2, f3, f4⟩⟩ := c5 hq2
        clear hL hl hn hrow hW hq1 hq2
        go_wp2_with fail
        have hsame : ∀ b, ((Z b ∨ w.heap.size + 1 + 1 ≤ b) ∨ w.heap.size + 1 + 1 ≤ b) → (wr.setCell ⟨w.heap.size, 4, none⟩ (.slice pv n cv)).heap[b]? = wr.heap[b]? := fun b hb => Below.heap_setCell wr ⟨w.heap.size, 4, none⟩ _ b (by
          show b ≠ w.heap.size
          rcases hb with (hb | hb) | hb
          · have := HZ.out b hb; omega
          · omega
          · omega)
        have hkl := (HRW.out.same (w' := wr.setCell ⟨w.heap.size, 4, none⟩ (.slice pv n cv)) (by simp [World.setCell]) hsame).kv (fun y hy => (HLF.out y hy [] y rfl).1) (by rw [← HN.out]; omega)
        obtain ⟨hb5, hq5, -⟩ := st5_next (HWr.out.setCell (p := ⟨w.heap.size, 4, none⟩) (Nat.le_refl _) (.slice pv n cv)) (by omega) (HQ4.out.far (p := ⟨w.heap.size, 4, none⟩) (by simp) (.slice pv n cv)) (.int .i64 a.k) (.int .i64 a.w) (.int .i64 a.c) (.int .i64 a.s) (.slice pv n cv)
        have hk5 := KV.st5 (g := w.heap.size + 1) (Z' := fun b => Z b ∨ w.heap.size ≤ b) hkl (fun b hb => by rcases hb with (hb | hb) | hb; (have := HZ.out b hb; omega); omega; omega) (fun b hb => by rcases hb with (hb | hb) | hb; exact .inl hb; (right; omega); (right; omega)) (.int .i64 a.k) (.int .i64 a.w) (.int .i64 a.c) (.int .i64 a.s) (.slice pv n cv)
        obtain ⟨w5, hw5⟩ : ∃ w5, w5 = st5 (wr.setCell ⟨w.heap.size, 4, none⟩ (.slice pv n cv)) (w.heap.size + 1) (.int .i64 a.k) (.int .i64 a.w) (.int .i64 a.c) (.int .i64 a.s) (.slice pv n cv) := ⟨_, rfl⟩
        rw [← hw5] at hb5 hq5 hk5
        unfold st5 at hw5
        rw [← hw5]
        obtain ⟨⟨b0, b1, b2, b3, b4⟩, -⟩ := c5 hq5
        exact bodyPost_ret (v := .tuple #[.agg #[.int .i64 a.k, .int .i64 a.w, .int .i64 a.c, .int .i64 a.s, .slice pv n cv], .int .i64 0]) (by simp [results, Try.results34, go_sem, b0, b1, b2, b3, b4]) rfl ((HR.out _ _).2 ⟨hb5, .mk a l, .slice pv n cv, rfl, hk5, (by rw [if_pos rfl, HPT.out]; rfl)⟩)
  · rw [if_neg h0] at hRe
    have HR := Lib.hid hRe
    have hne : (q9 == 0) = false := by simpa using h0
    have HN0 := Lib.hid h0
    clear hR hRe hK hZ hd hf hwB hb0 hq1 hq2 hfk hm hat hq9 h0
    show Calls Try.prog 34 #[.agg #[.int .i64 a.k, .int .i64 a.w, .int .i64 a.c, .int .i64 a.s, .slice p m cap], .int .i64 c] w R
    go_enter Try.func34, Try.ntmps34
    go_wp2_with fail
    rw [← HWB.out]
    refine (HA.out wB HB.out).mono ?_
    rintro e w1 ⟨rfl, hb⟩
    have HB1 := Lib.hid (HB.out.trans (hb.mono HB.out.size))
    have HQ3 := Lib.hid (HQ2.out.next hb)
    obtain ⟨⟨q0, q1, q2, q3, q4⟩, -⟩ := c5 (HQ1.out.next hb)
    clear hb
    go_wp2_with fail
    refine (HA.out w1 HB1.out).mono ?_
    rintro e w2 ⟨rfl, hb⟩
    have HB2 := Lib.hid (HB1.out.trans (hb.mono HB1.out.size))
    have HQ4 := Lib.hid (HQ3.out.next hb)
    obtain ⟨⟨r0, r1, r2, r3, r4⟩, ⟨f0, f1, f2, f3, f4⟩⟩ := c5 HQ4.out
    clear hb q0 q1 q2 q3 q4
    go_wp2_with fail
    obtain ⟨hb5, hq5, -⟩ := st5_next HB2.out (by omega) HQ4.out (.int .i64 0) (.int .i64 0) (.int .i64 0) (.int .i64 0) (.slice none 0 0)
    have hk5 := KV.st5 (g := w.heap.size + 1) (Z' := fun b => Z b ∨ w.heap.size ≤ b) (KV.nil w2 Z none 0) (fun b hb => by have := HZ.out b hb; omega) (fun b hb => .inl hb) (.int .i64 0) (.int .i64 0) (.int .i64 0) (.int .i64 0) (.slice none 0 0)
    obtain ⟨w5, hw5⟩ : ∃ w5, w5 = st5 w2 (w.heap.size + 1) (.int .i64 0) (.int .i64 0) (.int .i64 0) (.int .i64 0) (.slice none 0 0) := ⟨_, rfl⟩
    rw [← hw5] at hb5 hq5 hk5
    unfold st5 at hw5
    rw [← hw5]
    obtain ⟨⟨b0, b1, b2, b3, b4⟩, -⟩ := c5 hq5
    exact bodyPost_ret (v := .tuple #[.agg #[.int .i64 0, .int .i64 0, .int .i64 0, .int .i64 0, .slice none 0 0], .int .i64 q9]) (by simp [results, Try.results34, go_sem, b0, b1, b2, b3, b4]) rfl ((HR.out _ _).2 ⟨hb5, zeroT, .slice none 0 0, rfl, hk5, (by rw [if_neg HN0.out])⟩)
end Go.Proofs.Ytbbmfpdlkogkfaa.Co
end
section
namespace Go.Proofs.Ytbbmfpdlkogkfaa.Co
open Go.RowKit Go.Shelf
theorem pre_bounds : ∀ (x : Con) (w : List Nat), (all x).length ≤ (pre x w).length ∧ ht x + 1 ≤ (pre x w).length ∧ wd x + 1 ≤ (pre x w).length := by
  intro x
  induction x using Tr.ind with
  | h a ks ih =>
    intro w
    have hL : ∀ (l : List Con) (i : Nat), (∀ x ∈ l, x ∈ ks) → (allL l).length ≤ (preL l w i).length ∧ htL l ≤ (preL l w i).length ∧ wdL l ≤ (preL l w i).length ∧ l.length ≤ (preL l w i).length := by
      intro l
      induction l with
      | nil => intro i _; simp [allL, htL, wdL]
      | cons y r ihr =>
        intro i hm
        obtain ⟨h1, h2, h3⟩ := ih y (hm y (by simp)) (w ++ [i])
        obtain ⟨h4, h5, h6, h7⟩ := ihr (i + 1) fun z hz => hm z (by simp [hz])
        simp only [allL, htL, wdL, preL, List.length_append, List.length_cons]
        omega
    obtain ⟨h1, h2, h3, h4⟩ := hL ks 0 fun _ h => h
    simp only [pre, ht, wd, List.length_cons, all]
    refine ⟨?_, by omega, by omega⟩
    split
    · simp
    · omega
/-- A container that the laws look at. -/
structure Small (x : Con) : Prop where
  n5 : (pre x []).length ≤ 900
  f : fine x
theorem Small.ht {x : Con} (h : Small x) : ht x ≤ 1000000 := by have := (pre_bounds x []).2.1; have := h.n5; omega
theorem Small.wd {x : Con} (h : Small x) : wd x ≤ 100000 := by have := (pre_bounds x []).2.2; have := h.n5; omega
theorem Small.al {x : Con} (h : Small x) : (all x).length ≤ 1000000 := by have := (pre_bounds x []).1; have := h.n5; omega
theorem Small.wide {x : Con} (h : Small x) : x.a.wide := (h.f [] x rfl).1
theorem Small.of {x : Con} {w : World} {Z : Nat → Prop} {v : Value} (hK : KV w Z x.ks v) (hw : x.a.wide) (hn : nodesC x 0 ≤ 500) : Small x := by
  have h1 := pre_len x [] 0 hn
  have h2 : (pre x []).length ≤ 900 := by omega
  have h3 := (pre_bounds x []).2.2
  exact ⟨h2, hK.fine hw (by omega)⟩
theorem kv_told {N : Nat} {w : World} {t : ATr} {y : Con} (ho : Own w t) (hb : ∀ b ∈ blks t, N ≤ b) (he : era t = y) (hf : fine y) : KV w (fun b => N ≤ b) y.ks (slA t) := by
  subst he
  refine ho.reads hb fun u x hx => ?_
  have := hf u (era x) (by rw [era_get, hx]; rfl)
  rw [era_a, era_ks, List.length_map] at this
  exact ⟨this.1, by omega⟩
/-- What the code tells, as it reads. -/
theorem TellR.reads {N : Nat} {r : Con × Int} {e : Ending} {w : World} (h : TellR N r e w) (hf : r.2 = 0 → fine r.1) : ∃ (y : Con) (s : Value), e = .returned (.tuple #[conV y.a s, .int .i64 r.2]) ∧ KV w (fun b => N ≤ b) y.ks s ∧ y = if r.2 = 0 then r.1 else zeroT := by
  rcases h with ⟨h1, h2⟩ | ⟨h1, t, ho, _, hb, he, h2⟩
  · exact ⟨zeroT, .slice none 0 0, h2, KV.nil w _ none 0, by rw [if_neg h1]⟩
  · refine ⟨r.1, slA t, ?_, kv_told ho hb he (hf h1), by rw [if_pos h1]⟩
    rw [h2, ← he, era_a, h1]
end Go.Proofs.Ytbbmfpdlkogkfaa.Co
end
section
namespace Go.Proofs.Ytbbmfpdlkogkfaa.Co
open Go.RowKit Go.Shelf
/-- How many containers. -/
def cnt (x : Con) : Nat := (pre x []).length
theorem pre_same : ∀ (x : Con) (w v : List Nat), (pre x w).length = (pre x v).length := by
  intro x
  induction x using Tr.ind with
  | h a ks ih =>
    intro w v
    have hL : ∀ (l : List Con) (i j : Nat), (∀ x ∈ l, x ∈ ks) → (preL l w i).length = (preL l v j).length := by
      intro l
      induction l with
      | nil => intro i j _; rfl
      | cons y r ihr =>
        intro i j hm
        simp only [preL, List.length_append]
        rw [ih y (hm y (by simp)) (w ++ [i]) (v ++ [j]), ihr (i + 1) (j + 1) fun z hz => hm z (by simp [hz])]
    simp only [pre, List.length_cons]
    rw [hL ks 0 0 fun _ h => h]
def cntL : List Con → Nat
  | [] => 0
  | x :: r => cnt x + cntL r
theorem preL_cnt : ∀ (l : List Con) (w : List Nat) (i : Nat), (preL l w i).length = cntL l := by
  intro l
  induction l with
  | nil => intro _ _; rfl
  | cons x r ih =>
    intro w i
    simp only [preL, List.length_append, cntL]
    rw [ih, pre_same x (w ++ [i]) []]; rfl
theorem cnt_mk (a : D) (ks : List Con) : cnt (.mk a ks) = cntL ks + 1 := by
  unfold cnt; simp only [pre, List.length_cons]; rw [preL_cnt]
theorem cntL_append (a b : List Con) : cntL (a ++ b) = cntL a + cntL b := by
  induction a with
  | nil => simp [cntL]
  | cons x r ih => simp only [List.cons_append, cntL, ih]; omega
theorem split_at {α : Type} {l : List α} {i : Nat} {x : α} (h : l[i]? = some x) : l = l.take i ++ x :: l.drop (i + 1) ∧ ∀ y, l.set i y = l.take i ++ y :: l.drop (i + 1) := by
  obtain ⟨hl, rfl⟩ := List.getElem?_eq_some_iff.1 h
  refine ⟨?_, fun y => ?_⟩
  · rw [← List.drop_eq_getElem_cons hl, List.take_append_drop]
  · rw [List.set_eq_take_append_cons_drop, if_pos hl]
theorem cnt_put : ∀ {u : List Nat} {x s s' : Con}, get x u = some s → cnt (put x u s') + cnt s = cnt x + cnt s' := by
  intro u
  induction u with
  | nil => intro x s s' h; simp only [get] at h; have h := Option.some.inj h; subst h; simp only [put]; omega
  | cons i r ih =>
    intro x s s' h
    obtain ⟨a, ks⟩ := x
    obtain ⟨z, hz, hr⟩ := get_consP h
    obtain ⟨h1, h2⟩ := split_at hz
    have := ih (s' := s') hr
    rw [put_consI hz, cnt_mk, cnt_mk, h2, cntL_append]
    have e : cntL ks = cntL (ks.take i) + (cnt z + cntL (ks.drop (i + 1))) := by
      have := congrArg cntL h1
      rw [cntL_append] at this
      exact this
    rw [e]
    simp only [cntL]
    omega
theorem all_put : ∀ {u : List Nat} {x s : Con} {d : Nat}, shape x d = true → get x u = some s → ∃ l1 l2, all x = l1 ++ all s ++ l2 ∧ ∀ s', all (put x u s') = l1 ++ all s' ++ l2 := by
  intro u
  induction u with
  | nil => intro x s d _ h; simp only [get] at h; have h := Option.some.inj h; subst h; exact ⟨[], [], by simp, fun s' => by simp [put]⟩
  | cons i r ih =>
    intro x s d h hs
    obtain ⟨a, ks⟩ := x
    obtain ⟨z, hz, hr⟩ := get_consP hs
    have hk0 : a.k ≠ 0 := fun e => by have := shape_leaf h e; simp only [Tr.ks_mk] at this; rw [this] at hz; cases hz
    obtain ⟨l1, l2, h1, h2⟩ := ih (shape_kid h (List.mem_of_getElem? hz)) hr
    obtain ⟨e1, e2⟩ := split_at hz
    refine ⟨(ks.take i).flatMap all ++ l1, l2 ++ (ks.drop (i + 1)).flatMap all, ?_, fun s' => ?_⟩
    · rw [all_kid hk0]
      conv => lhs; rw [e1]
      rw [List.flatMap_append, List.flatMap_cons, h1]; simp [List.append_assoc]
    · rw [put_consI hz, all_kid hk0, e2, List.flatMap_append, List.flatMap_cons, h2]; simp [List.append_assoc]
theorem shapeL_of {ks : List Con} {d : Nat} (h : ∀ x ∈ ks, shape x d = true) : shapeL ks d = true := by
  induction ks with
  | nil => rfl
  | cons x r ih => simp only [shapeL, Bool.and_eq_true]; exact ⟨h x (by simp), ih fun y hy => h y (by simp [hy])⟩
/-- By itself, a container may be by its numbers and how many kids it has. -/
theorem sound_len {a : D} {ks ls : List Con} {d : Nat} (hl : ls.length = ks.length) : soundB (.mk a ls) d = soundB (.mk a ks) d := by
  by_cases c1 : 8 < d ∨ a.w < 1 ∨ 1048576 < a.w
  · simp [soundB, c1]
  · by_cases c2 : a.k = 0
    · simp [soundB, c1, c2, hl]
    · rw [Bool.eq_iff_iff]; simp [soundB, c1, c2, hl]; exact ⟨fun h => decide_eq_true h, fun h => of_decide_eq_true h⟩
theorem shape_put : ∀ {u : List Nat} {x s s' : Con} {d : Nat}, shape x d = true → get x u = some s → shape s' (d + u.length) = true → shape (put x u s') d = true := by
  intro u
  induction u with
  | nil => intro x s s' d _ _ h; simpa [put] using h
  | cons i r ih =>
    intro x s s' d h hs hs'
    obtain ⟨a, ks⟩ := x
    obtain ⟨z, hz, hr⟩ := get_consP hs
    have hh := h
    simp only [shape, Bool.and_eq_true] at h
    have h1 := ih (shape_kid hh (List.mem_of_getElem? hz)) hr (s' := s') (by rwa [show d + 1 + r.length = d + (i :: r).length by simp; omega])
    rw [put_consI hz]
    simp only [shape, Bool.and_eq_true]
    refine ⟨(sound_len (List.length_set ..)).trans h.1, shapeL_of fun y hy => ?_⟩
    rcases List.mem_or_eq_of_mem_set hy with hy | rfl
    · exact shapeL_mem h.2 y hy
    · exact h1
theorem clients_put {u : List Nat} {x s : Con} {d : Nat} (h : shape x d = true) (hs : get x u = some s) : ∃ l1 l2, clients x = l1 ++ clients s ++ l2 ∧ ∀ s', clients (put x u s') = l1 ++ clients s' ++ l2 := by
  obtain ⟨l1, l2, h1, h2⟩ := all_put h hs
  exact ⟨l1.map cl, l2.map cl, by unfold clients; rw [h1]; simp, fun s' => by unfold clients; rw [h2]; simp⟩
theorem clients_len (x : Con) : (clients x).length = (all x).length := by simp [clients]
theorem tree_of {x : Con} (h1 : shape x 0 = true) (h2 : (clients x).Nodup) (h3 : (all x).length ≤ 128) : treeB x = true := by
  unfold treeB; simp [h1, h2, h3]
/-- A container becomes another with the same clients. -/
theorem tree_put {x s s' : Con} {u : List Nat} (h : treeB x = true) (hs : get x u = some s) (hS : shape s' u.length = true) (hc : clients s' = clients s) : treeB (put x u s') = true ∧ clients (put x u s') = clients x := by
  obtain ⟨h1, h2, h3⟩ := tree_parts h
  obtain ⟨l1, l2, e1, e2⟩ := clients_put h1 hs
  have e : clients (put x u s') = clients x := by rw [e2, hc, e1]
  exact ⟨tree_of (shape_put h1 hs (by simpa using hS)) (by rw [e]; exact h2) (by rw [← clients_len, e, clients_len]; exact h3), e⟩
theorem put_self {α : Type} : ∀ {u : List Nat} {x s : Tr α}, get x u = some s → put x u s = x := by
  intro u
  induction u with
  | nil => intro x s h; simp only [get] at h; have h := Option.some.inj h; subst h; rfl
  | cons i r ih =>
    intro x s h
    obtain ⟨a, ks⟩ := x
    obtain ⟨z, hz, hr⟩ := get_consP h
    rw [put_consI hz, ih hr, set_self hz]
theorem get_put_at {α : Type} : ∀ {u : List Nat} {x s s' : Tr α}, get x u = some s → get (put x u s') u = some s' := by
  intro u
  induction u with
  | nil => intro x s s' _; rfl
  | cons i r ih =>
    intro x s s' h
    obtain ⟨a, ks⟩ := x
    obtain ⟨z, hz, hr⟩ := get_consP h
    rw [put_consI hz, get_consI (List.getElem?_set_self (List.getElem?_eq_some_iff.1 hz).1)]
    exact ih hr
theorem put_put {α : Type} : ∀ {u : List Nat} {x s s' s2 : Tr α}, get x u = some s → put (put x u s') u s2 = put x u s2 := by
  intro u
  induction u with
  | nil => intro x s s' s2 _; rfl
  | cons i r ih =>
    intro x s s' s2 h
    obtain ⟨a, ks⟩ := x
    obtain ⟨z, hz, hr⟩ := get_consP h
    rw [put_consI hz, put_consI (List.getElem?_set_self (List.getElem?_eq_some_iff.1 hz).1), ih hr, List.set_set, put_consI hz]
/-- Another leaf stays where it is. -/
theorem get_put_other {α : Type} : ∀ {v w : List Nat} {x y z s' : Tr α}, get x v = some y → y.ks = [] → get x w = some z → z.ks = [] → v ≠ w → get (put x v s') w = some z := by
  intro v
  induction v with
  | nil =>
    intro w x y z s' hy hk hz _ hne
    simp only [get] at hy; have hy := Option.some.inj hy; subst hy
    cases w with
    | nil => exact absurd rfl hne
    | cons j t =>
      obtain ⟨a, ks⟩ := x
      obtain ⟨q, hq, _⟩ := get_consP hz
      simp only [Tr.ks_mk] at hk
      rw [hk] at hq; cases hq
  | cons i r ih =>
    intro w x y z s' hy hk hz hzk hne
    obtain ⟨a, ks⟩ := x
    obtain ⟨q, hq, hr⟩ := get_consP hy
    cases w with
    | nil =>
      simp only [get] at hz; have hz := Option.some.inj hz; subst hz
      simp only [Tr.ks_mk] at hzk
      rw [hzk] at hq; cases hq
    | cons j t =>
      obtain ⟨q2, hq2, hr2⟩ := get_consP hz
      rw [put_consI hq]
      by_cases e : i = j
      · subst e
        rw [hq] at hq2; have hq2 := Option.some.inj hq2; subst hq2
        rw [get_consI (List.getElem?_set_self (List.getElem?_eq_some_iff.1 hq).1)]
        exact ih hr hk hr2 hzk (fun e => hne (by rw [e]))
      · rw [get_consI (x := q2) (by rw [List.getElem?_set_ne e]; exact hq2)]
        exact hr2
end Go.Proofs.Ytbbmfpdlkogkfaa.Co
end
section
namespace Go.Proofs.Ytbbmfpdlkogkfaa.Co
open Go.RowKit Go.Shelf
def swapF (v w : List Nat) (x : Con) : Con := match get x v, get x w with
  | some p, some q => put (put x v (.mk ⟨0, p.a.w, q.a.c, q.a.s⟩ [])) w (.mk ⟨0, q.a.w, p.a.c, p.a.s⟩ [])
  | _, _ => x
def swapI (x : Con) (a b : Int) : Con × Int :=
  if askedI x a ≠ 0 then (zeroT, askedI x a) else if askedI x b ≠ 0 then (zeroT, askedI x b) else match findI x a, findI x b with
  | some v, some w => (swapF v w x, 0)
  | _, _ => (zeroT, 6)
theorem askedI_zero {x : Con} {c : Int} (h : treeB x = true) (hc : hasB x c = true) : askedI x c = 0 := by unfold askedI; simp [h, hc]
theorem askedI_six {x : Con} {c : Int} (h : treeB x = true) (hc : hasB x c = false) : askedI x c = 6 := by unfold askedI; simp [h, hc]
theorem swapI_bad {x : Con} {a b : Int} (h : treeB x = false) : swapI x a b = (zeroT, 110) := by
  have : askedI x a = 110 := by unfold askedI; simp [h]
  unfold swapI; rw [this]; simp
theorem swapI_none {x : Con} {a b : Int} (h : treeB x = true) (hn : hasB x a = false ∨ hasB x b = false) : swapI x a b = (zeroT, 6) := by
  unfold swapI
  by_cases ha : hasB x a = true
  · have hb : hasB x b = false := by rcases hn with h1 | h1; (rw [ha] at h1; cases h1); exact h1
    rw [askedI_zero h ha, askedI_six h hb]; simp
  · have ha : hasB x a = false := by simpa using ha
    rw [askedI_six h ha]; simp
theorem swapI_at {x : Con} {a b : Int} {v w : List Nat} (h : treeB x = true) (hv : IsWay x a v) (hw : IsWay x b w) : swapI x a b = (swapF v w x, 0) := by
  unfold swapI
  rw [askedI_zero h (hv.has h), askedI_zero h (hw.has h), findI_of h hv, findI_of h hw]; simp
theorem leaf_shape {y : Con} {d : Nat} (h : shape y d = true) (hk : y.a.k = 0) : d ≤ 8 ∧ 0 < d ∧ 1 ≤ y.a.w ∧ y.a.w ≤ 1048576 ∧ 1 ≤ y.a.c ∧ 0 ≤ y.a.s := by
  obtain ⟨a, ks⟩ := y
  simp only [shape, Bool.and_eq_true] at h
  have h1 := h.1
  simp only [Tr.a_mk] at hk ⊢
  unfold soundB at h1
  split at h1
  · cases h1
  · simp [hk] at h1
    rename_i h2
    simp only [Tr.a_mk] at h2
    omega
theorem shape_leafI {w c s : Int} {d : Nat} (h1 : d ≤ 8) (h2 : 0 < d) (h3 : 1 ≤ w) (h4 : w ≤ 1048576) (h5 : 1 ≤ c) (h6 : 0 ≤ s) : shape (.mk ⟨0, w, c, s⟩ []) d = true := by
  simp only [shape, shapeL, Bool.and_true]
  unfold soundB
  rw [if_neg (by simp only [Tr.a_mk]; omega)]
  simp; omega
theorem IsWay.leaf {x : Con} {c : Int} {u : List Nat} (h : treeB x = true) (hu : IsWay x c u) : ∃ y, get x u = some y ∧ y.a.k = 0 ∧ y.a.c = c ∧ y.ks = [] ∧ u ≠ [] ∧ shape y u.length = true := by
  obtain ⟨v, j, p, y, rfl, _, _, h1, h2, h3⟩ := hu
  have hs := shape_get (tree_parts h).1 h3
  rw [Nat.zero_add] at hs
  exact ⟨y, h3, h1, h2, shape_leaf hs h1, by simp, hs⟩
theorem isWay_of {x : Con} {c : Int} {u : List Nat} {y : Con} (hg : get x u = some y) (hk : y.a.k = 0) (hc : y.a.c = c) (hu : u ≠ []) : IsWay x c u := by
  rcases List.eq_nil_or_concat u with rfl | ⟨v, j, rfl⟩
  · exact absurd rfl hu
  · rw [List.concat_eq_append] at hg ⊢
    obtain ⟨p, h4, h5⟩ := get_prefix hg
    obtain ⟨a, ks⟩ := p
    obtain ⟨z, hz, hz2⟩ := get_consP h5
    simp only [get] at hz2
    have hz2 := Option.some.inj hz2
    subst hz2
    exact ⟨v, j, _, z, rfl, h4, hz, hk, hc, hg⟩
theorem clients_leaf {y : Con} (hk : y.a.k = 0) : clients y = [y.a.c] := by
  obtain ⟨a, ks⟩ := y
  simp only [Tr.a_mk] at hk
  simp [clients, all, hk, cl]
theorem leaf_eta {y : Con} (hk : y.a.k = 0) (hl : y.ks = []) : Tr.mk ⟨0, y.a.w, y.a.c, y.a.s⟩ [] = y := by
  obtain ⟨⟨k, w, c, s⟩, ks⟩ := y
  simp only [Tr.a_mk, Tr.ks_mk] at hk hl
  subst hk hl; rfl
theorem swap_tree {x : Con} {a b : Int} {v w : List Nat} (h : treeB x = true) (hv : IsWay x a v) (hw : IsWay x b w) :
    treeB (swapF v w x) = true ∧ swapI (swapF v w x) a b = (x, 0) ∧ cnt (swapF v w x) = cnt x := by
  obtain ⟨y, hy, hyk, hyc, hyl, hv0, hys⟩ := hv.leaf h
  obtain ⟨z, hz, hzk, hzc, hzl, hw0, hzs⟩ := hw.leaf h
  by_cases e : v = w
  · subst e
    rw [hy] at hz; have hz := Option.some.inj hz; subst hz
    have he : swapF v v x = x := by
      unfold swapF
      rw [hy]
      simp only
      rw [leaf_eta hyk hyl, put_self hy, put_self hy]
    refine ⟨by rw [he]; exact h, ?_, by rw [he]⟩
    rw [he]
    have := swapI_at h hv hw
    rwa [he] at this
  · obtain ⟨h1, h2, h3⟩ := tree_parts h
    obtain ⟨y', hy'⟩ : ∃ y', y' = (.mk ⟨0, y.a.w, z.a.c, z.a.s⟩ [] : Con) := ⟨_, rfl⟩
    obtain ⟨z', hz'⟩ : ∃ z', z' = (.mk ⟨0, z.a.w, y.a.c, y.a.s⟩ [] : Con) := ⟨_, rfl⟩
    have hF : swapF v w x = put (put x v y') w z' := by unfold swapF; rw [hy, hz, hy', hz']
    obtain ⟨p1, p2, p3, p4, p5, p6⟩ := leaf_shape hys hyk
    obtain ⟨q1, q2, q3, q4, q5, q6⟩ := leaf_shape hzs hzk
    have s1 : shape y' v.length = true := by rw [hy']; exact shape_leafI p1 p2 p3 p4 q5 q6
    have s2 : shape z' w.length = true := by rw [hz']; exact shape_leafI q1 q2 q3 q4 p5 p6
    have g1 : get (put x v y') w = some z := get_put_other hy hyl hz hzl e
    have t1 : shape (put x v y') 0 = true := shape_put h1 hy (by simpa using s1)
    have t2 : shape (put (put x v y') w z') 0 = true := shape_put t1 g1 (by simpa using s2)
    have c1 : clients y' = [z.a.c] := by rw [hy']; exact clients_leaf rfl
    have c2 : clients z' = [y.a.c] := by rw [hz']; exact clients_leaf rfl
    obtain ⟨l1, l2, e1, e2⟩ := clients_put h1 hy
    obtain ⟨l3, l4, e3, e4⟩ := clients_put t1 g1
    have hperm : (clients (put (put x v y') w z')).Perm (clients x) := by
      rw [List.perm_iff_count]
      intro k
      have k1 := congrArg (List.count k) e1
      have k2 := congrArg (List.count k) (e2 y')
      have k3 := congrArg (List.count k) e3
      have k4 := congrArg (List.count k) (e4 z')
      rw [clients_leaf hyk] at k1
      rw [c1] at k2
      rw [clients_leaf hzk] at k3
      rw [c2] at k4
      simp only [List.count_append] at k1 k2 k3 k4
      omega
    have t3 : treeB (put (put x v y') w z') = true := tree_of t2 (hperm.nodup_iff.2 h2) (by rw [← clients_len, hperm.length_eq, clients_len]; exact h3)
    have gw : get (put (put x v y') w z') w = some z' := get_put_at g1
    have gv : get (put (put x v y') w z') v = some y' := get_put_other g1 hzl (get_put_at hy) (by rw [hy']; rfl) (fun h => e h.symm)
    rw [hF]
    refine ⟨t3, ?_, ?_⟩
    · have wa : IsWay (put (put x v y') w z') a w := isWay_of gw (by rw [hz']; rfl) (by rw [hz']; exact hyc) hw0
      have wb : IsWay (put (put x v y') w z') b v := isWay_of gv (by rw [hy']; rfl) (by rw [hy']; exact hzc) hv0
      rw [swapI_at t3 wa wb]
      have ez : (Tr.mk ⟨0, z'.a.w, y'.a.c, y'.a.s⟩ [] : Con) = z := by rw [hz', hy']; exact leaf_eta hzk hzl
      have ey : (Tr.mk ⟨0, y'.a.w, z'.a.c, z'.a.s⟩ [] : Con) = y := by rw [hz', hy']; exact leaf_eta hyk hyl
      unfold swapF
      rw [gw, gv]
      simp only
      rw [ez, ey, put_put g1, put_self g1, put_put hy, put_self hy]
    · have k1 := cnt_put (s' := y') hy
      have k2 := cnt_put (s' := z') g1
      have o : ∀ (t : Con), t.ks = [] → cnt t = 1 := fun t ht => by obtain ⟨b, l⟩ := t; simp only [Tr.ks_mk] at ht; rw [ht, cnt_mk]; rfl
      rw [o y hyl, o y' (by rw [hy']; rfl)] at k1
      rw [o z hzl, o z' (by rw [hz']; rfl)] at k2
      omega
theorem put_comm {α : Type} : ∀ {v u : List Nat} {x y z s s2 : Tr α}, get x v = some y → y.ks = [] → get x u = some z → z.ks = [] → v ≠ u → put (put x v s) u s2 = put (put x u s2) v s := by
  intro v
  induction v with
  | nil =>
    intro u x y z s s2 hy hk hz _ hne
    simp only [get] at hy; have hy := Option.some.inj hy; subst hy
    cases u with
    | nil => exact absurd rfl hne
    | cons j q =>
      obtain ⟨a, ks⟩ := x
      obtain ⟨z2, hz2, _⟩ := get_consP hz
      simp only [Tr.ks_mk] at hk
      rw [hk] at hz2; cases hz2
  | cons i r ih =>
    intro u x y z s s2 hy hk hz hzk hne
    obtain ⟨a, ks⟩ := x
    obtain ⟨y2, hy2, hr⟩ := get_consP hy
    cases u with
    | nil =>
      simp only [get] at hz; have hz := Option.some.inj hz; subst hz
      simp only [Tr.ks_mk] at hzk
      rw [hzk] at hy2; cases hy2
    | cons j q =>
      obtain ⟨z2, hz2, hq⟩ := get_consP hz
      rw [put_consI hy2, put_consI hz2]
      by_cases e : i = j
      · subst e
        rw [hy2] at hz2; have hz2 := Option.some.inj hz2; subst hz2
        have hl := (List.getElem?_eq_some_iff.1 hy2).1
        rw [put_consI (List.getElem?_set_self hl), put_consI (List.getElem?_set_self hl), List.set_set, List.set_set, ih hr hk hq hzk fun e => hne (by rw [e])]
      · rw [put_consI (x := z2) (by rw [List.getElem?_set_ne e]; exact hz2), put_consI (x := y2) (by rw [List.getElem?_set_ne (fun h => e h.symm)]; exact hy2), List.set_comm _ _ e]
theorem swap_fine {x : Con} {a b : Int} (hf : fine x) (_h : (swapI x a b).2 = 0) : fine (swapI x a b).1 := by
  have hz : fine zeroT := fine_mk ⟨⟨by decide, by decide⟩, ⟨by decide, by decide⟩, ⟨by decide, by decide⟩, ⟨by decide, by decide⟩⟩ (by simp) (by simp)
  have h0 : I64 0 := ⟨by decide, by decide⟩
  unfold swapI
  split
  · exact hz
  · split
    · exact hz
    · split
      · rename_i v w _ _
        show fine (swapF v w x)
        unfold swapF
        split
        · rename_i p q hp hq
          obtain ⟨⟨_, f1, f2, f3⟩, _⟩ := hf v p hp
          obtain ⟨⟨_, f4, f5, f6⟩, _⟩ := hf w q hq
          exact fine_put (fine_put hf (fine_mk ⟨h0, f1, f5, f6⟩ (by simp) (by simp))) (fine_mk ⟨h0, f4, f2, f3⟩ (by simp) (by simp))
        · exact hf
      · exact hz
end Go.Proofs.Ytbbmfpdlkogkfaa.Co
end
