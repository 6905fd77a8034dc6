/- The document's less. The document's Remove. The document's Find, and where its way lies. The document's Insert. -/
import Derived.Test.YtjlkmcoamcclgaaCpZ
import Derived.Test.YtjlkmcoamcclgaaCpY
import Derived.Test.YtjlkmcoamcclgaaCpX
import Derived.Test.YtjlkmcoamcclgaaCqG
section
namespace Go.Proofs.Ytjlkmcoamcclgaa.Co
open Go.RowKit Go.Shelf Go.Maps
theorem add0 (g i : Nat) : (⟨g, 0, none⟩ : Addr).add i = ⟨g, i, none⟩ := by unfold Addr.add; split <;> simp_all
theorem KV.st5 {w : World} {Z Z' : Nat → Prop} {ks : List Con} {v : Value} {g : Nat} (h : KV w Z ks v) (hg : ∀ b, Z b → b ≠ g) (hz : ∀ b, Z b → Z' b) (v0 v1 v2 v3 v4 : Value) : KV (st5 w g v0 v1 v2 v3 v4) Z' ks v :=
  h.same hz (by simp [Co.st5, World.setCell]) fun b hb _ => far_st5 w g v0 v1 v2 v3 v4 b (hg b hb)
/-- What is left, and whether. -/
def LessR (Z : Nat → Prop) (x : Con) (c : Int) (w : World) (e : Ending) (w' : World) : Prop :=
  Below w.heap.size w w' ∧ ∃ (y : Con) (s : Value), e = .returned (.tuple #[conV y.a s, .bool (lessT c x).isSome]) ∧ KV w' (fun b => Z b ∨ w.heap.size ≤ b) y.ks s ∧ ∀ t, lessT c x = some t → y = t
set_option maxHeartbeats 4000000 in
theorem less_c (c : Int) : ∀ (x : Con) (Z : Nat → Prop) (sv : Value) (w : World), KV w Z x.ks sv → (∀ b, Z b → b < w.heap.size) → (all x).length ≤ 1000000 → fine x →
    Calls Try.prog 74 #[conV x.a sv, .int .i64 c] w (LessR Z x c w) := by
  intro x
  induction x using Tr.ind with
  | h a ks ih =>
    intro Z sv w hK hZ hd hf
    obtain ⟨p, cap, rfl, -⟩ : ∃ p cap, sv = .slice p ks.length cap ∧ ks.length ≤ 1152921504606846976 := hK.slice
    have hK : KV w Z ks (.slice p ks.length cap) := hK
    obtain ⟨m, hm⟩ : ∃ m, m = ks.length := ⟨_, rfl⟩
    rw [← hm] at hK ⊢
    obtain ⟨hfa, hfl, hfk⟩ := fine_kids hf
    rw [← hm] at hfl
    obtain ⟨R, hR⟩ : ∃ R, R = LessR Z (.mk a ks) c w := ⟨_, rfl⟩
    have hRe : ∀ e w', R e w' ↔ LessR Z (.mk a ks) c w e w' := by rw [hR]; exact fun _ _ => Iff.rfl
    rw [← hR]
    have HR := Lib.hid hRe
    obtain ⟨wB, hwB⟩ : ∃ wB, wB = (w.alloc (.cells #[.int .i64 a.k, .int .i64 a.w, .int .i64 a.c, .int .i64 a.s, .slice p m cap] 24)).alloc (.cells #[.int .i64 0, .int .i64 0, .int .i64 0, .int .i64 0, .slice none 0 0] 24) := ⟨_, rfl⟩
    have hb0 : Below w.heap.size w wB := by rw [hwB]; exact ((Below.refl w.heap.size w).alloc (Nat.le_refl _) _).alloc (by simp) _
    have hq1 : Blk wB w.heap.size 24 #[.int .i64 a.k, .int .i64 a.w, .int .i64 a.c, .int .i64 a.s, .slice p m cap] := by rw [hwB]; exact (Blk.new w 24 _).alloc _
    have hq2 : Blk wB (w.heap.size + 1) 24 #[.int .i64 0, .int .i64 0, .int .i64 0, .int .i64 0, .slice none 0 0] := by
      rw [hwB]; have := Blk.new (w.alloc (.cells #[.int .i64 a.k, .int .i64 a.w, .int .i64 a.c, .int .i64 a.s, .slice p m cap] 24)) 24 #[.int .i64 0, .int .i64 0, .int .i64 0, .int .i64 0, .slice none 0 0]; rwa [World.size_alloc] at this
    have HB := Lib.hid hb0
    have HQ1 := Lib.hid hq1
    have HQ2 := Lib.hid hq2
    have HWB := Lib.hid hwB
    have HK := Lib.hid hK
    have HZ := Lib.hid hZ
    by_cases hk0 : a.k = 0
    · have hke : (a.k == 0) = true := by simpa using hk0
      have hT : lessT c (.mk a ks) = if a.c = c then none else some (.mk a ks) := by simp only [lessT]; rw [if_pos hk0]
      have HT := Lib.hid hT
      obtain ⟨⟨q0, q1, q2, q3, q4⟩, -⟩ := c5 hq1
      obtain ⟨⟨r0, r1, r2, r3, r4⟩, ⟨f0, f1, f2, f3, f4⟩⟩ := c5 hq2
      clear hR hRe hK hZ hd hf hwB hb0 hq1 hq2 hfk ih hm hT hk0
      show Calls Try.prog 74 #[.agg #[.int .i64 a.k, .int .i64 a.w, .int .i64 a.c, .int .i64 a.s, .slice p m cap], .int .i64 c] w R
      go_enter Try.func74, Try.ntmps74
      go_wp2_with fail
      rw [← HWB.out]
      go_region
      go_wp2_with fail
      obtain ⟨hb5, hq5, -⟩ := st5_next HB.out (by omega) HQ2.out (.int .i64 a.k) (.int .i64 a.w) (.int .i64 a.c) (.int .i64 a.s) (.slice p m cap)
      have hk5 := KV.st5 (g := w.heap.size + 1) (Z' := fun b => Z b ∨ w.heap.size ≤ b) (HK.out.next HB.out) (fun b hb => by have := HZ.out b hb; omega) (fun b hb => .inl hb) (.int .i64 a.k) (.int .i64 a.w) (.int .i64 a.c) (.int .i64 a.s) (.slice p m cap)
      obtain ⟨w5, hw5⟩ : ∃ w5, w5 = st5 wB (w.heap.size + 1) (.int .i64 a.k) (.int .i64 a.w) (.int .i64 a.c) (.int .i64 a.s) (.slice p m cap) := ⟨_, rfl⟩
      rw [← hw5] at hb5 hq5 hk5
      unfold st5 at hw5
      rw [← hw5]
      obtain ⟨⟨b0, b1, b2, b3, b4⟩, -⟩ := c5 hq5.drew
      exact bodyPost_ret (v := .tuple #[.agg #[.int .i64 a.k, .int .i64 a.w, .int .i64 a.c, .int .i64 a.s, .slice p m cap], .bool (a.c != c)]) (by simp [results, Try.results74, go_sem, b0, b1, b2, b3, b4]) rfl ((HR.out _ _).2 ⟨hb5.drew, .mk a ks, .slice p m cap, (by rw [HT.out]; by_cases hac : a.c = c <;> simp [hac]), hk5.drew, (fun t ht => by rw [HT.out] at ht; split at ht; cases ht; exact Option.some.inj ht)⟩)
    · have hke : (a.k == 0) = false := by simpa using hk0
      have hd' : (all (.mk a ks)).length ≤ 1000000 := hd
      have HI := Lib.hid (Has_c Z (.mk a ks) (.slice p m cap) c wB (hK.next hb0) hd (fun b hb => Nat.lt_of_lt_of_le (hZ b hb) hb0.size))
      obtain ⟨⟨q0, q1, q2, q3, q4⟩, -⟩ := c5 hq1
      cases hhb : hasB (.mk a ks) c
      · rw [hhb] at HI
        have HT := Lib.hid (lessT_same hhb)
        clear hR hRe hK hZ hd hd' hf hwB hb0 hq1 hq2 hfk ih hm hk0 hhb
        show Calls Try.prog 74 #[.agg #[.int .i64 a.k, .int .i64 a.w, .int .i64 a.c, .int .i64 a.s, .slice p m cap], .int .i64 c] w R
        go_enter Try.func74, Try.ntmps74
        go_wp2_with fail
        rw [← HWB.out]
        go_wp2_with fail
        refine HI.out.mono ?_
        rintro e w1 ⟨rfl, hb⟩
        have HB1 := Lib.hid (HB.out.trans (hb.mono HB.out.size))
        have HQ3 := Lib.hid (HQ2.out.next hb)
        clear q0 q1 q2 q3 q4
        obtain ⟨⟨q0, q1, q2, q3, q4⟩, -⟩ := c5 (HQ1.out.next hb)
        obtain ⟨⟨r0, r1, r2, r3, r4⟩, ⟨f0, f1, f2, f3, f4⟩⟩ := c5 HQ3.out
        clear hb
        go_wp2_with fail
        obtain ⟨hb5, hq5, -⟩ := st5_next HB1.out (by omega) HQ3.out (.int .i64 a.k) (.int .i64 a.w) (.int .i64 a.c) (.int .i64 a.s) (.slice p m cap)
        have hk5 := KV.st5 (g := w.heap.size + 1) (Z' := fun b => Z b ∨ w.heap.size ≤ b) (HK.out.next HB1.out) (fun b hb => by have := HZ.out b hb; omega) (fun b hb => .inl hb) (.int .i64 a.k) (.int .i64 a.w) (.int .i64 a.c) (.int .i64 a.s) (.slice p m cap)
        obtain ⟨w5, hw5⟩ : ∃ w5, w5 = st5 w1 (w.heap.size + 1) (.int .i64 a.k) (.int .i64 a.w) (.int .i64 a.c) (.int .i64 a.s) (.slice p m cap) := ⟨_, rfl⟩
        rw [← hw5] at hb5 hq5 hk5
        unfold st5 at hw5
        rw [← hw5]
        obtain ⟨⟨b0, b1, b2, b3, b4⟩, -⟩ := c5 hq5
        exact bodyPost_ret (v := .tuple #[.agg #[.int .i64 a.k, .int .i64 a.w, .int .i64 a.c, .int .i64 a.s, .slice p m cap], .bool true]) (by simp [results, Try.results74, go_sem, b0, b1, b2, b3, b4]) rfl ((HR.out _ _).2 ⟨hb5, .mk a ks, .slice p m cap, (by rw [HT.out]; rfl), hk5, (fun t ht => by rw [HT.out] at ht; exact Option.some.inj ht)⟩)
      · rw [hhb] at HI
        have hT : lessT c (.mk a ks) = packT a (lessL c ks) := by simp only [lessT]; rw [if_neg hk0, if_neg (by rw [hhb]; simp)]
        have HT := Lib.hid hT
        have HIH : Hid (∀ (j : Nat) (q : Con) (s : Value) (W : World), ks[j]? = some q → KV w Z q.ks s → Below w.heap.size w W → Calls Try.prog 74 #[conV q.a s, .int .i64 c] W (LessR Z q c W)) := fun j q s W hj hs hb => by
          have hq := List.mem_of_getElem? hj
          refine ih q hq Z s W (hs.next hb) (fun b h => Nat.lt_of_lt_of_le (hZ b h) hb.size) ?_ (hfk q hq)
          rw [all_kid hk0] at hd'
          obtain ⟨l1, l2, e⟩ := List.append_of_mem hq
          rw [e, List.flatMap_append, List.flatMap_cons] at hd'
          simp at hd'; omega
        have HFK := Lib.hid hfk
        have HFA := Lib.hid hfa
        have HM := Lib.hid hm
        clear hR hRe hK hZ hd hd' hf hwB hb0 hq1 hq2 hfk ih hm hk0 hhb hT
        show Calls Try.prog 74 #[.agg #[.int .i64 a.k, .int .i64 a.w, .int .i64 a.c, .int .i64 a.s, .slice p m cap], .int .i64 c] w R
        go_enter Try.func74, Try.ntmps74
        go_wp2_with fail
        rw [← HWB.out]
        go_wp2_with fail
        refine HI.out.mono ?_
        rintro e w1 ⟨rfl, hb⟩
        have hb1 := HB.out.trans (hb.mono HB.out.size)
        have hq1 := HQ1.out.next hb
        have hq2 := HQ2.out.next hb
        have hs1 : w.heap.size + 1 + 1 ≤ w1.heap.size := hq2.lt
        clear hb q0 q1 q2 q3 q4 HI
        go_wp2_with fail
        go_loopw [6, 7] (fun v z wr => ∃ i : Nat, i ≤ m ∧ z = .int .i64 i ∧ Below w.heap.size w wr ∧ Blk wr w.heap.size 24 #[.int .i64 a.k, .int .i64 a.w, .int .i64 a.c, .int .i64 a.s, .slice p m cap] ∧ Blk wr (w.heap.size + 1) 24 #[.int .i64 0, .int .i64 0, .int .i64 0, .int .i64 0, .slice none 0 0] ∧ RowF (fun b => Z b ∨ w.heap.size + 1 + 1 ≤ b) (w.heap.size + 1 + 1) (lessL c (ks.take i)) v wr) (fun _ z _ => m - (intOf z).toNat)
        case atStart => exact ⟨0, Nat.zero_le _, rfl, hb1, hq1, hq2, RowF.nil _ _ _⟩
        case round =>
          clear hb1 hq1 hq2 hs1
          obtain ⟨i, hi, rfl, hW, hq1, hq2, hrow⟩ := hrel
          have hsr : w.heap.size + 1 + 1 ≤ wr.heap.size := hq2.lt
          by_cases hlt : i < m
          · obtain ⟨q, hq⟩ : ∃ q, ks[i]? = some q := ⟨_, List.getElem?_eq_getElem (by rw [← HM.out]; exact hlt)⟩
            obtain ⟨-, kb, ko, sq, rfl, -, hkb, -, hkq, c0, c1, c2, c3, c4⟩ := HK.out.kid hq
            have HL := Lib.hid (HIH.out i q sq wr hq hkq hW)
            obtain ⟨pq, kq, rfl, -⟩ := hkq.slice
            obtain ⟨nq, hnq⟩ : ∃ n, n = q.ks.length := ⟨_, rfl⟩
            rw [← hnq] at HL c4
            obtain ⟨c0, c1, c2, c3, c4⟩ := cells5 hW hkb ⟨c0, c1, c2, c3, c4⟩
            obtain ⟨⟨q0, q1, q2, q3, q4⟩, -⟩ := c5 hq1
            obtain ⟨n, hn⟩ : ∃ n, n = (lessL c (ks.take i)).length := ⟨_, rfl⟩
            obtain ⟨pv, cv, rfl⟩ := hrow.slice' hn.symm
            have HSN := Lib.hid (lessL_snoc (c := c) hq)
            have hnm : n ≤ m := by rw [hn]; have := lessL_len c (ks.take i); simp at this; omega
            have HN := Lib.hid hn
            have HRW := Lib.hid hrow
            have HW := Lib.hid hW
            have HQ3 := Lib.hid hq1
            have HQ4 := Lib.hid hq2
            have HSR := Lib.hid hsr
            have HQF := Lib.hid (HFK.out q (List.mem_of_getElem? hq))
            clear hq hkq hnq hn hrow hW hq1 hq2 hsr
            go_wp2_with fail
            refine HL.out.mono ?_
            rintro e w2 ⟨hb, y, s, rfl, hky, hyt⟩
            obtain ⟨py, ky, rfl, -⟩ := hky.slice
            obtain ⟨ny, hny⟩ : ∃ n, n = y.ks.length := ⟨_, rfl⟩
            rw [← hny] at hky ⊢
            have HOL : Hid (∀ g, (Value.slice pv n cv).ownBlock = some g → w.heap.size + 1 + 1 ≤ g ∧ g < wr.heap.size) := fun g hg => by obtain ⟨vs, h1, _⟩ := HRW.out; exact h1.lt g hg
            have HKY := Lib.hid hky
            have HB2 := Lib.hid hb
            cases hl : lessT c q with
            | none =>
              have HSE : Hid (lessL c (ks.take (i + 1)) = lessL c (ks.take i)) := by show _ = _; rw [HSN.out, hl]; simp
              clear hky hyt hny hb hl
              go_wp2_with fail
              have hb3 := HB2.out.alloc HB2.out.size (.cells #[.int .i64 y.a.k, .int .i64 y.a.w, .int .i64 y.a.c, .int .i64 y.a.s, .slice py ny ky] 24)
              obtain ⟨w3, hw3⟩ : ∃ w3, w3 = w2.alloc (.cells #[.int .i64 y.a.k, .int .i64 y.a.w, .int .i64 y.a.c, .int .i64 y.a.s, .slice py ny ky] 24) := ⟨_, rfl⟩
              rw [← hw3] at hb3 ⊢
              refine ⟨⟨i + 1, by omega, by go_num, HW.out.trans (hb3.mono HW.out.size), HQ3.out.next hb3, HQ4.out.next hb3, ?_⟩, by simp [intOf]; omega⟩
              rw [HSE.out]
              exact HRW.out.next hb3
            | some t =>
              have HSE : Hid (lessL c (ks.take (i + 1)) = lessL c (ks.take i) ++ [t]) := by show _ = _; rw [HSN.out, hl]; simp
              have hyt := hyt t hl
              subst hyt
              have HYF := Lib.hid (lessT_fine c q y HQF.out hl)
              obtain ⟨w4, hw4⟩ : ∃ w4, w4 = (w2.alloc (.cells #[.int .i64 y.a.k, .int .i64 y.a.w, .int .i64 y.a.c, .int .i64 y.a.s, .slice py ny ky] 24)).alloc (.cells #[.int .i64 y.a.k, .int .i64 y.a.w, .int .i64 y.a.c, .int .i64 y.a.s, .slice py ny ky] 24) := ⟨_, rfl⟩
              have hb4 : Below wr.heap.size wr w4 := by rw [hw4]; exact (hb.alloc hb.size _).alloc (by have := hb.size; simp; omega) _
              have hq4 : Blk w4 (w2.heap.size + 1) 24 #[.int .i64 y.a.k, .int .i64 y.a.w, .int .i64 y.a.c, .int .i64 y.a.s, .slice py ny ky] := by
                rw [hw4]; have := Blk.new (w2.alloc (.cells #[.int .i64 y.a.k, .int .i64 y.a.w, .int .i64 y.a.c, .int .i64 y.a.s, .slice py ny ky] 24)) 24 #[.int .i64 y.a.k, .int .i64 y.a.w, .int .i64 y.a.c, .int .i64 y.a.s, .slice py ny ky]; rwa [World.size_alloc] at this
              have hb24 : Below w2.heap.size w2 w4 := by rw [hw4]; exact ((Below.refl _ _).alloc (Nat.le_refl _) _).alloc (by simp) _
              have HR4 := Lib.hid (HRW.out.next hb4)
              have HK4 : Hid (KV w4 (fun b => (Z b ∨ w.heap.size + 1 + 1 ≤ b) ∧ some b ≠ (Value.slice pv n cv).ownBlock) [y] (.slice (some ⟨w2.heap.size + 1, 0, none⟩) 1 1)) := by
                refine KV.single hq4 ⟨.inr (by have := HB2.out.size; have := HSR.out; omega), fun e => by have := (HOL.out _ e.symm).2; have := HB2.out.size; omega⟩ ((hky.next hb24).weak fun b hz => ?_) (HYF.out [] y rfl).1
                rcases hz with hz | hz
                · exact ⟨.inl hz, fun e => by have := (HOL.out _ e.symm).1; have := HZ.out b hz; omega⟩
                · exact ⟨.inr (by have := HSR.out; omega), fun e => by have := (HOL.out _ e.symm).2; omega⟩
              have HLN : Hid ((lessL c (ks.take i)).length + [y].length ≤ 1000000) := by show _ ≤ _; rw [← HN.out]; simp; omega
              have HS4 : Hid (w.heap.size + 1 + 1 ≤ w4.heap.size) := by show _ ≤ _; exact Nat.le_trans HSR.out hb4.size
              have HW4 := Lib.hid hw4
              have HB4 := Lib.hid (HW.out.trans (hb4.mono HW.out.size))
              have HQ5 := Lib.hid (HQ3.out.next hb4)
              have HQ6 := Lib.hid (HQ4.out.next hb4)
              clear hky hny hb hl hw4 hb4 hq4 hb24
              go_wp2_with (at_builtin; rw [← HW4.out]; (refine list_appF rfl (.tmp 41) (.tmp 43) rfl (fun b => Z b ∨ w.heap.size + 1 + 1 ≤ b) (w.heap.size + 1 + 1) (.slice pv n cv) (.slice (some ⟨w2.heap.size + 1, 0, none⟩) 1 1) (lessL c (ks.take i)) [y] rfl rfl HR4.out HK4.out HLN.out HS4.out ?_; intro v7 w7 hr7 hb7; have HR7 := Lib.hid hr7; have HB7 := Lib.hid hb7; clear hr7 hb7))
              refine ⟨⟨i + 1, by omega, by go_num, HB4.out.trans (HB7.out.mono (Nat.le_add_right _ 2)), HQ5.out.below HB7.out (by omega), HQ6.out.below HB7.out (by omega), ?_⟩, by simp [intOf]; omega⟩
              rw [HSE.out]
              exact HR7.out
          · have hL : lessL c (ks.take i) = lessL c ks := by rw [List.take_of_length_le (by have := HM.out; omega)]
            rw [hL] at hrow
            obtain ⟨l, hl⟩ : ∃ l, l = lessL c ks := ⟨_, rfl⟩
            rw [← hl] at hrow
            have HPT : Hid (lessT c (.mk a ks) = packT a l) := by show _ = _; rw [hl]; exact HT.out
            have HLF : Hid (∀ y ∈ l, fine y) := by rw [hl]; exact lessL_fine HFK.out
            have hlm : l.length ≤ 100000 := by rw [hl]; have := lessL_len c ks; have := HM.out; omega
            obtain ⟨n, hn⟩ : ∃ n, n = l.length := ⟨_, rfl⟩
            obtain ⟨pv, cv, rfl⟩ := hrow.slice' hn.symm
            rw [← hn] at hlm
            have HN := Lib.hid hn
            have HRW := Lib.hid hrow
            have HWr := Lib.hid hW
            have HQ3 := Lib.hid hq1
            have HQ4 := Lib.hid hq2
            obtain ⟨⟨q0, q1, q2, q3, q4⟩, ⟨e0, e1, e2, e3, e4⟩⟩ := c5 hq1
            obtain ⟨⟨r0, r1, r2, r3, r4⟩, ⟨f0, f1, f2, f3, f4⟩⟩ := c5 hq2
            clear hL hl hn hrow hW hq1 hq2
            by_cases h1 : n = 1
            · subst h1
              obtain ⟨z, hz⟩ : ∃ z, l = [z] := by
                match l, HN.out with
                | [z], _ => exact ⟨z, rfl⟩
              subst hz
              obtain ⟨vs, ho, sz, rest, hvs, hkz, hrest⟩ := HRW.out
              have hrest : rest = [] := hrest
              subst hrest
              rw [List.append_nil] at hvs
              subst hvs
              obtain ⟨gr, cr, hgv, hg1, hg2⟩ := ho.form (by simp)
              obtain ⟨e1', -, e3'⟩ := Value.slice.inj hgv
              subst e1' e3'
              clear hgv
              have hd := fun i u hu => ho.cells (g := gr) rfl i u hu
              obtain ⟨pz, kz, rfl, -⟩ := hkz.slice
              obtain ⟨nz, hnz⟩ : ∃ n, n = z.ks.length := ⟨_, rfl⟩
              rw [← hnz] at hkz hd
              have d0 := hd 0 _ rfl
              have d1 := hd 1 _ rfl
              have d2 := hd 2 _ rfl
              have d3 := hd 3 _ rfl
              have d4 := hd 4 _ rfl
              rw [add0] at d0 d1 d2 d3 d4
              have hfz : ∀ i, wr.frozen? ⟨gr, i, none⟩ = false := fun i => by
                rcases ho.2 with ⟨h3, _⟩ | ⟨g', c', cur, h3, _, h5, _⟩
                · cases h3
                · obtain ⟨e, -, -⟩ := Value.slice.inj h3
                  have e := Option.some.inj e
                  injection e with e
                  subst e
                  simp [World.frozen?, h5]
              have z1 := hfz 1
              have hgr1 : gr ≠ w.heap.size := by omega
              have hgr2 : gr ≠ w.heap.size + 1 := by omega
              have HKZ := Lib.hid hkz
              have HG1 := Lib.hid hg1
              have hPT : lessT c (.mk a ks) = some (.mk { z.a with w := a.w } z.ks) := HPT.out
              have HPZ := Lib.hid hPT
              clear ho hkz hd hfz hnz hPT hg1 hg2
              go_wp2_with fail
              have hkl : KV (wr.setCell ⟨gr, 1, none⟩ (.int .i64 a.w)) (fun b => Z b ∨ w.heap.size + 1 + 1 ≤ b) z.ks (.slice pz nz kz) :=
                HKZ.out.same (fun b h => h.1.1) (by simp [World.setCell]) fun b hb _ => Below.heap_setCell wr ⟨gr, 1, none⟩ _ b (fun e => hb.1.2 (congrArg some e))
              obtain ⟨hb5, hq5, -⟩ := st5_next (HWr.out.setCell (p := ⟨gr, 1, none⟩) (by show _ ≤ gr; have := HG1.out; omega) (.int .i64 a.w)) (by omega) (HQ4.out.far (p := ⟨gr, 1, none⟩) (Ne.symm hgr2) (.int .i64 a.w)) (.int .i64 z.a.k) (.int .i64 a.w) (.int .i64 z.a.c) (.int .i64 z.a.s) (.slice pz nz kz)
              have hk5 := KV.st5 (g := w.heap.size + 1) (Z' := fun b => Z b ∨ w.heap.size ≤ b) hkl (fun b hb => by rcases hb with hb | hb; (have := HZ.out b hb; omega); omega) (fun b hb => by rcases hb with hb | hb; exact .inl hb; (right; omega)) (.int .i64 z.a.k) (.int .i64 a.w) (.int .i64 z.a.c) (.int .i64 z.a.s) (.slice pz nz kz)
              obtain ⟨w5, hw5⟩ : ∃ w5, w5 = st5 (wr.setCell ⟨gr, 1, none⟩ (.int .i64 a.w)) (w.heap.size + 1) (.int .i64 z.a.k) (.int .i64 a.w) (.int .i64 z.a.c) (.int .i64 z.a.s) (.slice pz nz kz) := ⟨_, rfl⟩
              rw [← hw5] at hb5 hq5 hk5
              unfold st5 at hw5
              rw [← hw5]
              obtain ⟨⟨b0, b1, b2, b3, b4⟩, -⟩ := c5 hq5
              exact bodyPost_ret (v := .tuple #[.agg #[.int .i64 z.a.k, .int .i64 a.w, .int .i64 z.a.c, .int .i64 z.a.s, .slice pz nz kz], .bool true]) (by simp [results, Try.results74, go_sem, b0, b1, b2, b3, b4]) rfl ((HR.out _ _).2 ⟨hb5, .mk { z.a with w := a.w } z.ks, .slice pz nz kz, (by rw [HPZ.out]; rfl), hk5, (fun t ht => by rw [HPZ.out] at ht; exact Option.some.inj ht)⟩)
            · have hn1 : ((n : Int) == 1) = false := by simp; omega
              have HN1 := Lib.hid h1
              clear h1
              go_wp2_with fail
              have hsame : ∀ b, ((Z b ∨ w.heap.size + 1 + 1 ≤ b) ∨ w.heap.size + 1 + 1 ≤ b) → (wr.setCell ⟨w.heap.size, 4, none⟩ (.slice pv n cv)).heap[b]? = wr.heap[b]? := fun b hb => Below.heap_setCell wr ⟨w.heap.size, 4, none⟩ _ b (by
                show b ≠ w.heap.size
                rcases hb with (hb | hb) | hb
                · have := HZ.out b hb; omega
                · omega
                · omega)
              have hkl := (HRW.out.same (w' := wr.setCell ⟨w.heap.size, 4, none⟩ (.slice pv n cv)) (by simp [World.setCell]) hsame).kv (fun y hy => (HLF.out y hy [] y rfl).1) (by rw [← HN.out]; omega)
              obtain ⟨hb5, hq5, -⟩ := st5_next (HWr.out.setCell (p := ⟨w.heap.size, 4, none⟩) (Nat.le_refl _) (.slice pv n cv)) (by omega) (HQ4.out.far (p := ⟨w.heap.size, 4, none⟩) (by simp) (.slice pv n cv)) (.int .i64 a.k) (.int .i64 a.w) (.int .i64 a.c) (.int .i64 a.s) (.slice pv n cv)
              have hk5 := KV.st5 (g := w.heap.size + 1) (Z' := fun b => Z b ∨ w.heap.size ≤ b) hkl (fun b hb => by rcases hb with (hb | hb) | hb; (have := HZ.out b hb; omega); omega; omega) (fun b hb => by rcases hb with (hb | hb) | hb; exact .inl hb; (right; omega); (right; omega)) (.int .i64 a.k) (.int .i64 a.w) (.int .i64 a.c) (.int .i64 a.s) (.slice pv n cv)
              obtain ⟨w5, hw5⟩ : ∃ w5, w5 = st5 (wr.setCell ⟨w.heap.size, 4, none⟩ (.slice pv n cv)) (w.heap.size + 1) (.int .i64 a.k) (.int .i64 a.w) (.int .i64 a.c) (.int .i64 a.s) (.slice pv n cv) := ⟨_, rfl⟩
              rw [← hw5] at hb5 hq5 hk5
              unfold st5 at hw5
              rw [← hw5]
              obtain ⟨⟨b0, b1, b2, b3, b4⟩, -⟩ := c5 hq5
              refine bodyPost_ret (v := .tuple #[.agg #[.int .i64 a.k, .int .i64 a.w, .int .i64 a.c, .int .i64 a.s, .slice pv n cv], .bool (decide (0 < n))]) (by simp [results, Try.results74, go_sem, b0, b1, b2, b3, b4]) rfl ((HR.out _ _).2 ⟨hb5, .mk a l, .slice pv n cv, ?_, hk5, ?_⟩)
              · rw [HPT.out]
                unfold packT
                rw [← HN.out, if_neg HN1.out]
                by_cases h0 : n = 0
                · rw [if_pos h0, h0]; rfl
                · rw [if_neg h0, decide_eq_true (Nat.pos_of_ne_zero h0)]; rfl
              · intro t ht
                rw [HPT.out] at ht
                unfold packT at ht
                rw [← HN.out, if_neg HN1.out] at ht
                split at ht
                · cases ht
                · exact Option.some.inj ht
end Go.Proofs.Ytjlkmcoamcclgaa.Co
end
section
namespace Go.Proofs.Ytjlkmcoamcclgaa.Co
open Go.RowKit Go.Shelf Go.Maps
/-- What the document's call tells: an error, or a container. -/
def DocR (Z : Nat → Prop) (r : Con × Int) (w : World) (e : Ending) (w' : World) : Prop :=
  Below w.heap.size w w' ∧ ∃ (y : Con) (s : Value), e = .returned (.tuple #[conV y.a s, .int .i64 r.2]) ∧ KV w' (fun b => Z b ∨ w.heap.size ≤ b) y.ks s ∧ y = if r.2 = 0 then r.1 else zeroT
theorem askedI_tree {x : Con} {c : Int} (h : askedI x c = 0) : treeB x = true ∧ hasB x c = true := by
  unfold askedI at h
  split at h
  · cases h
  · next h1 =>
    split at h
    · cases h
    · next h2 => exact ⟨by simpa using h1, by simpa using h2⟩
theorem removeD_asked (x : Con) (c : Int) : removeD x c = if askedI x c = 0 then (.mk x.a (lessL c x.ks), 0) else (zeroT, askedI x c) := by
  unfold removeD askedI
  cases treeB x <;> cases hasB x c <;> rfl
set_option maxHeartbeats 4000000 in
theorem RemoveR_c (c : Int) (x : Con) (Z : Nat → Prop) (sv : Value) (w : World) (hK : KV w Z x.ks sv) (hZ : ∀ b, Z b → b < w.heap.size) (hd : (all x).length ≤ 1000000) (hf : fine x) :
    Calls Try.prog 34 #[conV x.a sv, .int .i64 c] w (DocR Z (removeD x c) w) := by
  obtain ⟨a, ks⟩ := x
  obtain ⟨p, cap, rfl, -⟩ : ∃ p cap, sv = .slice p ks.length cap ∧ ks.length ≤ 1152921504606846976 := hK.slice
  have hK : KV w Z ks (.slice p ks.length cap) := hK
  obtain ⟨m, hm⟩ : ∃ m, m = ks.length := ⟨_, rfl⟩
  rw [← hm] at hK ⊢
  obtain ⟨hfa, hfl, hfk⟩ := fine_kids hf
  rw [← hm] at hfl
  obtain ⟨R, hR⟩ : ∃ R, R = DocR Z (removeD (.mk a ks) c) w := ⟨_, rfl⟩
  have hRe : ∀ e w', R e w' ↔ DocR Z (removeD (.mk a ks) c) w e w' := by rw [hR]; exact fun _ _ => Iff.rfl
  rw [← hR]
  rw [removeD_asked] at hRe
  have HA := Lib.hid (fun (W : World) (h : Below w.heap.size w W) => asked_c Z (.mk a ks) (.slice p m cap) c W (hK.next h) hd (fun b hb => Nat.lt_of_lt_of_le (hZ b hb) h.size))
  have hat := askedI_tree (x := .mk a ks) (c := c)
  obtain ⟨q9, hq9⟩ : ∃ q, q = askedI (.mk a ks) c := ⟨_, rfl⟩
  rw [← hq9] at HA hRe hat
  obtain ⟨wB, hwB⟩ : ∃ wB, wB = (w.alloc (.cells #[.int .i64 a.k, .int .i64 a.w, .int .i64 a.c, .int .i64 a.s, .slice p m cap] 24)).alloc (.cells #[.int .i64 0, .int .i64 0, .int .i64 0, .int .i64 0, .slice none 0 0] 24) := ⟨_, rfl⟩
  have hb0 : Below w.heap.size w wB := by rw [hwB]; exact ((Below.refl w.heap.size w).alloc (Nat.le_refl _) _).alloc (by simp) _
  have hq1 : Blk wB w.heap.size 24 #[.int .i64 a.k, .int .i64 a.w, .int .i64 a.c, .int .i64 a.s, .slice p m cap] := by rw [hwB]; exact (Blk.new w 24 _).alloc _
  have hq2 : Blk wB (w.heap.size + 1) 24 #[.int .i64 0, .int .i64 0, .int .i64 0, .int .i64 0, .slice none 0 0] := by
    rw [hwB]; have := Blk.new (w.alloc (.cells #[.int .i64 a.k, .int .i64 a.w, .int .i64 a.c, .int .i64 a.s, .slice p m cap] 24)) 24 #[.int .i64 0, .int .i64 0, .int .i64 0, .int .i64 0, .slice none 0 0]; rwa [World.size_alloc] at this
  have HB := Lib.hid hb0
  have HQ1 := Lib.hid hq1
  have HQ2 := Lib.hid hq2
  have HWB := Lib.hid hwB
  have HK := Lib.hid hK
  have HZ := Lib.hid hZ
  by_cases h0 : q9 = 0
  · subst h0
    obtain ⟨htr, hhb⟩ := hat rfl
    rw [if_pos rfl] at hRe
    have HR := Lib.hid hRe
    have hd' := (tree_parts htr).2.2
    have hk0 : a.k ≠ 0 := tree_root htr
    rw [all_kid hk0] at hd'
    have HIH : Hid (∀ (j : Nat) (q : Con) (s : Value) (W : World), ks[j]? = some q → KV w Z q.ks s → Below w.heap.size w W → Calls Try.prog 74 #[conV q.a s, .int .i64 c] W (LessR Z q c W)) := fun j q s W hj hs hb => by
      have hq := List.mem_of_getElem? hj
      refine less_c c q Z s W (hs.next hb) (fun b h => Nat.lt_of_lt_of_le (hZ b h) hb.size) ?_ (hfk q hq)
      obtain ⟨l1, l2, e⟩ := List.append_of_mem hq
      rw [e, List.flatMap_append, List.flatMap_cons] at hd'
      simp at hd'; omega
    have HFK := Lib.hid hfk
    have HFA := Lib.hid hfa
    have HM := Lib.hid hm
    clear hR hRe hK hZ hd hd' hf hwB hb0 hq1 hq2 hfk hm hk0 hhb htr hat hq9
    show Calls Try.prog 34 #[.agg #[.int .i64 a.k, .int .i64 a.w, .int .i64 a.c, .int .i64 a.s, .slice p m cap], .int .i64 c] w R
    go_enter Try.func34, Try.ntmps34
    go_wp2_with fail
    rw [← HWB.out]
    refine (HA.out wB HB.out).mono ?_
    rintro e w1 ⟨rfl, hb⟩
    have hb1 := HB.out.trans (hb.mono HB.out.size)
    have hq1 := HQ1.out.next hb
    have hq2 := HQ2.out.next hb
    have hs1 : w.heap.size + 1 + 1 ≤ w1.heap.size := hq2.lt
    clear hb HA
    go_wp2_with fail
    go_loopw [6, 7] (fun v z wr => ∃ i : Nat, i ≤ m ∧ z = .int .i64 i ∧ Below w.heap.size w wr ∧ Blk wr w.heap.size 24 #[.int .i64 a.k, .int .i64 a.w, .int .i64 a.c, .int .i64 a.s, .slice p m cap] ∧ Blk wr (w.heap.size + 1) 24 #[.int .i64 0, .int .i64 0, .int .i64 0, .int .i64 0, .slice none 0 0] ∧ RowF (fun b => Z b ∨ w.heap.size + 1 + 1 ≤ b) (w.heap.size + 1 + 1) (lessL c (ks.take i)) v wr) (fun _ z _ => m - (intOf z).toNat)
    case atStart => exact ⟨0, Nat.zero_le _, rfl, hb1, hq1, hq2, RowF.nil _ _ _⟩
    case round =>
      clear hb1 hq1 hq2 hs1
      obtain ⟨i, hi, rfl, hW, hq1, hq2, hrow⟩ := hrel
      have hsr : w.heap.size + 1 + 1 ≤ wr.heap.size := hq2.lt
      by_cases hlt : i < m
      · obtain ⟨q, hq⟩ : ∃ q, ks[i]? = some q := ⟨_, List.getElem?_eq_getElem (by rw [← HM.out]; exact hlt)⟩
        obtain ⟨-, kb, ko, sq, rfl, -, hkb, -, hkq, c0, c1, c2, c3, c4⟩ := HK.out.kid hq
        have HL := Lib.hid (HIH.out i q sq wr hq hkq hW)
        obtain ⟨pq, kq, rfl, -⟩ := hkq.slice
        obtain ⟨nq, hnq⟩ : ∃ n, n = q.ks.length := ⟨_, rfl⟩
        rw [← hnq] at HL c4
        obtain ⟨c0, c1, c2, c3, c4⟩ := cells5 hW hkb ⟨c0, c1, c2, c3, c4⟩
        obtain ⟨⟨q0, q1, q2, q3, q4⟩, -⟩ := c5 hq1
        obtain ⟨n, hn⟩ : ∃ n, n = (lessL c (ks.take i)).length := ⟨_, rfl⟩
        obtain ⟨pv, cv, rfl⟩ := hrow.slice' hn.symm
        have HSN := Lib.hid (lessL_snoc (c := c) hq)
        have hnm : n ≤ m := by rw [hn]; have := lessL_len c (ks.take i); simp at this; omega
        have HN := Lib.hid hn
        have HRW := Lib.hid hrow
        have HW := Lib.hid hW
        have HQ3 := Lib.hid hq1
        have HQ4 := Lib.hid hq2
        have HSR := Lib.hid hsr
        have HQF := Lib.hid (HFK.out q (List.mem_of_getElem? hq))
        clear hq hkq hnq hn hrow hW hq1 hq2 hsr
        go_wp2_with fail
        refine HL.out.mono ?_
        rintro e w2 ⟨hb, y, s, rfl, hky, hyt⟩
        obtain ⟨py, ky, rfl, -⟩ := hky.slice
        obtain ⟨ny, hny⟩ : ∃ n, n = y.ks.length := ⟨_, rfl⟩
        rw [← hny] at hky ⊢
        have HOL : Hid (∀ g, (Value.slice pv n cv).ownBlock = some g → w.heap.size + 1 + 1 ≤ g ∧ g < wr.heap.size) := fun g hg => by obtain ⟨vs, h1, _⟩ := HRW.out; exact h1.lt g hg
        have HKY := Lib.hid hky
        have HB2 := Lib.hid hb
        cases hl : lessT c q with
        | none =>
          have HSE : Hid (lessL c (ks.take (i + 1)) = lessL c (ks.take i)) := by show _ = _; rw [HSN.out, hl]; simp
          clear hky hyt hny hb hl
          go_wp2_with fail
          have hb3 := HB2.out.alloc HB2.out.size (.cells #[.int .i64 y.a.k, .int .i64 y.a.w, .int .i64 y.a.c, .int .i64 y.a.s, .slice py ny ky] 24)
          obtain ⟨w3, hw3⟩ : ∃ w3, w3 = w2.alloc (.cells #[.int .i64 y.a.k, .int .i64 y.a.w, .int .i64 y.a.c, .int .i64 y.a.s, .slice py ny ky] 24) := ⟨_, rfl⟩
          rw [← hw3] at hb3 ⊢
          refine ⟨⟨i + 1, by omega, by go_num, HW.out.trans (hb3.mono HW.out.size), HQ3.out.next hb3, HQ4.out.next hb3, ?_⟩, by simp [intOf]; omega⟩
          rw [HSE.out]
          exact HRW.out.next hb3
        | some t =>
          have HSE : Hid (lessL c (ks.take (i + 1)) = lessL c (ks.take i) ++ [t]) := by show _ = _; rw [HSN.out, hl]; simp
          have hyt := hyt t hl
          subst hyt
          have HYF := Lib.hid (lessT_fine c q y HQF.out hl)
          obtain ⟨w4, hw4⟩ : ∃ w4, w4 = (w2.alloc (.cells #[.int .i64 y.a.k, .int .i64 y.a.w, .int .i64 y.a.c, .int .i64 y.a.s, .slice py ny ky] 24)).alloc (.cells #[.int .i64 y.a.k, .int .i64 y.a.w, .int .i64 y.a.c, .int .i64 y.a.s, .slice py ny ky] 24) := ⟨_, rfl⟩
          have hb4 : Below wr.heap.size wr w4 := by rw [hw4]; exact (hb.alloc hb.size _).alloc (by have := hb.size; simp; omega) _
          have hq4 : Blk w4 (w2.heap.size + 1) 24 #[.int .i64 y.a.k, .int .i64 y.a.w, .int .i64 y.a.c, .int .i64 y.a.s, .slice py ny ky] := by
            rw [hw4]; have := Blk.new (w2.alloc (.cells #[.int .i64 y.a.k, .int .i64 y.a.w, .int .i64 y.a.c, .int .i64 y.a.s, .slice py ny ky] 24)) 24 #[.int .i64 y.a.k, .int .i64 y.a.w, .int .i64 y.a.c, .int .i64 y.a.s, .slice py ny ky]; rwa [World.size_alloc] at this
          have hb24 : Below w2.heap.size w2 w4 := by rw [hw4]; exact ((Below.refl _ _).alloc (Nat.le_refl _) _).alloc (by simp) _
          have HR4 := Lib.hid (HRW.out.next hb4)
          have HK4 : Hid (KV w4 (fun b => (Z b ∨ w.heap.size + 1 + 1 ≤ b) ∧ some b ≠ (Value.slice pv n cv).ownBlock) [y] (.slice (some ⟨w2.heap.size + 1, 0, none⟩) 1 1)) := by
            refine KV.single hq4 ⟨.inr (by have := HB2.out.size; have := HSR.out; omega), fun e => by have := (HOL.out _ e.symm).2; have := HB2.out.size; omega⟩ ((hky.next hb24).weak fun b hz => ?_) (HYF.out [] y rfl).1
            rcases hz with hz | hz
            · exact ⟨.inl hz, fun e => by have := (HOL.out _ e.symm).1; have := HZ.out b hz; omega⟩
            · exact ⟨.inr (by have := HSR.out; omega), fun e => by have := (HOL.out _ e.symm).2; omega⟩
          have HLN : Hid ((lessL c (ks.take i)).length + [y].length ≤ 1000000) := by show _ ≤ _; rw [← HN.out]; simp; omega
          have HS4 : Hid (w.heap.size + 1 + 1 ≤ w4.heap.size) := by show _ ≤ _; exact Nat.le_trans HSR.out hb4.size
          have HW4 := Lib.hid hw4
          have HB4 := Lib.hid (HW.out.trans (hb4.mono HW.out.size))
          have HQ5 := Lib.hid (HQ3.out.next hb4)
          have HQ6 := Lib.hid (HQ4.out.next hb4)
          clear hky hny hb hl hw4 hb4 hq4 hb24
          go_wp2_with (at_builtin; rw [← HW4.out]; (refine list_appF rfl (.tmp 36) (.tmp 38) rfl (fun b => Z b ∨ w.heap.size + 1 + 1 ≤ b) (w.heap.size + 1 + 1) (.slice pv n cv) (.slice (some ⟨w2.heap.size + 1, 0, none⟩) 1 1) (lessL c (ks.take i)) [y] rfl rfl HR4.out HK4.out HLN.out HS4.out ?_; intro v7 w7 hr7 hb7; have HR7 := Lib.hid hr7; have HB7 := Lib.hid hb7; clear hr7 hb7))
          refine ⟨⟨i + 1, by omega, by go_num, HB4.out.trans (HB7.out.mono (Nat.le_add_right _ 2)), HQ5.out.below HB7.out (by omega), HQ6.out.below HB7.out (by omega), ?_⟩, by simp [intOf]; omega⟩
          rw [HSE.out]
          exact HR7.out
      · have hL : lessL c (ks.take i) = lessL c ks := by rw [List.take_of_length_le (by have := HM.out; omega)]
        rw [hL] at hrow
        obtain ⟨l, hl⟩ : ∃ l, l = lessL c ks := ⟨_, rfl⟩
        rw [← hl] at hrow
        have HPT := Lib.hid hl
        have HLF : Hid (∀ y ∈ l, fine y) := by rw [hl]; exact lessL_fine HFK.out
        have hlm : l.length ≤ 100000 := by rw [hl]; have := lessL_len c ks; have := HM.out; omega
        obtain ⟨n, hn⟩ : ∃ n, n = l.length := ⟨_, rfl⟩
        obtain ⟨pv, cv, rfl⟩ := hrow.slice' hn.symm
        rw [← hn] at hlm
        have HN := Lib.hid hn
        have HRW := Lib.hid hrow
        have HWr := Lib.hid hW
        have HQ3 := Lib.hid hq1
        have HQ4 := Lib.hid hq2
        obtain ⟨⟨q0, q1, q2, q3, q4⟩, ⟨e0, e1, e2, e3, e4⟩⟩ := c5 hq1
        obtain ⟨⟨r0, r1, r2, r3, r4⟩, ⟨f0, f1, f2, f3, f4⟩⟩ := c5 hq2
        clear hL hl hn hrow hW hq1 hq2
        go_wp2_with fail
        have hsame : ∀ b, ((Z b ∨ w.heap.size + 1 + 1 ≤ b) ∨ w.heap.size + 1 + 1 ≤ b) → (wr.setCell ⟨w.heap.size, 4, none⟩ (.slice pv n cv)).heap[b]? = wr.heap[b]? := fun b hb => Below.heap_setCell wr ⟨w.heap.size, 4, none⟩ _ b (by
          show b ≠ w.heap.size
          rcases hb with (hb | hb) | hb
          · have := HZ.out b hb; omega
          · omega
          · omega)
        have hkl := (HRW.out.same (w' := wr.setCell ⟨w.heap.size, 4, none⟩ (.slice pv n cv)) (by simp [World.setCell]) hsame).kv (fun y hy => (HLF.out y hy [] y rfl).1) (by rw [← HN.out]; omega)
        obtain ⟨hb5, hq5, -⟩ := st5_next (HWr.out.setCell (p := ⟨w.heap.size, 4, none⟩) (Nat.le_refl _) (.slice pv n cv)) (by omega) (HQ4.out.far (p := ⟨w.heap.size, 4, none⟩) (by simp) (.slice pv n cv)) (.int .i64 a.k) (.int .i64 a.w) (.int .i64 a.c) (.int .i64 a.s) (.slice pv n cv)
        have hk5 := KV.st5 (g := w.heap.size + 1) (Z' := fun b => Z b ∨ w.heap.size ≤ b) hkl (fun b hb => by rcases hb with (hb | hb) | hb; (have := HZ.out b hb; omega); omega; omega) (fun b hb => by rcases hb with (hb | hb) | hb; exact .inl hb; (right; omega); (right; omega)) (.int .i64 a.k) (.int .i64 a.w) (.int .i64 a.c) (.int .i64 a.s) (.slice pv n cv)
        obtain ⟨w5, hw5⟩ : ∃ w5, w5 = st5 (wr.setCell ⟨w.heap.size, 4, none⟩ (.slice pv n cv)) (w.heap.size + 1) (.int .i64 a.k) (.int .i64 a.w) (.int .i64 a.c) (.int .i64 a.s) (.slice pv n cv) := ⟨_, rfl⟩
        rw [← hw5] at hb5 hq5 hk5
        unfold st5 at hw5
        rw [← hw5]
        obtain ⟨⟨b0, b1, b2, b3, b4⟩, -⟩ := c5 hq5
        exact bodyPost_ret (v := .tuple #[.agg #[.int .i64 a.k, .int .i64 a.w, .int .i64 a.c, .int .i64 a.s, .slice pv n cv], .int .i64 0]) (by simp [results, Try.results34, go_sem, b0, b1, b2, b3, b4]) rfl ((HR.out _ _).2 ⟨hb5, .mk a l, .slice pv n cv, rfl, hk5, (by rw [if_pos rfl, HPT.out]; rfl)⟩)
  · rw [if_neg h0] at hRe
    have HR := Lib.hid hRe
    have hne : (q9 == 0) = false := by simpa using h0
    have HN0 := Lib.hid h0
    clear hR hRe hK hZ hd hf hwB hb0 hq1 hq2 hfk hm hat hq9 h0
    show Calls Try.prog 34 #[.agg #[.int .i64 a.k, .int .i64 a.w, .int .i64 a.c, .int .i64 a.s, .slice p m cap], .int .i64 c] w R
    go_enter Try.func34, Try.ntmps34
    go_wp2_with fail
    rw [← HWB.out]
    refine (HA.out wB HB.out).mono ?_
    rintro e w1 ⟨rfl, hb⟩
    have HB1 := Lib.hid (HB.out.trans (hb.mono HB.out.size))
    have HQ3 := Lib.hid (HQ2.out.next hb)
    obtain ⟨⟨q0, q1, q2, q3, q4⟩, -⟩ := c5 (HQ1.out.next hb)
    clear hb
    go_wp2_with fail
    refine (HA.out w1 HB1.out).mono ?_
    rintro e w2 ⟨rfl, hb⟩
    have HB2 := Lib.hid (HB1.out.trans (hb.mono HB1.out.size))
    have HQ4 := Lib.hid (HQ3.out.next hb)
    obtain ⟨⟨r0, r1, r2, r3, r4⟩, ⟨f0, f1, f2, f3, f4⟩⟩ := c5 HQ4.out
    clear hb q0 q1 q2 q3 q4
    go_wp2_with fail
    obtain ⟨hb5, hq5, -⟩ := st5_next HB2.out (by omega) HQ4.out (.int .i64 0) (.int .i64 0) (.int .i64 0) (.int .i64 0) (.slice none 0 0)
    have hk5 := KV.st5 (g := w.heap.size + 1) (Z' := fun b => Z b ∨ w.heap.size ≤ b) (KV.nil w2 Z none 0) (fun b hb => by have := HZ.out b hb; omega) (fun b hb => .inl hb) (.int .i64 0) (.int .i64 0) (.int .i64 0) (.int .i64 0) (.slice none 0 0)
    obtain ⟨w5, hw5⟩ : ∃ w5, w5 = st5 w2 (w.heap.size + 1) (.int .i64 0) (.int .i64 0) (.int .i64 0) (.int .i64 0) (.slice none 0 0) := ⟨_, rfl⟩
    rw [← hw5] at hb5 hq5 hk5
    unfold st5 at hw5
    rw [← hw5]
    obtain ⟨⟨b0, b1, b2, b3, b4⟩, -⟩ := c5 hq5
    exact bodyPost_ret (v := .tuple #[.agg #[.int .i64 0, .int .i64 0, .int .i64 0, .int .i64 0, .slice none 0 0], .int .i64 q9]) (by simp [results, Try.results34, go_sem, b0, b1, b2, b3, b4]) rfl ((HR.out _ _).2 ⟨hb5, zeroT, .slice none 0 0, rfl, hk5, (by rw [if_neg HN0.out])⟩)
end Go.Proofs.Ytjlkmcoamcclgaa.Co
end
section
namespace Go.Proofs.Ytjlkmcoamcclgaa.Co
open Go.RowKit Go.Shelf Go.Maps
theorem own_lo {w : World} {B : Nat} {T : TypeId} {v : Value} {k s : Nat} {xs : List Value} (h : w.ownsRow (B + 1) T s v k xs) {b : Nat} {o : Nat} {n cp : Nat} (e : v = .slice (some ⟨b, o, none⟩) n cp) : B < b := by
  obtain ⟨-, h2⟩ := h
  rcases h2 with ⟨rfl, -⟩ | ⟨g, cap, cur, rfl, h4, -⟩
  · cases e
  · injection e with e1 e2 e3
    injection e1 with e1
    injection e1 with e1 e4 e5
    omega
/-- What is found. -/
def FindE (x : Con) (c : Int) (w : World) (e : Ending) (w' : World) : Prop :=
  Below w.heap.size w w' ∧ ((findI x c = none ∧ e = .returned (.tuple #[.slice none 0 0, .bool false])) ∨ ∃ u v, findI x c = some u ∧ e = .returned (.tuple #[v, .bool true]) ∧ WI w' u v ∧ ∀ b o n cp, v = .slice (some ⟨b, o, none⟩) n cp → w.heap.size < b)
set_option maxHeartbeats 2000000 in
theorem FindRE_c (Z : Nat → Prop) (x : Con) (sv : Value) (c : Int) (w : World) (hK : KV w Z x.ks sv) (hd : (all x).length ≤ 1000000) (hZ : ∀ b, Z b → b < w.heap.size) :
    Calls Try.prog 25 #[conV x.a sv, .int .i64 c] w (FindE x c w) := by
  obtain ⟨p, cap, rfl, -⟩ := hK.slice
  obtain ⟨m, hm⟩ : ∃ m, m = x.ks.length := ⟨_, rfl⟩
  rw [← hm] at hK ⊢
  obtain ⟨R, hR⟩ : ∃ R, R = FindE x c w := ⟨_, rfl⟩
  have hRe : ∀ e w', R e w' ↔ FindE x c w e w' := by rw [hR]; exact fun _ _ => Iff.rfl
  rw [← hR]
  have HR := Lib.hid hRe
  obtain ⟨wB, hwB⟩ : ∃ wB, wB = w.alloc (.cells #[.int .i64 x.a.k, .int .i64 x.a.w, .int .i64 x.a.c, .int .i64 x.a.s, .slice p m cap] 24) := ⟨_, rfl⟩
  have hb0 : Below w.heap.size w wB := by rw [hwB]; exact (Below.refl w.heap.size w).alloc (Nat.le_refl _) _
  have hq0 : Blk wB w.heap.size 24 #[.int .i64 x.a.k, .int .i64 x.a.w, .int .i64 x.a.c, .int .i64 x.a.s, .slice p m cap] := by rw [hwB]; exact Blk.new _ _ _
  have HS := Lib.hid (CheckR_c Z x (.slice p m cap) wB (hK.next hb0) hd (fun b hb => Nat.lt_of_lt_of_le (hZ b hb) hb0.size))
  have HI := Lib.hid (fun (w1 : World) (h : Below wB.heap.size wB w1) => Has_c Z x (.slice p m cap) c w1 ((hK.next hb0).next h) hd (fun b hb => Nat.lt_of_lt_of_le (Nat.lt_of_lt_of_le (hZ b hb) hb0.size) h.size))
  have HB := Lib.hid hb0
  have HQ := Lib.hid hq0
  have HWB := Lib.hid hwB
  have HSB : Hid (w.heap.size < wB.heap.size) := hq0.lt
  cases ht : treeB x
  · have HT : Hid (findI x c = none) := by show _ = _; unfold findI; rw [if_neg (by rw [ht]; simp)]
    rw [checkI_eq, if_pos ht] at HS
    clear hm hR hRe hb0 hK hZ hd ht hwB hq0 HI
    show Calls Try.prog 25 #[.agg #[.int .i64 x.a.k, .int .i64 x.a.w, .int .i64 x.a.c, .int .i64 x.a.s, .slice p m cap], .int .i64 c] w R
    go_enter Try.func25, Try.ntmps25
    go_wp2_with fail
    rw [← HWB.out]
    refine HS.out.mono ?_
    rintro e w1 ⟨rfl, hb⟩
    have HB1 := Lib.hid (HB.out.trans (hb.mono HB.out.size))
    clear hb
    go_wp2_with fail
    exact (HR.out _ _).2 ⟨HB1.out, .inl ⟨HT.out, rfl⟩⟩
  · rw [checkI_eq, if_neg (by rw [ht]; simp)] at HS
    rcases findI_spec (c := c) ht with ⟨hhb, hfi⟩ | ⟨hhb, u, hw, hfi⟩
    · rw [hhb] at HI
      have HT := Lib.hid hfi
      clear hm hR hRe hb0 hK hZ hd ht hwB hq0 hhb hfi
      show Calls Try.prog 25 #[.agg #[.int .i64 x.a.k, .int .i64 x.a.w, .int .i64 x.a.c, .int .i64 x.a.s, .slice p m cap], .int .i64 c] w R
      go_enter Try.func25, Try.ntmps25
      go_wp2_with fail
      rw [← HWB.out]
      refine HS.out.mono ?_
      rintro e w1 ⟨rfl, hb⟩
      have HB1 := Lib.hid (HB.out.trans (hb.mono HB.out.size))
      have HI1 := Lib.hid (HI.out w1 hb)
      obtain ⟨⟨q0, q1, q2, q3, q4⟩, -⟩ := c5 (HQ.out.next hb)
      clear hb HI
      go_wp2_with fail
      refine HI1.out.mono ?_
      rintro e w2 ⟨rfl, hb⟩
      have HB2 := Lib.hid (HB1.out.trans (hb.mono HB1.out.size))
      clear hb q0 q1 q2 q3 q4
      go_wp2_with fail
      exact (HR.out _ _).2 ⟨HB2.out, .inl ⟨HT.out, rfl⟩⟩
    · rw [hhb] at HI
      have HT := Lib.hid hfi
      have HTR := Lib.hid ht
      have HWY := Lib.hid hw
      have HK := Lib.hid hK
      have HZ := Lib.hid hZ
      obtain ⟨n, hn⟩ : ∃ n, n = u.length := ⟨_, rfl⟩
      have HN := Lib.hid hn
      have HL8 : Hid (n ≤ 8) := by
        show _ ≤ _
        obtain ⟨v, j0, p0, l0, _, _, _, _, _, h6⟩ := hw
        have := (shape_tree_kids ht h6).1
        rw [hn]
        obtain ⟨a, ks⟩ := l0
        simp only [shape, Bool.and_eq_true] at this
        have h7 := this.1
        unfold soundB at h7
        split at h7
        · cases h7
        · rename_i hh; omega
      clear hm hR hRe hb0 hK hZ hd ht hwB hq0 hhb hfi hw hn
      show Calls Try.prog 25 #[.agg #[.int .i64 x.a.k, .int .i64 x.a.w, .int .i64 x.a.c, .int .i64 x.a.s, .slice p m cap], .int .i64 c] w R
      go_enter Try.func25, Try.ntmps25
      go_wp2_with fail
      rw [← HWB.out]
      refine HS.out.mono ?_
      rintro e w1 ⟨rfl, hb⟩
      have HB1 := Lib.hid (HB.out.trans (hb.mono HB.out.size))
      have HI1 := Lib.hid (HI.out w1 hb)
      have HQ1 := Lib.hid (HQ.out.next hb)
      obtain ⟨⟨q0, q1, q2, q3, q4⟩, -⟩ := c5 (HQ.out.next hb)
      clear hb HI HS
      go_wp2_with fail
      refine HI1.out.mono ?_
      rintro e w2 ⟨rfl, hb⟩
      have HB2 := Lib.hid (HB1.out.trans (hb.mono HB1.out.size))
      have hq2 := HQ1.out.next hb
      clear hb q0 q1 q2 q3 q4 HI1 HQ1
      go_wp2_with fail
      go_loopw [6] (fun v wr => ∃ k : Nat, k ≤ n ∧ Below w.heap.size w wr ∧ wr.ownsRow (w.heap.size + 1) 3 1 v k (wayV (u.take k)) ∧ ∃ (y' : Con) (s' : Value), Asd (get x (u.take k) = some y') ∧ KV w Z y'.ks s' ∧ Blk wr w.heap.size 24 #[.int .i64 y'.a.k, .int .i64 y'.a.w, .int .i64 y'.a.c, .int .i64 y'.a.s, s']) (fun v _ => match v with | .slice _ l _ => n - l | _ => 0)
      case atStart => exact ⟨0, Nat.zero_le _, HB2.out, World.ownsRow_nil _ _ _ _, x, .slice p m cap, rfl, HK.out, hq2⟩
      case round =>
        clear hq2 HB2
        obtain ⟨wo, hwo⟩ : ∃ wo, wo = wr := ⟨_, rfl⟩
        subst hwo
        obtain ⟨k, hk, hWr, hrow, y', s', hy', hk', hq⟩ := hrel
        have HY := Lib.hid (show get x (u.take k) = some y' from hy')
        obtain ⟨pr, cr, rfl⟩ := row_slice hrow
        obtain ⟨pk, ck, rfl, -⟩ := hk'.slice
        obtain ⟨mk, hmk⟩ : ∃ q, q = y'.ks.length := ⟨_, rfl⟩
        rw [← hmk] at hk' hq
        clear hy'
        by_cases hlt : k < n
        · obtain ⟨i, hi⟩ : ∃ i, u[k]? = some i := ⟨_, List.getElem?_eq_getElem (by rw [← HN.out]; exact hlt)⟩
          obtain ⟨v0, j0, p0, l0, _, _, _, _, _, h6⟩ := HWY.out
          obtain ⟨y2, z, h1, h2, h3⟩ := get_step h6 hi
          rw [HY.out] at h1
          have h1 := Option.some.inj h1
          subst h1
          obtain ⟨hkk, hzc, hno⟩ := way_step HTR.out HWY.out hi HY.out h2
          have hil : i < mk := by rw [hmk]; exact (List.getElem?_eq_some_iff.1 h2).1
          have hke : (y'.a.k == 0) = false := by simpa using hkk
          have hil64 : i ≤ 1152921504606846976 := by have := hk'.slice; obtain ⟨_, _, e, h⟩ := this; injection e with e1 e2 e3; omega
          obtain ⟨-, kb, ko, s2, rfl, hzb, hb1, -, hk2, c0, c1, c2, c3, c4⟩ := hk'.kid h2
          obtain ⟨p2, k2, rfl, -⟩ := hk2.slice
          obtain ⟨n2, hn2⟩ : ∃ q, q = z.ks.length := ⟨_, rfl⟩
          rw [← hn2] at hk2 c4
          have HCELL : Hid (∀ (j : Nat) (q : Con) (W : World), y'.ks[j]? = some q → Below w.heap.size w W → ∃ sq, KV w Z q.ks sq ∧ (W.cell? ⟨kb, ko + j * 5, none⟩ = some (.int .i64 q.a.k) ∧ W.cell? ⟨kb, ko + j * 5 + 1, none⟩ = some (.int .i64 q.a.w) ∧ W.cell? ⟨kb, ko + j * 5 + 2, none⟩ = some (.int .i64 q.a.c) ∧ W.cell? ⟨kb, ko + j * 5 + 3, none⟩ = some (.int .i64 q.a.s) ∧ W.cell? ⟨kb, ko + j * 5 + 4, none⟩ = some sq)) := fun j q W hj hb => by
            obtain ⟨-, kb', ko', sq, e, _, hb1', -, hq2, d0, d1, d2, d3, d4⟩ := hk'.kid hj
            injection e with e
            injection e with e1 e2
            subst e1 e2
            exact ⟨sq, hq2, cells5 hb hb1' ⟨d0, d1, d2, d3, d4⟩⟩
          have HHAS : Hid (∀ (j : Nat) (q : Con) (sq : Value) (W : World), y'.ks[j]? = some q → Below w.heap.size w W → KV w Z q.ks sq → Calls Try.prog 52 #[conV q.a sq, .int .i64 c] W fun e w' => e = .returned (.bool (decide (j = i))) ∧ Below W.heap.size W w') := fun j q sq W hj hb hkq => by
            have hgq : get x (u.take k ++ [j]) = some q := by
              rw [get_append _ HY.out]; obtain ⟨a, ks⟩ := y'; rw [get_consI (show ks[j]? = some q from hj)]; rfl
            have hval : hasB q c = decide (j = i) := by
              by_cases hji : j = i
              · subst hji; rw [h2] at hj; have hj := Option.some.inj hj; subst hj; simpa using hzc
              · rw [hno j q hj hji]; simpa using hji
            rw [← hval]
            exact Has_c Z q sq c W (hkq.next hb) (Nat.le_trans (all_tree_len HTR.out hgq) (by omega)) (fun b h => Nat.lt_of_lt_of_le (HZ.out b h) hb.size)
          have HSOME : Hid (∀ j, j ≤ i → ∃ q, y'.ks[j]? = some q) := fun j hj => ⟨_, List.getElem?_eq_getElem (by rw [← hmk]; omega)⟩
          have H2 := Lib.hid h2
          have H3 := Lib.hid h3
          have HI9 := Lib.hid hi
          have HWr := Lib.hid hWr
          have HRW := Lib.hid hrow
          have HQr := Lib.hid hq
          have HK2 := Lib.hid hk2
          obtain ⟨⟨q0, q1, q2, q3, q4⟩, -⟩ := c5 hq
          clear hmk hkk hzc hno hk' h2 h3 hi hWr hrow hq hk2 hn2 c0 c1 c2 c3 c4 h6 hzb
          go_wp2_with fail
          go_loopw [7] (fun z wq => ∃ j : Nat, j ≤ i ∧ z = .int .i64 j ∧ Below wo.heap.size wo wq) (fun z _ => i - (intOf z).toNat)
          case atStart => exact ⟨0, Nat.zero_le _, rfl, Below.refl _ _⟩
          case round =>
            clear q0 q1 q2 q3 q4
            obtain ⟨j, hj, rfl, hbq⟩ := hrel
            have hWq := HWr.out.trans (hbq.mono HWr.out.size)
            obtain ⟨q9, hq9⟩ := HSOME.out j hj
            obtain ⟨sq, hkq, c0, c1, c2, c3, c4⟩ := HCELL.out j q9 wr hq9 hWq
            have HH := Lib.hid (HHAS.out j q9 sq wr hq9 hWq hkq)
            obtain ⟨p9, k9, rfl, -⟩ := hkq.slice
            obtain ⟨n9, hn9⟩ : ∃ q, q = q9.ks.length := ⟨_, rfl⟩
            rw [← hn9] at HH c4
            obtain ⟨⟨q0, q1, q2, q3, q4⟩, -⟩ := c5 (HQr.out.next hbq)
            have hjm : j < mk := by omega
            have HBQ := Lib.hid hbq
            have HWQ := Lib.hid hWq
            clear hn9 hkq hbq hWq hq9
            by_cases hji : j = i
            · rw [decide_eq_true hji] at HH
              subst hji
              go_wp2_with fail
              refine HH.out.mono ?_
              rintro e wz ⟨rfl, hb⟩
              have hBz := HBQ.out.trans (hb.mono HBQ.out.size)
              have hWz := HWr.out.trans (hBz.mono HWr.out.size)
              obtain ⟨i0, hi0, hz0, hz1, hz2⟩ := int_info
              obtain ⟨wA, hwA⟩ : ∃ wA, wA = wz.alloc (.cells #[.int .i64 (j : Int)] 3) := ⟨_, rfl⟩
              have hbA : Below wz.heap.size wz wA := by rw [hwA]; exact (Below.refl _ _).alloc (Nat.le_refl _) _
              have hnews : ∀ q v, [Value.int .i64 (j : Int)][q]? = some v → wA.cell? ((⟨wz.heap.size, 0, none⟩ : Addr).add q) = some v := by
                rw [hwA]; exact World.news_of_block (Blk.new wz 3 #[.int .i64 (j : Int)]).raw
              have hbrA := hBz.trans (hbA.mono hBz.size)
              have HO := Lib.hid (row_same' HRW.out fun b hb' => hbrA.block b (HRW.out.lt b hb').2)
              have HWA := Lib.hid hwA
              have HNW := Lib.hid hnews
              have hsA : w.heap.size + 1 ≤ wA.heap.size := Nat.le_trans (HQr.out.lt) hbrA.size
              have HSA := Lib.hid hsA
              have HQA := Lib.hid (HQr.out.next hbrA)
              have HBA := Lib.hid (HWr.out.trans (hbrA.mono HWr.out.size))
              have hk9 : k ≤ 8 := by have := HL8.out; omega
              clear hb hBz hWz hwA hbA hnews hbrA hsA c0 c1 c2 c3 c4 q0 q1 q2 q3 q4 HH
              go_wp2_with (at_builtin; rw [← HWA.out]; (refine wpList_append_lies _ rfl (.tmp 30) (.tmp 32) 34 rfl (w.heap.size + 1) 3 i0 (.int .i64 0) 1 8 Try.underlying34 hi0 hz0 hz1 hz2 rfl (by decide) _ k _ rfl HO.out ⟨_, 0, none⟩ 1 1 [.int .i64 (j : Int)] rfl rfl HNW.out (by simp [Value.oneCell']) (by decide) (by unfold maxLen; omega) (by omega) HSA.out _ rfl ?_; intro g7 cap7 w7 ho7 hg7 hh7 _; have HO7 := Lib.hid ho7; have HG7 : Hid (Below (w.heap.size + 1) wA w7) := ⟨hg7.os, hg7.tape, hg7.output, hg7.size, fun b hb => hg7.block b (Nat.lt_of_lt_of_le hb HSA.out) (fun e => by have := (HO.out.lt b e.symm).1; omega)⟩; have HB7 := Lib.hid (HBA.out.trans (HG7.out.mono (Nat.le_succ _))); have HQ7 := Lib.hid (HQA.out.below HG7.out (Nat.lt_succ_self _)); obtain ⟨⟨q0, q1, q2, q3, q4⟩, ⟨f0, f1, f2, f3, f4⟩⟩ := c5 HQ7.out; obtain ⟨sz, hkz, c0, c1, c2, c3, c4⟩ := HCELL.out j z w7 H2.out HB7.out; obtain ⟨pz, kz, rfl, -⟩ := hkz.slice; obtain ⟨nz, hnz⟩ : ∃ q, q = z.ks.length := ⟨_, rfl⟩; rw [← hnz] at c4 hkz; have HKZ := Lib.hid hkz; clear ho7 hg7 hh7 hkz hnz))
              obtain ⟨hb5, hq5, -⟩ := st5_next HB7.out (Nat.le_refl _) HQ7.out (.int .i64 z.a.k) (.int .i64 z.a.w) (.int .i64 z.a.c) (.int .i64 z.a.s) (.slice pz nz kz)
              have ho5 := row_same' (w' := st5 w7 w.heap.size (.int .i64 z.a.k) (.int .i64 z.a.w) (.int .i64 z.a.c) (.int .i64 z.a.s) (.slice pz nz kz)) HO7.out fun b hb' => far_st5 w7 w.heap.size (.int .i64 z.a.k) (.int .i64 z.a.w) (.int .i64 z.a.c) (.int .i64 z.a.s) (.slice pz nz kz) b (by have := (HO7.out.lt b hb').1; omega)
              obtain ⟨w5, hw5⟩ : ∃ w5, w5 = st5 w7 w.heap.size (.int .i64 z.a.k) (.int .i64 z.a.w) (.int .i64 z.a.c) (.int .i64 z.a.s) (.slice pz nz kz) := ⟨_, rfl⟩
              rw [← hw5] at hb5 hq5 ho5
              unfold st5 at hw5
              rw [← hw5]
              have e : wayV (u.take (k + 1)) = wayV (u.take k) ++ [.int .i64 (j : Int)] := by rw [take_snoc HI9.out]; simp [wayV]
              refine ⟨⟨k + 1, by omega, hb5, ?_, z, .slice pz nz kz, H3.out, HKZ.out, hq5⟩, ?_⟩
              · rw [e]; exact ho5
              · show n - (k + 1) < n - k
                omega
            · rw [decide_eq_false hji] at HH
              go_wp2_with fail
              refine HH.out.mono ?_
              rintro e wz ⟨rfl, hb⟩
              have hBz := HBQ.out.trans (hb.mono HBQ.out.size)
              clear hb
              go_wp2_with fail
              exact ⟨⟨j + 1, by omega, by go_num, hBz⟩, by simp [intOf]; omega⟩
        · have hkn : k = n := by omega
          subst hkn
          obtain ⟨v0, j0, p0, l0, _, _, _, h3, _, h6⟩ := HWY.out
          have hl : y' = l0 := by
            have h := HY.out
            rw [List.take_of_length_le (by have := HN.out; omega), h6] at h
            exact (Option.some.inj h).symm
          subst hl
          have hke : (y'.a.k == 0) = true := by simpa using h3
          have HRW := Lib.hid hrow
          have HWr := Lib.hid hWr
          obtain ⟨⟨q0, q1, q2, q3, q4⟩, -⟩ := c5 hq
          clear hrow hWr hq hk' hmk h3 h6
          go_wp2_with fail
          refine (HR.out _ _).2 ⟨HWr.out, .inr ⟨u, _, HT.out, rfl, ?_, fun b o nn cp e => own_lo HRW.out e⟩⟩
          have h := HRW.out
          rw [List.take_of_length_le (by have := HN.out; omega)] at h
          exact WI.of_row h HN.out (by have := HL8.out; have := HN.out; omega)
end Go.Proofs.Ytjlkmcoamcclgaa.Co
end
section
namespace Go.Proofs.Ytjlkmcoamcclgaa.Co
open Go.RowKit Go.Shelf Go.Maps
theorem tree_kids_len {x y : Con} {u : List Nat} (h : treeB x = true) (hy : get x u = some y) : y.ks.length ≤ 64 := by
  have hs := (shape_tree_kids h hy).1
  obtain ⟨a, ks⟩ := y
  simp only [shape, Bool.and_eq_true] at hs
  have h1 := hs.1
  unfold soundB at h1
  split at h1
  · cases h1
  · split at h1
    · have := of_decide_eq_true h1; omega
    · have := of_decide_eq_true h1; omega
theorem insertI_six {x : Con} {near c se : Int} (h1 : treeB x = true) (h2 : hasB x c = false) (h3 : ¬ (c < 1 ∨ se < 0)) (h4 : near ≠ 0 ∧ hasB x near = false) : insertI x near c se = (zeroT, 6) := by
  unfold insertI; rw [if_neg (by rw [h1]; simp), if_neg (by rw [h2]; simp), if_neg h3, if_pos h4]
theorem insertI_at {x : Con} {near c se : Int} (h1 : treeB x = true) (h2 : hasB x c = false) (h3 : ¬ (c < 1 ∨ se < 0)) (h4 : ¬ (near ≠ 0 ∧ hasB x near = false)) {v : List Nat} {fr : Nat} {pp : Con} (hs : insSpot x near = (v, fr)) (hg : get x v = some pp) :
    insertI x near c se = if pp.ks.length = 64 ∨ (all x).length = 128 then (zeroT, 2) else (put x v (.mk pp.a (pp.ks.take fr ++ leafC c se :: pp.ks.drop fr)), 0) := by
  unfold insertI; rw [if_neg (by rw [h1]; simp), if_neg (by rw [h2]; simp), if_neg h3, if_neg h4, hs]; simp only [hg]
theorem WI.last {w : World} {v : List Nat} {j : Nat} {p : Option Addr} {n c : Nat} (h : WI w (v ++ [j]) (.slice p n c)) : ∃ b o, p = some ⟨b, o, none⟩ ∧ b < w.heap.size ∧ w.cell? ⟨b, o + v.length, none⟩ = some (.int .i64 (j : Int)) := by
  obtain ⟨p', c', he, -, -, hcl⟩ := h
  injection he with e1 e2 e3
  subst e1
  exact hcl v.length j (by simp)
/-- A way without its last, and that last. -/
def Wv (w : World) (v : List Nat) (u : Value) (b a : Nat) (z : Int) : Prop := WI w v u ∧ b < w.heap.size ∧ w.cell? ⟨b, a, none⟩ = some (.int .i64 z)
theorem Wv.next {w w' : World} {v : List Nat} {u : Value} {b a : Nat} {z : Int} (h : Wv w v u b a z) (hb : Below w.heap.size w w') : Wv w' v u b a z := ⟨h.1.next hb, Nat.lt_of_lt_of_le h.2.1 hb.size, (cell_same (hb.block b h.2.1) _).trans h.2.2⟩
set_option maxHeartbeats 8000000 in
set_option maxRecDepth 100000 in
theorem InsertR_c (near c se : Int) (x : Con) (Z : Nat → Prop) (sv : Value) (w : World) (hK : KV w Z x.ks sv) (hZ : ∀ b, Z b → b < w.heap.size) (hd : (all x).length ≤ 1000000) (hf : fine x) (hc : I64 c) (hse : I64 se) :
    Calls Try.prog 32 #[conV x.a sv, .int .i64 near, .int .i64 c, .int .i64 se] w (DocR Z (insertI x near c se) w) := by
  obtain ⟨p, cap, rfl, -⟩ := hK.slice
  obtain ⟨m, hm⟩ : ∃ m, m = x.ks.length := ⟨_, rfl⟩
  rw [← hm] at hK ⊢
  obtain ⟨R, hR⟩ : ∃ R, R = DocR Z (insertI x near c se) w := ⟨_, rfl⟩
  have hRe : ∀ e w', R e w' ↔ DocR Z (insertI x near c se) w e w' := by rw [hR]; exact fun _ _ => Iff.rfl
  rw [← hR]
  have hm9 : m ≤ 100000 := by rw [hm]; exact (hf [] x rfl).2
  have HC := Lib.hid (fun (W : World) (h : Below w.heap.size w W) => CheckR_c Z x (.slice p m cap) W (hK.next h) hd (fun b hb => Nat.lt_of_lt_of_le (hZ b hb) h.size))
  have HH := Lib.hid (fun (W : World) (h : Below w.heap.size w W) => Has_c Z x (.slice p m cap) c W (hK.next h) hd (fun b hb => Nat.lt_of_lt_of_le (hZ b hb) h.size))
  have HF := Lib.hid (fun (W : World) (h : Below w.heap.size w W) => FindRE_c Z x (.slice p m cap) near W (hK.next h) hd (fun b hb => Nat.lt_of_lt_of_le (hZ b hb) h.size))
  have HAL := Lib.hid (fun (W : World) (h : Below w.heap.size w W) => All_c Z x (.slice p m cap) W (hK.next h) hd (fun b hb => Nat.lt_of_lt_of_le (hZ b hb) h.size))
  obtain ⟨wB, hwB⟩ : ∃ wB, wB = ((w.alloc (.cells #[.int .i64 x.a.k, .int .i64 x.a.w, .int .i64 x.a.c, .int .i64 x.a.s, .slice p m cap] 24)).alloc (.cells #[.int .i64 0, .int .i64 0, .int .i64 0, .int .i64 0, .slice none 0 0] 24)).alloc (.cells #[.int .i64 0, .int .i64 0, .int .i64 0, .int .i64 0, .slice none 0 0] 24) := ⟨_, rfl⟩
  have hb0 : Below w.heap.size w wB := by rw [hwB]; exact (((Below.refl w.heap.size w).alloc (Nat.le_refl _) _).alloc (by simp) _).alloc (by simp; omega) _
  have hq1 : Blk wB w.heap.size 24 #[.int .i64 x.a.k, .int .i64 x.a.w, .int .i64 x.a.c, .int .i64 x.a.s, .slice p m cap] := by rw [hwB]; exact ((Blk.new w 24 _).alloc _).alloc _
  have hq2 : Blk wB (w.heap.size + 1) 24 #[.int .i64 0, .int .i64 0, .int .i64 0, .int .i64 0, .slice none 0 0] := by
    rw [hwB]; have := (Blk.new (w.alloc (.cells #[.int .i64 x.a.k, .int .i64 x.a.w, .int .i64 x.a.c, .int .i64 x.a.s, .slice p m cap] 24)) 24 #[.int .i64 0, .int .i64 0, .int .i64 0, .int .i64 0, .slice none 0 0]).alloc (.cells #[.int .i64 0, .int .i64 0, .int .i64 0, .int .i64 0, .slice none 0 0] 24); rwa [World.size_alloc] at this
  have hq3 : Blk wB (w.heap.size + 1 + 1) 24 #[.int .i64 0, .int .i64 0, .int .i64 0, .int .i64 0, .slice none 0 0] := by
    rw [hwB]; have := Blk.new ((w.alloc (.cells #[.int .i64 x.a.k, .int .i64 x.a.w, .int .i64 x.a.c, .int .i64 x.a.s, .slice p m cap] 24)).alloc (.cells #[.int .i64 0, .int .i64 0, .int .i64 0, .int .i64 0, .slice none 0 0] 24)) 24 #[.int .i64 0, .int .i64 0, .int .i64 0, .int .i64 0, .slice none 0 0]; rwa [World.size_alloc, World.size_alloc] at this
  have HB := Lib.hid hb0
  have HQ1 := Lib.hid hq1
  have HQ2 := Lib.hid hq2
  have HQ3 := Lib.hid hq3
  have HWB := Lib.hid hwB
  have HK := Lib.hid hK
  have HZ := Lib.hid hZ
  have HFX := Lib.hid hf
  have HM := Lib.hid hm
  have HR := Lib.hid hRe
  have HLW : Hid ((leafC c se).a.wide) := ⟨⟨by show (-9223372036854775808 : Int) ≤ 0; decide, by show (0 : Int) ≤ 9223372036854775807; decide⟩, ⟨by show (-9223372036854775808 : Int) ≤ 65536; decide, by show (65536 : Int) ≤ 9223372036854775807; decide⟩, hc, hse⟩
  clear hR hRe hK hZ hd hf hwB hb0 hq1 hq2 hq3 hm hc hse
  obtain ⟨ck, hck⟩ : ∃ b, b = checkI x := ⟨_, rfl⟩
  rw [← hck] at HC
  have HCK := Lib.hid hck
  clear hck
  show Calls Try.prog 32 #[.agg #[.int .i64 x.a.k, .int .i64 x.a.w, .int .i64 x.a.c, .int .i64 x.a.s, .slice p m cap], .int .i64 near, .int .i64 c, .int .i64 se] w R
  go_enter Try.func32, Try.ntmps32
  go_wp2_with fail
  rw [← HWB.out]
  refine (HC.out wB HB.out).mono ?_
  rintro e w1 ⟨rfl, hb⟩
  have HB1 := Lib.hid (HB.out.trans (hb.mono HB.out.size))
  have HX1 := Lib.hid (HQ1.out.next hb)
  have HY1 := Lib.hid (HQ2.out.next hb)
  have HN1 := Lib.hid (HQ3.out.next hb)
  clear hb HQ1 HQ2 HQ3 HC HB HWB
  obtain ⟨⟨x0, x1, x2, x3, x4⟩, -⟩ := c5 HX1.out
  obtain ⟨⟨y0, y1, y2, y3, y4⟩, ⟨f0, f1, f2, f3, f4⟩⟩ := c5 HY1.out
  obtain ⟨⟨z0, z1, z2, z3, z4⟩, -⟩ := c5 HN1.out
  have lx := HX1.out.lt
  have ly := HY1.out.lt
  have lz := HN1.out.lt
  have mx := Nat.lt_succ_of_lt lx
  have my := Nat.lt_succ_of_lt ly
  have mz := Nat.lt_succ_of_lt lz
  cases htr : treeB x
  · obtain rfl : ck = 110 := by rw [HCK.out, checkI_eq, if_pos htr]
    have HE : Hid (insertI x near c se = (zeroT, 110)) := by unfold insertI; exact if_pos htr
    clear htr
    go_wp2_with fail
    obtain ⟨hb5, hq5, -⟩ := st5_next HB1.out (by omega) HY1.out (.int .i64 0) (.int .i64 0) (.int .i64 0) (.int .i64 0) (.slice none 0 0)
    obtain ⟨wE, hwE⟩ : ∃ W, W = st5 w1 (w.heap.size + 1) (.int .i64 0) (.int .i64 0) (.int .i64 0) (.int .i64 0) (.slice none 0 0) := ⟨_, rfl⟩
    rw [← hwE] at hb5 hq5
    unfold st5 at hwE
    rewrite [← hwE]
    obtain ⟨⟨b0, b1, b2, b3, b4⟩, -⟩ := c5 hq5
    exact bodyPost_ret (v := .tuple #[.agg #[.int .i64 0, .int .i64 0, .int .i64 0, .int .i64 0, .slice none 0 0], .int .i64 110]) (by simp [results, Try.results32, go_sem, b0, b1, b2, b3, b4]) rfl ((HR.out _ _).2 (by rw [HE.out]; exact ⟨hb5, zeroT, .slice none 0 0, rfl, KV.nil _ _ none 0, by rw [if_neg (by simp)]⟩))
  · obtain rfl : ck = 0 := by rw [HCK.out, checkI_eq, if_neg (by rw [htr]; decide)]
    have HTR := Lib.hid htr
    clear htr HCK
    go_wp2_with fail
    obtain ⟨hs, hhs⟩ : ∃ b, b = hasB x c := ⟨_, rfl⟩
    rw [← hhs] at HH
    refine (HH.out w1 HB1.out).mono ?_
    rintro e w2 ⟨rfl, hb⟩
    have HB2 := Lib.hid (HB1.out.trans (hb.mono HB1.out.size))
    have HX2 := Lib.hid (HX1.out.next hb)
    have HY2 := Lib.hid (HY1.out.next hb)
    have HN2 := Lib.hid (HN1.out.next hb)
    clear lx ly lz mx my mz x0 x1 x2 x3 x4 y0 y1 y2 y3 y4 f0 f1 f2 f3 f4 z0 z1 z2 z3 z4
    clear hb HX1 HY1 HN1 HB1
    obtain ⟨⟨x0, x1, x2, x3, x4⟩, -⟩ := c5 HX2.out
    obtain ⟨⟨y0, y1, y2, y3, y4⟩, ⟨f0, f1, f2, f3, f4⟩⟩ := c5 HY2.out
    obtain ⟨⟨z0, z1, z2, z3, z4⟩, -⟩ := c5 HN2.out
    have lx := HX2.out.lt
    have ly := HY2.out.lt
    have lz := HN2.out.lt
    have mx := Nat.lt_succ_of_lt lx
    have my := Nat.lt_succ_of_lt ly
    have mz := Nat.lt_succ_of_lt lz
    clear HH
    cases hs
    case true =>
      have HE : Hid (insertI x near c se = (zeroT, 7)) := by unfold insertI; rw [if_neg (by rw [HTR.out]; simp), if_pos hhs.symm]; exact rfl
      clear hhs
      go_wp2_with fail
      obtain ⟨hb5, hq5, -⟩ := st5_next HB2.out (by omega) HY2.out (.int .i64 0) (.int .i64 0) (.int .i64 0) (.int .i64 0) (.slice none 0 0)
      obtain ⟨wE, hwE⟩ : ∃ W, W = st5 w2 (w.heap.size + 1) (.int .i64 0) (.int .i64 0) (.int .i64 0) (.int .i64 0) (.slice none 0 0) := ⟨_, rfl⟩
      rw [← hwE] at hb5 hq5
      unfold st5 at hwE
      rewrite [← hwE]
      obtain ⟨⟨b0, b1, b2, b3, b4⟩, -⟩ := c5 hq5
      exact bodyPost_ret (v := .tuple #[.agg #[.int .i64 0, .int .i64 0, .int .i64 0, .int .i64 0, .slice none 0 0], .int .i64 7]) (by simp [results, Try.results32, go_sem, b0, b1, b2, b3, b4]) rfl ((HR.out _ _).2 (by rw [HE.out]; exact ⟨hb5, zeroT, .slice none 0 0, rfl, KV.nil _ _ none 0, by rw [if_neg (by simp)]⟩))
    case false =>
    by_cases hca : c < 1
    · have HE : Hid (insertI x near c se = (zeroT, 1)) := by unfold insertI; rw [if_neg (by rw [HTR.out]; simp), if_neg (by rw [← hhs]; simp), if_pos (.inl hca)]; exact rfl
      clear hhs
      go_wp2_with fail
      obtain ⟨hb5, hq5, -⟩ := st5_next HB2.out (by omega) HY2.out (.int .i64 0) (.int .i64 0) (.int .i64 0) (.int .i64 0) (.slice none 0 0)
      obtain ⟨wE, hwE⟩ : ∃ W, W = st5 w2 (w.heap.size + 1) (.int .i64 0) (.int .i64 0) (.int .i64 0) (.int .i64 0) (.slice none 0 0) := ⟨_, rfl⟩
      rw [← hwE] at hb5 hq5
      unfold st5 at hwE
      rewrite [← hwE]
      obtain ⟨⟨b0, b1, b2, b3, b4⟩, -⟩ := c5 hq5
      exact bodyPost_ret (v := .tuple #[.agg #[.int .i64 0, .int .i64 0, .int .i64 0, .int .i64 0, .slice none 0 0], .int .i64 1]) (by simp [results, Try.results32, go_sem, b0, b1, b2, b3, b4]) rfl ((HR.out _ _).2 (by rw [HE.out]; exact ⟨hb5, zeroT, .slice none 0 0, rfl, KV.nil _ _ none 0, by rw [if_neg (by simp)]⟩))
    by_cases hsa : se < 0
    · have HE : Hid (insertI x near c se = (zeroT, 1)) := by unfold insertI; rw [if_neg (by rw [HTR.out]; simp), if_neg (by rw [← hhs]; simp), if_pos (.inr hsa)]; exact rfl
      clear hhs
      go_wp2_with fail
      obtain ⟨hb5, hq5, -⟩ := st5_next HB2.out (by omega) HY2.out (.int .i64 0) (.int .i64 0) (.int .i64 0) (.int .i64 0) (.slice none 0 0)
      obtain ⟨wE, hwE⟩ : ∃ W, W = st5 w2 (w.heap.size + 1) (.int .i64 0) (.int .i64 0) (.int .i64 0) (.int .i64 0) (.slice none 0 0) := ⟨_, rfl⟩
      rw [← hwE] at hb5 hq5
      unfold st5 at hwE
      rewrite [← hwE]
      obtain ⟨⟨b0, b1, b2, b3, b4⟩, -⟩ := c5 hq5
      exact bodyPost_ret (v := .tuple #[.agg #[.int .i64 0, .int .i64 0, .int .i64 0, .int .i64 0, .slice none 0 0], .int .i64 1]) (by simp [results, Try.results32, go_sem, b0, b1, b2, b3, b4]) rfl ((HR.out _ _).2 (by rw [HE.out]; exact ⟨hb5, zeroT, .slice none 0 0, rfl, KV.nil _ _ none 0, by rw [if_neg (by simp)]⟩))
    have HHS := Lib.hid hhs.symm
    have HCS := Lib.hid (show ¬ (c < 1 ∨ se < 0) by omega)
    clear hhs
    by_cases hn0 : near = 0
    · subst hn0
      go_wp2_with fail
      obtain ⟨w3, hw3⟩ : ∃ W : World, W = (w2.alloc (.cells #[.int .i64 0, .int .i64 65536, .int .i64 c, .int .i64 se, .slice none 0 0] 24)).alloc (.cells #[.int .i64 ((m : Int) - 1)] 3) := ⟨_, rfl⟩
      rewrite [← hw3]
      have hb : Below w2.heap.size w2 w3 := by rw [hw3]; exact ((Below.refl _ _).alloc (Nat.le_refl _) _).alloc (by simp) _
      have HL3 : Hid (Blk w3 w2.heap.size 24 #[.int .i64 0, .int .i64 65536, .int .i64 c, .int .i64 se, .slice none 0 0]) := by show Blk _ _ _ _; rw [hw3]; exact (Blk.new w2 24 _).alloc _
      have HV3 : Hid (Blk w3 (w2.heap.size + 1) 3 #[.int .i64 ((m : Int) - 1)]) := by
        show Blk _ _ _ _
        rw [hw3]; have := Blk.new (w2.alloc (.cells #[.int .i64 0, .int .i64 65536, .int .i64 c, .int .i64 se, .slice none 0 0] 24)) 3 #[.int .i64 ((m : Int) - 1)]; rwa [World.size_alloc] at this
      have HS2 : Hid (w.heap.size + 1 + 1 < w2.heap.size) := HN2.out.lt
      clear hw3
      have HB3 := Lib.hid (HB2.out.trans (hb.mono HB2.out.size))
      have HX3 := Lib.hid (HX2.out.next hb)
      have HY3 := Lib.hid (HY2.out.next hb)
      have HN3 := Lib.hid (HN2.out.next hb)
      clear lx ly lz mx my mz x0 x1 x2 x3 x4 y0 y1 y2 y3 y4 f0 f1 f2 f3 f4 z0 z1 z2 z3 z4
      clear hb HX2 HY2 HN2 HB2
      obtain ⟨⟨x0, x1, x2, x3, x4⟩, -⟩ := c5 HX3.out
      obtain ⟨⟨y0, y1, y2, y3, y4⟩, ⟨f0, f1, f2, f3, f4⟩⟩ := c5 HY3.out
      obtain ⟨⟨z0, z1, z2, z3, z4⟩, -⟩ := c5 HN3.out
      have lx := HX3.out.lt
      have ly := HY3.out.lt
      have lz := HN3.out.lt
      have mx := Nat.lt_succ_of_lt lx
      have my := Nat.lt_succ_of_lt ly
      have mz := Nat.lt_succ_of_lt lz
      refine (At_c Z x x (.slice p m cap) [] _ w3 (HK.out.next HB3.out) (fun b hb => Nat.lt_of_lt_of_le (HZ.out b hb) HB3.out.size) (show WI w3 [] (.slice (some ⟨w2.heap.size + 1, 0, none⟩) 0 1) from ⟨_, 1, rfl, by simp, by simp, fun j i h => by simp at h⟩) (rfl : get x [] = some x)).mono ?_
      rintro e w5 ⟨hb, s5, rfl, hk5⟩
      obtain ⟨p5, k5, rfl, -⟩ := hk5.slice
      obtain ⟨n5, hn5⟩ : ∃ q, q = x.ks.length := ⟨_, rfl⟩
      rw [← hn5] at hk5 ⊢
      have HJ5 := Lib.hid hn5
      have HL5 := Lib.hid (HL3.out.next hb)
      have HV5 := Lib.hid (HV3.out.next hb)
      have HK5 := Lib.hid hk5
      clear hk5 hn5 HL3
      have HB5 := Lib.hid (HB3.out.trans (hb.mono HB3.out.size))
      have HX5 := Lib.hid (HX3.out.next hb)
      have HY5 := Lib.hid (HY3.out.next hb)
      have HN5 := Lib.hid (HN3.out.next hb)
      clear lx ly lz mx my mz x0 x1 x2 x3 x4 y0 y1 y2 y3 y4 f0 f1 f2 f3 f4 z0 z1 z2 z3 z4
      clear hb HX3 HY3 HN3 HB3
      obtain ⟨⟨x0, x1, x2, x3, x4⟩, -⟩ := c5 HX5.out
      obtain ⟨⟨y0, y1, y2, y3, y4⟩, ⟨f0, f1, f2, f3, f4⟩⟩ := c5 HY5.out
      obtain ⟨⟨z0, z1, z2, z3, z4⟩, -⟩ := c5 HN5.out
      have lx := HX5.out.lt
      have ly := HY5.out.lt
      have lz := HN5.out.lt
      have mx := Nat.lt_succ_of_lt lx
      have my := Nat.lt_succ_of_lt ly
      have mz := Nat.lt_succ_of_lt lz
      by_cases h64 : n5 = 64
      · subst h64
        have HE : Hid (insertI x 0 c se = (zeroT, 2)) := by rw [insertI_at HTR.out HHS.out HCS.out (fun h => h.1 rfl) (show insSpot x 0 = ([], m) by unfold insSpot; rw [if_pos rfl, HM.out]) (rfl : get x [] = some x), if_pos (.inl HJ5.out.symm)]; exact rfl
        go_wp2_with fail
        obtain ⟨hb5, hq5, -⟩ := st5_next HB5.out (by omega) HY5.out (.int .i64 0) (.int .i64 0) (.int .i64 0) (.int .i64 0) (.slice none 0 0)
        obtain ⟨wE, hwE⟩ : ∃ W, W = st5 w5 (w.heap.size + 1) (.int .i64 0) (.int .i64 0) (.int .i64 0) (.int .i64 0) (.slice none 0 0) := ⟨_, rfl⟩
        rw [← hwE] at hb5 hq5
        unfold st5 at hwE
        rewrite [← hwE]
        have hb6 := hb5.alloc (by have := hb5.size; omega) (.cells #[.int .i64 x.a.k, .int .i64 x.a.w, .int .i64 x.a.c, .int .i64 x.a.s, .slice p5 64 k5] 24)
        have hq6 := hq5.alloc (.cells #[.int .i64 x.a.k, .int .i64 x.a.w, .int .i64 x.a.c, .int .i64 x.a.s, .slice p5 64 k5] 24)
        obtain ⟨⟨b0, b1, b2, b3, b4⟩, -⟩ := c5 hq6
        exact bodyPost_ret (v := .tuple #[.agg #[.int .i64 0, .int .i64 0, .int .i64 0, .int .i64 0, .slice none 0 0], .int .i64 2]) (by simp [results, Try.results32, go_sem, b0, b1, b2, b3, b4]) rfl ((HR.out _ _).2 (by rw [HE.out]; exact ⟨hb6, zeroT, .slice none 0 0, rfl, KV.nil _ _ none 0, by rw [if_neg (by simp)]⟩))
      · have hlt5 : n5 < 64 := by
          have h1 := HJ5.out
          have h2 := tree_kids_len HTR.out (rfl : get x [] = some x)
          rw [← h1] at h2
          omega
        have hlt6 : ¬ (64 : Int) ≤ (n5 : Int) := by omega
        go_wp2_with fail
        have hbP := HB5.out.alloc HB5.out.size (.cells #[.int .i64 x.a.k, .int .i64 x.a.w, .int .i64 x.a.c, .int .i64 x.a.s, .slice p5 n5 k5] 24)
        have hbW := (Below.refl w5.heap.size w5).alloc (Nat.le_refl _) (.cells #[.int .i64 x.a.k, .int .i64 x.a.w, .int .i64 x.a.c, .int .i64 x.a.s, .slice p5 n5 k5] 24)
        have hqP := Blk.new w5 24 #[.int .i64 x.a.k, .int .i64 x.a.w, .int .i64 x.a.c, .int .i64 x.a.s, .slice p5 n5 k5]
        obtain ⟨wP, hwP⟩ : ∃ wP, wP = w5.alloc (.cells #[.int .i64 x.a.k, .int .i64 x.a.w, .int .i64 x.a.c, .int .i64 x.a.s, .slice p5 n5 k5] 24) := ⟨_, rfl⟩
        rw [← hwP] at hbP hbW hqP ⊢
        refine (HAL.out wP hbP).mono ?_
        rintro e w6 ⟨hbA, va, rfl, hrow⟩
        obtain ⟨pa, ca, rfl⟩ := hrow.slice
        obtain ⟨L, hL⟩ : ∃ q, q = (all x).length := ⟨_, rfl⟩
        rw [← hL]
        have HLL := Lib.hid hL
        have hb := hbW.trans (hbA.mono hbW.size)
        have HL6 := Lib.hid (HL5.out.next hb)
        have HV6 := Lib.hid (HV5.out.next hb)
        have HK6 := Lib.hid (HK5.out.next hb)
        have HP6 := Lib.hid (hqP.next hbA)
        have HS5 : Hid (w.heap.size + 1 + 1 < w5.heap.size) := lz
        clear hrow hL hbA hwP hbP hbW hqP HL5 HV5 HK5
        have HB6 := Lib.hid (HB5.out.trans (hb.mono HB5.out.size))
        have HX6 := Lib.hid (HX5.out.next hb)
        have HY6 := Lib.hid (HY5.out.next hb)
        have HN6 := Lib.hid (HN5.out.next hb)
        clear lx ly lz mx my mz x0 x1 x2 x3 x4 y0 y1 y2 y3 y4 f0 f1 f2 f3 f4 z0 z1 z2 z3 z4
        clear hb HX5 HY5 HN5 HB5
        obtain ⟨⟨x0, x1, x2, x3, x4⟩, -⟩ := c5 HX6.out
        obtain ⟨⟨y0, y1, y2, y3, y4⟩, ⟨f0, f1, f2, f3, f4⟩⟩ := c5 HY6.out
        obtain ⟨⟨z0, z1, z2, z3, z4⟩, -⟩ := c5 HN6.out
        have lx := HX6.out.lt
        have ly := HY6.out.lt
        have lz := HN6.out.lt
        have mx := Nat.lt_succ_of_lt lx
        have my := Nat.lt_succ_of_lt ly
        have mz := Nat.lt_succ_of_lt lz
        by_cases h128 : L = 128
        · subst h128
          have HE : Hid (insertI x 0 c se = (zeroT, 2)) := by rw [insertI_at HTR.out HHS.out HCS.out (fun h => h.1 rfl) (show insSpot x 0 = ([], m) by unfold insSpot; rw [if_pos rfl, HM.out]) (rfl : get x [] = some x), if_pos (.inr HLL.out.symm)]; exact rfl
          go_wp2_with fail
          obtain ⟨hb5, hq5, -⟩ := st5_next HB6.out (by omega) HY6.out (.int .i64 0) (.int .i64 0) (.int .i64 0) (.int .i64 0) (.slice none 0 0)
          obtain ⟨wE, hwE⟩ : ∃ W, W = st5 w6 (w.heap.size + 1) (.int .i64 0) (.int .i64 0) (.int .i64 0) (.int .i64 0) (.slice none 0 0) := ⟨_, rfl⟩
          rw [← hwE] at hb5 hq5
          unfold st5 at hwE
          rewrite [← hwE]
          obtain ⟨⟨b0, b1, b2, b3, b4⟩, -⟩ := c5 hq5
          exact bodyPost_ret (v := .tuple #[.agg #[.int .i64 0, .int .i64 0, .int .i64 0, .int .i64 0, .slice none 0 0], .int .i64 2]) (by simp [results, Try.results32, go_sem, b0, b1, b2, b3, b4]) rfl ((HR.out _ _).2 (by rw [HE.out]; exact ⟨hb5, zeroT, .slice none 0 0, rfl, KV.nil _ _ none 0, by rw [if_neg (by simp)]⟩))
        · have hltL : L < 128 := by have := HLL.out; have := (tree_parts HTR.out).2.2; omega
          have hltL' : ¬ (128 : Int) ≤ (L : Int) := by omega
          have HE : Hid (insertI x 0 c se = ((put x [] (.mk x.a (x.ks.take (m) ++ leafC c se :: x.ks.drop (m)))), 0)) := by rw [insertI_at HTR.out HHS.out HCS.out (fun h => h.1 rfl) (show insSpot x 0 = ([], m) by unfold insSpot; rw [if_pos rfl, HM.out]) (rfl : get x [] = some x), if_neg (by have := HJ5.out; have := HLL.out; omega)]; exact rfl
          obtain ⟨NL, hNL⟩ : ∃ l : List Con, l = (x.ks.take (m) ++ leafC c se :: x.ks.drop (m)) := ⟨_, rfl⟩
          rw [← hNL] at HE
          have HNL := Lib.hid hNL
          clear hNL
          go_wp2_with fail
          clear x0 x1 x2 x3 x4 y0 y1 y2 y3 y4 f0 f1 f2 f3 f4 z0 z1 z2 z3 z4
          have HS0 : Hid (∀ W, Below w6.heap.size w6 W → (fun wx : World => (wx.cell? ⟨w.heap.size, 0, none⟩ = some (.int .i64 x.a.k) ∧ wx.cell? ⟨w.heap.size, 1, none⟩ = some (.int .i64 x.a.w) ∧ wx.cell? ⟨w.heap.size, 2, none⟩ = some (.int .i64 x.a.c) ∧ wx.cell? ⟨w.heap.size, 3, none⟩ = some (.int .i64 x.a.s) ∧ wx.cell? ⟨w.heap.size, 4, none⟩ = some (.slice p m cap)) ∧ (wx.cell? ⟨w5.heap.size, 0, none⟩ = some (.int .i64 x.a.k) ∧ wx.cell? ⟨w5.heap.size, 1, none⟩ = some (.int .i64 x.a.w) ∧ wx.cell? ⟨w5.heap.size, 2, none⟩ = some (.int .i64 x.a.c) ∧ wx.cell? ⟨w5.heap.size, 3, none⟩ = some (.int .i64 x.a.s) ∧ wx.cell? ⟨w5.heap.size, 4, none⟩ = some (.slice p5 n5 k5)) ∧ (wx.cell? ⟨w2.heap.size, 0, none⟩ = some (.int .i64 0) ∧ wx.cell? ⟨w2.heap.size, 1, none⟩ = some (.int .i64 65536) ∧ wx.cell? ⟨w2.heap.size, 2, none⟩ = some (.int .i64 c) ∧ wx.cell? ⟨w2.heap.size, 3, none⟩ = some (.int .i64 se) ∧ wx.cell? ⟨w2.heap.size, 4, none⟩ = some (.slice none 0 0)) ∧ wx.cell? ⟨w2.heap.size + 1, 0, none⟩ = some (.int .i64 ((m : Int) - 1))) W) := fun W h => ⟨(c5 (HX6.out.next h)).1, (c5 (HP6.out.next h)).1, (c5 (HL6.out.next h)).1, (HV6.out.next h).at_ (i := 0) rfl⟩
          have HS1 : Hid (∀ W, Below w6.heap.size w6 W → ∀ v0 v1 v2 v3 v4, (fun wx : World => (wx.cell? ⟨w.heap.size, 0, none⟩ = some (.int .i64 x.a.k) ∧ wx.cell? ⟨w.heap.size, 1, none⟩ = some (.int .i64 x.a.w) ∧ wx.cell? ⟨w.heap.size, 2, none⟩ = some (.int .i64 x.a.c) ∧ wx.cell? ⟨w.heap.size, 3, none⟩ = some (.int .i64 x.a.s) ∧ wx.cell? ⟨w.heap.size, 4, none⟩ = some (.slice p m cap)) ∧ (wx.cell? ⟨w5.heap.size, 0, none⟩ = some (.int .i64 x.a.k) ∧ wx.cell? ⟨w5.heap.size, 1, none⟩ = some (.int .i64 x.a.w) ∧ wx.cell? ⟨w5.heap.size, 2, none⟩ = some (.int .i64 x.a.c) ∧ wx.cell? ⟨w5.heap.size, 3, none⟩ = some (.int .i64 x.a.s) ∧ wx.cell? ⟨w5.heap.size, 4, none⟩ = some (.slice p5 n5 k5)) ∧ (wx.cell? ⟨w2.heap.size, 0, none⟩ = some (.int .i64 0) ∧ wx.cell? ⟨w2.heap.size, 1, none⟩ = some (.int .i64 65536) ∧ wx.cell? ⟨w2.heap.size, 2, none⟩ = some (.int .i64 c) ∧ wx.cell? ⟨w2.heap.size, 3, none⟩ = some (.int .i64 se) ∧ wx.cell? ⟨w2.heap.size, 4, none⟩ = some (.slice none 0 0)) ∧ wx.cell? ⟨w2.heap.size + 1, 0, none⟩ = some (.int .i64 ((m : Int) - 1))) (st5 W (w.heap.size + 1) v0 v1 v2 v3 v4)) := fun W h v0 v1 v2 v3 v4 => by
            have hf := fun b hb => cell_same (far_st5 W (w.heap.size + 1) v0 v1 v2 v3 v4 b hb)
            have hx1 : w.heap.size ≠ w.heap.size + 1 := by omega
            have hx2 : w5.heap.size ≠ w.heap.size + 1 := by have := HS5.out; omega
            have hx3 : w2.heap.size ≠ w.heap.size + 1 := by have := HS2.out; omega
            have hx4 : w2.heap.size + 1 ≠ w.heap.size + 1 := (by have := HS2.out; omega)
            have := HS0.out W h
            simp only at this ⊢
            rewrite [hf _ hx1, hf _ hx1, hf _ hx1, hf _ hx1, hf _ hx1, hf _ hx2, hf _ hx2, hf _ hx2, hf _ hx2, hf _ hx2, hf _ hx3, hf _ hx3, hf _ hx3, hf _ hx3, hf _ hx3, hf _ hx4]
            exact this
          have HWI : Hid (∀ (W : World) (g : Nat), Below w6.heap.size w6 W → Blk W g 24 #[.int .i64 0, .int .i64 65536, .int .i64 c, .int .i64 se, .slice none 0 0] → w6.heap.size ≤ g → Calls Try.prog 68 #[.agg #[.int .i64 x.a.k, .int .i64 x.a.w, .int .i64 x.a.c, .int .i64 x.a.s, .slice p5 n5 k5], .int .i64 (m : Int), .int .i64 0, .slice (some ⟨g, 0, none⟩) 1 1] W fun e w' => Below W.heap.size W w' ∧ ∃ s', e = .returned (conV x.a s') ∧ KV w' (fun b => Z b ∨ w6.heap.size ≤ b) NL s') := fun W g h hq hg => by
            refine (With_c (fun b => (Z b ∨ w6.heap.size ≤ b) ∧ b < W.heap.size) x (.slice p5 n5 k5) (.slice (some ⟨g, 0, none⟩) 1 1) [leafC c se] (m) 0 W (fun _ h => h.2) (((HK6.out.next h).weak fun b hb => .inl hb).lt_) (KV.single (y := leafC c se) (s := .slice none 0 0) hq ⟨.inr hg, hq.lt⟩ (KV.nil _ _ _ _) HLW.out) (by have := HM.out; omega) (by have := HJ5.out; simp only [List.length_singleton]; omega)).mono fun e w' h' => ?_
            obtain ⟨h1, s', h2, h3⟩ := h'
            refine ⟨h1, s', h2, ?_⟩
            rw [HNL.out]
            have h3 := h3.weak (Z' := fun b => Z b ∨ w6.heap.size ≤ b) fun b hb => hb.elim (fun h => h.1) fun h9 => .inr (Nat.le_trans h.size h9)
            rwa [Nat.add_zero, List.append_assoc, List.singleton_append] at h3
          have HPU : Hid (∀ (W : World) (s : Value), Below w6.heap.size w6 W → KV W (fun b => Z b ∨ w6.heap.size ≤ b) NL s → Calls Try.prog 67 #[.agg #[.int .i64 x.a.k, .int .i64 x.a.w, .int .i64 x.a.c, .int .i64 x.a.s, .slice p m cap], (.slice (some ⟨w2.heap.size + 1, 0, none⟩) 0 1), .agg #[.int .i64 x.a.k, .int .i64 x.a.w, .int .i64 x.a.c, .int .i64 x.a.s, s]] W fun e w' => Below W.heap.size W w' ∧ ∃ s', e = .returned (conV (put x [] (.mk x.a NL)).a s') ∧ KV w' (fun b => Z b ∨ w6.heap.size ≤ b) (put x [] (.mk x.a NL)).ks s') := fun W s h hs => by
            refine (Put_c (.mk x.a NL) s (HFX.out _ _ (rfl : get x [] = some x)).1 [] (fun b => (Z b ∨ w6.heap.size ≤ b) ∧ b < W.heap.size) x x (.slice p m cap) (.slice (some ⟨w2.heap.size + 1, 0, none⟩) 0 1) W (fun _ h => h.2) ((((HK.out.next HB6.out).next h).weak fun b hb => .inl hb).lt_) hs.lt_ (show WI W [] (.slice (some ⟨w2.heap.size + 1, 0, none⟩) 0 1) from ⟨_, 1, rfl, by simp, by simp, fun j i h => by simp at h⟩) (rfl : get x [] = some x) HFX.out).mono fun e w' h' => ?_
            obtain ⟨h1, s', h2, h3⟩ := h'
            exact ⟨h1, s', h2, h3.weak fun b hb => hb.elim (fun h => h.1) fun h9 => .inr (Nat.le_trans h.size h9)⟩
          have hw0 : IntKind.i64.wrap 0 = 0 := by decide
          have hwm : IntKind.i64.wrap (m : Int) = (m : Int) := by rw [IntKind.wrap_i64]; omega
          have HWG := Lib.hid (HWI.out ((w6.alloc (.cells #[.int .i64 0, .int .i64 65536, .int .i64 c, .int .i64 se, .slice none 0 0] 24)).drew) w6.heap.size (((Below.refl _ _).alloc (Nat.le_refl _) _).drew) ((Blk.new w6 24 #[.int .i64 0, .int .i64 65536, .int .i64 c, .int .i64 se, .slice none 0 0]).next ((Below.refl _ _).drew)) (Nat.le_refl _))
          have HBG := Lib.hid (((Below.refl w6.heap.size w6).alloc (Nat.le_refl _) (.cells #[.int .i64 0, .int .i64 65536, .int .i64 c, .int .i64 se, .slice none 0 0] 24)).drew)
          clear HWI
          refine wp_region_noPanic ?_
          refine wp_region_held_drew (S := fun wx : World => (wx.cell? ⟨w.heap.size, 0, none⟩ = some (.int .i64 x.a.k) ∧ wx.cell? ⟨w.heap.size, 1, none⟩ = some (.int .i64 x.a.w) ∧ wx.cell? ⟨w.heap.size, 2, none⟩ = some (.int .i64 x.a.c) ∧ wx.cell? ⟨w.heap.size, 3, none⟩ = some (.int .i64 x.a.s) ∧ wx.cell? ⟨w.heap.size, 4, none⟩ = some (.slice p m cap)) ∧ (wx.cell? ⟨w5.heap.size, 0, none⟩ = some (.int .i64 x.a.k) ∧ wx.cell? ⟨w5.heap.size, 1, none⟩ = some (.int .i64 x.a.w) ∧ wx.cell? ⟨w5.heap.size, 2, none⟩ = some (.int .i64 x.a.c) ∧ wx.cell? ⟨w5.heap.size, 3, none⟩ = some (.int .i64 x.a.s) ∧ wx.cell? ⟨w5.heap.size, 4, none⟩ = some (.slice p5 n5 k5)) ∧ (wx.cell? ⟨w2.heap.size, 0, none⟩ = some (.int .i64 0) ∧ wx.cell? ⟨w2.heap.size, 1, none⟩ = some (.int .i64 65536) ∧ wx.cell? ⟨w2.heap.size, 2, none⟩ = some (.int .i64 c) ∧ wx.cell? ⟨w2.heap.size, 3, none⟩ = some (.int .i64 se) ∧ wx.cell? ⟨w2.heap.size, 4, none⟩ = some (.slice none 0 0)) ∧ wx.cell? ⟨w2.heap.size + 1, 0, none⟩ = some (.int .i64 ((m : Int) - 1))) (by kernel_rfl) (by exact HS0.out _ (Below.refl _ _).drew) (fun hHeld => ?_)
          refine wpAnyH_take (i := 0) (v := ?vm0) rfl (by kernel_rfl) (by kernel_rfl) (by kernel_rfl) (fun _ _ _ h => h) (Or.inl ⟨by kernel_rfl, ?ym0⟩) (by assumption) ?rm0
          case ym0 => (intro wq hSw; (try dsimp only at hSw); go_simp; (try with_reducible rfl))
          (try simp only [Act.put, List.getElem_toArray, List.getElem_cons_zero, List.setIfInBounds_toArray, List.set_cons_zero, List.set_cons_succ])
          refine wpAnyH_take (i := 1) (v := ?vm1) rfl (by kernel_rfl) (by kernel_rfl) (by kernel_rfl) (fun _ _ _ h => h) (Or.inl ⟨by kernel_rfl, ?ym1⟩) (by assumption) ?rm1
          case ym1 => (intro wq hSw; (try dsimp only at hSw); go_simp; (try with_reducible rfl))
          (try simp only [Act.put, List.getElem_toArray, List.getElem_cons_succ, List.getElem_cons_zero, List.setIfInBounds_toArray, List.set_cons_zero, List.set_cons_succ])
          refine wpAnyH_take (i := 2) (v := ?vm2) rfl (by kernel_rfl) (by kernel_rfl) (by kernel_rfl) (fun _ _ _ h => h) (Or.inl ⟨by kernel_rfl, ?ym2⟩) (by assumption) ?rm2
          case ym2 => (intro wq hSw; (try dsimp only at hSw); go_simp; (try with_reducible rfl))
          (try simp only [Act.put, List.getElem_toArray, List.getElem_cons_succ, List.getElem_cons_zero, List.setIfInBounds_toArray, List.set_cons_zero, List.set_cons_succ])
          refine wpAnyH_take (i := 3) (v := ?vm3) rfl (by kernel_rfl) (by kernel_rfl) (by kernel_rfl) (fun _ _ _ h => h) (Or.inl ⟨by kernel_rfl, ?ym3⟩) (by assumption) ?rm3
          case ym3 => (intro wq hSw; (try dsimp only at hSw); go_simp; (try with_reducible rfl))
          (try simp only [Act.put, List.getElem_toArray, List.getElem_cons_succ, List.getElem_cons_zero, List.setIfInBounds_toArray, List.set_cons_zero, List.set_cons_succ])
          refine wpAnyH_take (i := 4) (v := ?vm4) rfl (by kernel_rfl) (by kernel_rfl) (by kernel_rfl) (fun _ _ _ h => h) (Or.inl ⟨by kernel_rfl, ?ym4⟩) (by assumption) ?rm4
          case ym4 => (intro wq hSw; (try dsimp only at hSw); go_simp; (try with_reducible rfl))
          (try simp only [Act.put, List.getElem_toArray, List.getElem_cons_succ, List.getElem_cons_zero, List.setIfInBounds_toArray, List.set_cons_zero, List.set_cons_succ])
          refine wpAnyH_take (i := 5) (v := ?vm5) rfl (by kernel_rfl) (by kernel_rfl) (by kernel_rfl) (fun _ _ _ h => h) (Or.inl ⟨by kernel_rfl, ?ym5⟩) (by assumption) ?rm5
          case ym5 => (intro wq hSw; (try dsimp only at hSw); go_simp; (try with_reducible rfl))
          (try simp only [Act.put, List.getElem_toArray, List.getElem_cons_succ, List.getElem_cons_zero, List.setIfInBounds_toArray, List.set_cons_zero, List.set_cons_succ])
          refine wpAnyH_take (i := 6) (v := ?vm6) rfl (by kernel_rfl) (by kernel_rfl) (by kernel_rfl) (fun _ _ _ h => h) (Or.inl ⟨by kernel_rfl, ?ym6⟩) (by assumption) ?rm6
          case ym6 => (intro wq hSw; (try dsimp only at hSw); go_simp; (try with_reducible rfl))
          (try simp only [Act.put, List.getElem_toArray, List.getElem_cons_succ, List.getElem_cons_zero, List.setIfInBounds_toArray, List.set_cons_zero, List.set_cons_succ])
          refine wpAnyH_take (i := 7) (v := ?vm7) rfl (by kernel_rfl) (by kernel_rfl) (by kernel_rfl) (fun _ _ _ h => h) (Or.inl ⟨by kernel_rfl, ?ym7⟩) (by assumption) ?rm7
          case ym7 => (intro wq hSw; (try dsimp only at hSw); go_simp; (try with_reducible rfl))
          (try simp only [Act.put, List.getElem_toArray, List.getElem_cons_succ, List.getElem_cons_zero, List.setIfInBounds_toArray, List.set_cons_zero, List.set_cons_succ])
          refine wpAnyH_take (i := 8) (v := ?vm8) rfl (by kernel_rfl) (by kernel_rfl) (by kernel_rfl) (fun _ _ _ h => h) (Or.inl ⟨by kernel_rfl, ?ym8⟩) (by assumption) ?rm8
          case ym8 => (intro wq hSw; (try dsimp only at hSw); go_simp; (try with_reducible rfl))
          (try simp only [Act.put, List.getElem_toArray, List.getElem_cons_succ, List.getElem_cons_zero, List.setIfInBounds_toArray, List.set_cons_zero, List.set_cons_succ])
          refine wpAnyH_take (i := 9) (v := ?vm9) rfl (by kernel_rfl) (by kernel_rfl) (by kernel_rfl) (fun _ _ _ h => h) (Or.inl ⟨by kernel_rfl, ?ym9⟩) (by assumption) ?rm9
          case ym9 => (intro wq hSw; (try dsimp only at hSw); go_simp; (try with_reducible rfl))
          (try simp only [Act.put, List.getElem_toArray, List.getElem_cons_succ, List.getElem_cons_zero, List.setIfInBounds_toArray, List.set_cons_zero, List.set_cons_succ])
          refine wpAnyH_take (i := 10) (v := ?vm10) rfl (by kernel_rfl) (by kernel_rfl) (by kernel_rfl) (fun _ _ _ h => h) (Or.inl ⟨by kernel_rfl, ?ym10⟩) (by assumption) ?rm10
          case ym10 => (intro wq hSw; (try dsimp only at hSw); go_simp; (try with_reducible rfl))
          (try simp only [Act.put, List.getElem_toArray, List.getElem_cons_succ, List.getElem_cons_zero, List.setIfInBounds_toArray, List.set_cons_zero, List.set_cons_succ])
          refine wpAnyH_ready (rs := [11]) (by kernel_rfl) (by simp) ?_
          refine AllReadyH.cons rfl (fun K hK => ?_) AllReadyH.nil
          go_simp
          refine hK.out _ _ (by exact HS0.out _ HBG.out) (fun hHeld => ?_)
          clear hK K
          (try simp only [Act.put, List.getElem_toArray, List.getElem_cons_succ, List.getElem_cons_zero, List.setIfInBounds_toArray, List.set_cons_zero, List.set_cons_succ])
          refine wpAnyH_ready (rs := [12]) (by kernel_rfl) (by simp) ?_
          refine AllReadyH.cons rfl (fun K hK => ?_) AllReadyH.nil
          go_simp
          refine (HWG.out).mono ?_
          rintro e7 w7 ⟨hb7, s7, rfl, hk7⟩; obtain ⟨p7, k7, rfl, -⟩ := hk7.slice; obtain ⟨n7, hn7⟩ : ∃ q, q = NL.length := ⟨_, rfl⟩; rw [← hn7] at hk7 ⊢; have HB7 := Lib.hid (HBG.out.trans (hb7.mono HBG.out.size)); have HK7 := Lib.hid hk7; clear hb7 hk7 hn7
          (try dsimp only)
          refine hK.out _ _ (by exact HS0.out _ HB7.out) (fun hHeld => ?_)
          clear hK K
          (try simp only [Act.put, List.getElem_toArray, List.getElem_cons_succ, List.getElem_cons_zero, List.setIfInBounds_toArray, List.set_cons_zero, List.set_cons_succ])
          refine wpAnyH_ready (rs := [13]) (by kernel_rfl) (by simp) ?_
          refine AllReadyH.cons rfl (fun K hK => ?_) AllReadyH.nil
          go_simp
          refine (HPU.out _ _ HB7.out HK7.out).mono ?_
          rintro e8 w8 ⟨hb8, s8, rfl, hk8⟩; obtain ⟨p8, k8, rfl, -⟩ := hk8.slice; obtain ⟨Y, hY⟩ : ∃ Y, Y = (put x [] (.mk x.a NL)) := ⟨_, rfl⟩; rw [← hY] at hk8 ⊢; have HY := Lib.hid hY; obtain ⟨n8, hn8⟩ : ∃ q, q = Y.ks.length := ⟨_, rfl⟩; rw [← hn8] at hk8 ⊢; have HB8 := Lib.hid (HB7.out.trans (hb8.mono HB7.out.size)); have HK8 := Lib.hid hk8; clear hb8 hk8 hn8 hY; obtain ⟨-, ⟨f0, f1, f2, f3, f4⟩⟩ := c5 (HY6.out.next HB8.out); obtain ⟨⟨y0, y1, y2, y3, y4⟩, -⟩ := c5 (HY6.out.next HB8.out)
          (try dsimp only)
          refine hK.out _ _ (by exact HS0.out _ HB8.out) (fun hHeld => ?_)
          clear hK K
          (try simp only [Act.put, List.getElem_toArray, List.getElem_cons_succ, List.getElem_cons_zero, List.setIfInBounds_toArray, List.set_cons_zero, List.set_cons_succ])
          refine wpAnyH_ready (rs := [14]) (by kernel_rfl) (by simp) ?_
          refine AllReadyH.cons rfl (fun K hK => ?_) AllReadyH.nil
          go_simp
          refine hK.out _ _ (by exact HS1.out w8 HB8.out (.int .i64 Y.a.k) (.int .i64 Y.a.w) (.int .i64 Y.a.c) (.int .i64 Y.a.s) (.slice p8 n8 k8)) (fun hHeld => ?_)
          clear hK K
          (try simp only [Act.put, List.getElem_toArray, List.getElem_cons_succ, List.getElem_cons_zero, List.setIfInBounds_toArray, List.set_cons_zero, List.set_cons_succ])
          refine wpAnyH_take (i := 15) (v := ?vm15) rfl (by kernel_rfl) (by kernel_rfl) (by kernel_rfl) (fun _ _ _ h => h) (Or.inl ⟨by kernel_rfl, ?ym15⟩) (by assumption) ?rm15
          case ym15 => (intro wq hSw; (try dsimp only at hSw); go_simp; (try with_reducible rfl))
          (try simp only [Act.put, List.getElem_toArray, List.getElem_cons_succ, List.getElem_cons_zero, List.setIfInBounds_toArray, List.set_cons_zero, List.set_cons_succ])
          refine wpAnyH_done (by kernel_rfl) ?_ _
          refine NoPanic.normal ?_
          go_wp2_with fail
          obtain ⟨hb5, hq5, -⟩ := st5_next (HB6.out.trans (HB8.out.mono HB6.out.size)) (by omega) (HY6.out.next HB8.out) (.int .i64 Y.a.k) (.int .i64 Y.a.w) (.int .i64 Y.a.c) (.int .i64 Y.a.s) (.slice p8 n8 k8)
          have hk5 := KV.st5 (g := w.heap.size + 1) (Z' := fun b => Z b ∨ w.heap.size ≤ b) HK8.out (fun b hb => by rcases hb with hb | hb; (have := HZ.out b hb; omega); omega) (fun b hb => by rcases hb with hb | hb; exact .inl hb; (right; omega)) (.int .i64 Y.a.k) (.int .i64 Y.a.w) (.int .i64 Y.a.c) (.int .i64 Y.a.s) (.slice p8 n8 k8)
          obtain ⟨w9, hw9⟩ : ∃ W, W = st5 w8 (w.heap.size + 1) (.int .i64 Y.a.k) (.int .i64 Y.a.w) (.int .i64 Y.a.c) (.int .i64 Y.a.s) (.slice p8 n8 k8) := ⟨_, rfl⟩
          rw [← hw9] at hb5 hq5 hk5
          unfold st5 at hw9
          rewrite [← hw9]
          obtain ⟨⟨b0, b1, b2, b3, b4⟩, -⟩ := c5 hq5
          exact bodyPost_ret (v := .tuple #[.agg #[.int .i64 Y.a.k, .int .i64 Y.a.w, .int .i64 Y.a.c, .int .i64 Y.a.s, .slice p8 n8 k8], .int .i64 0]) (by simp [results, Try.results32, go_sem, b0, b1, b2, b3, b4]) rfl ((HR.out _ _).2 (by rw [HE.out]; exact ⟨hb5, Y, .slice p8 n8 k8, rfl, hk5, by rw [if_pos rfl, HY.out]⟩))
    · have HNZ := Lib.hid hn0
      go_wp2_with fail
      obtain ⟨w3, hw3⟩ : ∃ W : World, W = (w2.alloc (.cells #[.int .i64 0, .int .i64 65536, .int .i64 c, .int .i64 se, .slice none 0 0] 24)).alloc (.cells #[.int .i64 ((m : Int) - 1)] 3) := ⟨_, rfl⟩
      rewrite [← hw3]
      have hb : Below w2.heap.size w2 w3 := by rw [hw3]; exact ((Below.refl _ _).alloc (Nat.le_refl _) _).alloc (by simp) _
      have HL3 : Hid (Blk w3 w2.heap.size 24 #[.int .i64 0, .int .i64 65536, .int .i64 c, .int .i64 se, .slice none 0 0]) := by show Blk _ _ _ _; rw [hw3]; exact (Blk.new w2 24 _).alloc _
      have HV3 : Hid (Blk w3 (w2.heap.size + 1) 3 #[.int .i64 ((m : Int) - 1)]) := by
        show Blk _ _ _ _
        rw [hw3]; have := Blk.new (w2.alloc (.cells #[.int .i64 0, .int .i64 65536, .int .i64 c, .int .i64 se, .slice none 0 0] 24)) 3 #[.int .i64 ((m : Int) - 1)]; rwa [World.size_alloc] at this
      have HS2 : Hid (w.heap.size + 1 + 1 < w2.heap.size) := HN2.out.lt
      clear hw3
      have HB3 := Lib.hid (HB2.out.trans (hb.mono HB2.out.size))
      have HX3 := Lib.hid (HX2.out.next hb)
      have HY3 := Lib.hid (HY2.out.next hb)
      have HN3 := Lib.hid (HN2.out.next hb)
      clear lx ly lz mx my mz x0 x1 x2 x3 x4 y0 y1 y2 y3 y4 f0 f1 f2 f3 f4 z0 z1 z2 z3 z4
      clear hb HX2 HY2 HN2 HB2
      obtain ⟨⟨x0, x1, x2, x3, x4⟩, -⟩ := c5 HX3.out
      obtain ⟨⟨y0, y1, y2, y3, y4⟩, ⟨f0, f1, f2, f3, f4⟩⟩ := c5 HY3.out
      obtain ⟨⟨z0, z1, z2, z3, z4⟩, -⟩ := c5 HN3.out
      have lx := HX3.out.lt
      have ly := HY3.out.lt
      have lz := HN3.out.lt
      have mx := Nat.lt_succ_of_lt lx
      have my := Nat.lt_succ_of_lt ly
      have mz := Nat.lt_succ_of_lt lz
      have HS3 : Hid (w.heap.size + 1 + 1 < w3.heap.size) := lz
      refine (HF.out w3 HB3.out).mono ?_
      rintro e w4 ⟨hb, ⟨hfn, rfl⟩ | ⟨u, vw, hfu, rfl, hwi, hlo⟩⟩
      · have hnb : hasB x near = false := by
          rcases findI_spec (c := near) HTR.out with ⟨h, _⟩ | ⟨_, u, _, h⟩
          · exact h
          · rw [hfn] at h; cases h
        have HE : Hid (insertI x near c se = (zeroT, 6)) := insertI_six HTR.out HHS.out HCS.out ⟨hn0, hnb⟩
        clear hfn hnb
        have HB4 := Lib.hid (HB3.out.trans (hb.mono HB3.out.size))
        have HX4 := Lib.hid (HX3.out.next hb)
        have HY4 := Lib.hid (HY3.out.next hb)
        have HN4 := Lib.hid (HN3.out.next hb)
        clear lx ly lz mx my mz x0 x1 x2 x3 x4 y0 y1 y2 y3 y4 f0 f1 f2 f3 f4 z0 z1 z2 z3 z4
        clear hb HX3 HY3 HN3 HB3
        obtain ⟨⟨x0, x1, x2, x3, x4⟩, -⟩ := c5 HX4.out
        obtain ⟨⟨y0, y1, y2, y3, y4⟩, ⟨f0, f1, f2, f3, f4⟩⟩ := c5 HY4.out
        obtain ⟨⟨z0, z1, z2, z3, z4⟩, -⟩ := c5 HN4.out
        have lx := HX4.out.lt
        have ly := HY4.out.lt
        have lz := HN4.out.lt
        have mx := Nat.lt_succ_of_lt lx
        have my := Nat.lt_succ_of_lt ly
        have mz := Nat.lt_succ_of_lt lz
        go_wp2_with fail
        obtain ⟨hb5, hq5, -⟩ := st5_next HB4.out (by omega) HY4.out (.int .i64 0) (.int .i64 0) (.int .i64 0) (.int .i64 0) (.slice none 0 0)
        obtain ⟨wE, hwE⟩ : ∃ W, W = st5 w4 (w.heap.size + 1) (.int .i64 0) (.int .i64 0) (.int .i64 0) (.int .i64 0) (.slice none 0 0) := ⟨_, rfl⟩
        rw [← hwE] at hb5 hq5
        unfold st5 at hwE
        rewrite [← hwE]
        obtain ⟨⟨b0, b1, b2, b3, b4⟩, -⟩ := c5 hq5
        exact bodyPost_ret (v := .tuple #[.agg #[.int .i64 0, .int .i64 0, .int .i64 0, .int .i64 0, .slice none 0 0], .int .i64 6]) (by simp [results, Try.results32, go_sem, b0, b1, b2, b3, b4]) rfl ((HR.out _ _).2 (by rw [HE.out]; exact ⟨hb5, zeroT, .slice none 0 0, rfl, KV.nil _ _ none 0, by rw [if_neg (by simp)]⟩))
      · have hfs := findI_spec (c := near) HTR.out
        rcases hfs with ⟨_, h⟩ | ⟨hhb, u', hu, h⟩
        · rw [hfu] at h; cases h
        rw [hfu] at h
        obtain rfl := Option.some.inj h
        have HFU := Lib.hid hfu
        have HHB := Lib.hid hhb
        obtain ⟨v, j, pp, y, rfl, hgp, hgy, -, -, -⟩ := hu
        have HGP := Lib.hid hgp
        have hjp : j < pp.ks.length := (List.getElem?_eq_some_iff.1 hgy).1
        have HJP := Lib.hid hjp
        have hj9 : j < 64 := by have := tree_kids_len HTR.out hgp; omega
        obtain ⟨pw, cw, rfl, hl9, hlc⟩ := hwi.slice
        rw [show (v ++ [j]).length = v.length + 1 by simp] at hwi hlc hl9 ⊢
        obtain ⟨wb, wo, rfl, hwb, hwc⟩ := hwi.last
        have HLO := Lib.hid (hlo wb wo (v.length + 1) cw (by simp))
        obtain ⟨n, hn⟩ : ∃ n, n = v.length := ⟨_, rfl⟩
        rw [← hn] at hwi hwc hlc hl9 ⊢
        have HV4 : Hid (Wv w4 v (.slice (some ⟨wb, wo, none⟩) n cw) wb (wo + n) (j : Int)) := ⟨by have := hwi.take (k := n) (Nat.le_succ n); rwa [show (v ++ [j]).take n = v by rw [hn, List.take_left]] at this, hwb, hwc⟩
        have HL4 := Lib.hid (HL3.out.next hb)
        have hwn : IntKind.i64.wrap (n : Int) = (n : Int) := by rw [IntKind.wrap_i64]; omega
        have hnn : (n : Int) < (n : Int) + 1 := by omega
        clear hn hwi hwb hwc hlo hgy hgp h hfu hhb hn0 HV3 HL3
        have HB4 := Lib.hid (HB3.out.trans (hb.mono HB3.out.size))
        have HX4 := Lib.hid (HX3.out.next hb)
        have HY4 := Lib.hid (HY3.out.next hb)
        have HN4 := Lib.hid (HN3.out.next hb)
        clear lx ly lz mx my mz x0 x1 x2 x3 x4 y0 y1 y2 y3 y4 f0 f1 f2 f3 f4 z0 z1 z2 z3 z4
        clear hb HX3 HY3 HN3 HB3
        obtain ⟨⟨x0, x1, x2, x3, x4⟩, -⟩ := c5 HX4.out
        obtain ⟨⟨y0, y1, y2, y3, y4⟩, ⟨f0, f1, f2, f3, f4⟩⟩ := c5 HY4.out
        obtain ⟨⟨z0, z1, z2, z3, z4⟩, -⟩ := c5 HN4.out
        have lx := HX4.out.lt
        have ly := HY4.out.lt
        have lz := HN4.out.lt
        have mx := Nat.lt_succ_of_lt lx
        have my := Nat.lt_succ_of_lt ly
        have mz := Nat.lt_succ_of_lt lz
        go_wp2_with fail
        refine (At_c Z x pp (.slice p m cap) v _ w4 (HK.out.next HB4.out) (fun b hb => Nat.lt_of_lt_of_le (HZ.out b hb) HB4.out.size) HV4.out.1 HGP.out).mono ?_
        rintro e w5 ⟨hb, s5, rfl, hk5⟩
        obtain ⟨p5, k5, rfl, -⟩ := hk5.slice
        obtain ⟨n5, hn5⟩ : ∃ q, q = pp.ks.length := ⟨_, rfl⟩
        rw [← hn5] at hk5 ⊢
        have HJ5 := Lib.hid hn5
        have HL5 := Lib.hid (HL4.out.next hb)
        have HV5 := Lib.hid (HV4.out.next hb)
        have HK5 := Lib.hid hk5
        clear hk5 hn5 HL4
        have HB5 := Lib.hid (HB4.out.trans (hb.mono HB4.out.size))
        have HX5 := Lib.hid (HX4.out.next hb)
        have HY5 := Lib.hid (HY4.out.next hb)
        have HN5 := Lib.hid (HN4.out.next hb)
        clear lx ly lz mx my mz x0 x1 x2 x3 x4 y0 y1 y2 y3 y4 f0 f1 f2 f3 f4 z0 z1 z2 z3 z4
        clear hb HX4 HY4 HN4 HB4
        obtain ⟨⟨x0, x1, x2, x3, x4⟩, -⟩ := c5 HX5.out
        obtain ⟨⟨y0, y1, y2, y3, y4⟩, ⟨f0, f1, f2, f3, f4⟩⟩ := c5 HY5.out
        obtain ⟨⟨z0, z1, z2, z3, z4⟩, -⟩ := c5 HN5.out
        have lx := HX5.out.lt
        have ly := HY5.out.lt
        have lz := HN5.out.lt
        have mx := Nat.lt_succ_of_lt lx
        have my := Nat.lt_succ_of_lt ly
        have mz := Nat.lt_succ_of_lt lz
        by_cases h64 : n5 = 64
        · subst h64
          have HE : Hid (insertI x near c se = (zeroT, 2)) := by rw [insertI_at HTR.out HHS.out HCS.out (fun h => by have := h.2; rw [HHB.out] at this; cases this) (show insSpot x near = (v, j + 1) by unfold insSpot; rw [if_neg HNZ.out, HFU.out]; simp) HGP.out, if_pos (.inl HJ5.out.symm)]; exact rfl
          go_wp2_with fail
          obtain ⟨hb5, hq5, -⟩ := st5_next HB5.out (by omega) HY5.out (.int .i64 0) (.int .i64 0) (.int .i64 0) (.int .i64 0) (.slice none 0 0)
          obtain ⟨wE, hwE⟩ : ∃ W, W = st5 w5 (w.heap.size + 1) (.int .i64 0) (.int .i64 0) (.int .i64 0) (.int .i64 0) (.slice none 0 0) := ⟨_, rfl⟩
          rw [← hwE] at hb5 hq5
          unfold st5 at hwE
          rewrite [← hwE]
          have hb6 := hb5.alloc (by have := hb5.size; omega) (.cells #[.int .i64 pp.a.k, .int .i64 pp.a.w, .int .i64 pp.a.c, .int .i64 pp.a.s, .slice p5 64 k5] 24)
          have hq6 := hq5.alloc (.cells #[.int .i64 pp.a.k, .int .i64 pp.a.w, .int .i64 pp.a.c, .int .i64 pp.a.s, .slice p5 64 k5] 24)
          obtain ⟨⟨b0, b1, b2, b3, b4⟩, -⟩ := c5 hq6
          exact bodyPost_ret (v := .tuple #[.agg #[.int .i64 0, .int .i64 0, .int .i64 0, .int .i64 0, .slice none 0 0], .int .i64 2]) (by simp [results, Try.results32, go_sem, b0, b1, b2, b3, b4]) rfl ((HR.out _ _).2 (by rw [HE.out]; exact ⟨hb6, zeroT, .slice none 0 0, rfl, KV.nil _ _ none 0, by rw [if_neg (by simp)]⟩))
        · have hlt5 : n5 < 64 := by
            have h1 := HJ5.out
            have h2 := tree_kids_len HTR.out HGP.out
            rw [← h1] at h2
            omega
          have hlt6 : ¬ (64 : Int) ≤ (n5 : Int) := by omega
          go_wp2_with fail
          have hbP := HB5.out.alloc HB5.out.size (.cells #[.int .i64 pp.a.k, .int .i64 pp.a.w, .int .i64 pp.a.c, .int .i64 pp.a.s, .slice p5 n5 k5] 24)
          have hbW := (Below.refl w5.heap.size w5).alloc (Nat.le_refl _) (.cells #[.int .i64 pp.a.k, .int .i64 pp.a.w, .int .i64 pp.a.c, .int .i64 pp.a.s, .slice p5 n5 k5] 24)
          have hqP := Blk.new w5 24 #[.int .i64 pp.a.k, .int .i64 pp.a.w, .int .i64 pp.a.c, .int .i64 pp.a.s, .slice p5 n5 k5]
          obtain ⟨wP, hwP⟩ : ∃ wP, wP = w5.alloc (.cells #[.int .i64 pp.a.k, .int .i64 pp.a.w, .int .i64 pp.a.c, .int .i64 pp.a.s, .slice p5 n5 k5] 24) := ⟨_, rfl⟩
          rw [← hwP] at hbP hbW hqP ⊢
          refine (HAL.out wP hbP).mono ?_
          rintro e w6 ⟨hbA, va, rfl, hrow⟩
          obtain ⟨pa, ca, rfl⟩ := hrow.slice
          obtain ⟨L, hL⟩ : ∃ q, q = (all x).length := ⟨_, rfl⟩
          rw [← hL]
          have HLL := Lib.hid hL
          have hb := hbW.trans (hbA.mono hbW.size)
          have HL6 := Lib.hid (HL5.out.next hb)
          have HV6 := Lib.hid (HV5.out.next hb)
          have HK6 := Lib.hid (HK5.out.next hb)
          have HP6 := Lib.hid (hqP.next hbA)
          have HS5 : Hid (w.heap.size + 1 + 1 < w5.heap.size) := lz
          clear hrow hL hbA hwP hbP hbW hqP HL5 HV5 HK5
          have HB6 := Lib.hid (HB5.out.trans (hb.mono HB5.out.size))
          have HX6 := Lib.hid (HX5.out.next hb)
          have HY6 := Lib.hid (HY5.out.next hb)
          have HN6 := Lib.hid (HN5.out.next hb)
          clear lx ly lz mx my mz x0 x1 x2 x3 x4 y0 y1 y2 y3 y4 f0 f1 f2 f3 f4 z0 z1 z2 z3 z4
          clear hb HX5 HY5 HN5 HB5
          obtain ⟨⟨x0, x1, x2, x3, x4⟩, -⟩ := c5 HX6.out
          obtain ⟨⟨y0, y1, y2, y3, y4⟩, ⟨f0, f1, f2, f3, f4⟩⟩ := c5 HY6.out
          obtain ⟨⟨z0, z1, z2, z3, z4⟩, -⟩ := c5 HN6.out
          have lx := HX6.out.lt
          have ly := HY6.out.lt
          have lz := HN6.out.lt
          have mx := Nat.lt_succ_of_lt lx
          have my := Nat.lt_succ_of_lt ly
          have mz := Nat.lt_succ_of_lt lz
          by_cases h128 : L = 128
          · subst h128
            have HE : Hid (insertI x near c se = (zeroT, 2)) := by rw [insertI_at HTR.out HHS.out HCS.out (fun h => by have := h.2; rw [HHB.out] at this; cases this) (show insSpot x near = (v, j + 1) by unfold insSpot; rw [if_neg HNZ.out, HFU.out]; simp) HGP.out, if_pos (.inr HLL.out.symm)]; exact rfl
            go_wp2_with fail
            obtain ⟨hb5, hq5, -⟩ := st5_next HB6.out (by omega) HY6.out (.int .i64 0) (.int .i64 0) (.int .i64 0) (.int .i64 0) (.slice none 0 0)
            obtain ⟨wE, hwE⟩ : ∃ W, W = st5 w6 (w.heap.size + 1) (.int .i64 0) (.int .i64 0) (.int .i64 0) (.int .i64 0) (.slice none 0 0) := ⟨_, rfl⟩
            rw [← hwE] at hb5 hq5
            unfold st5 at hwE
            rewrite [← hwE]
            obtain ⟨⟨b0, b1, b2, b3, b4⟩, -⟩ := c5 hq5
            exact bodyPost_ret (v := .tuple #[.agg #[.int .i64 0, .int .i64 0, .int .i64 0, .int .i64 0, .slice none 0 0], .int .i64 2]) (by simp [results, Try.results32, go_sem, b0, b1, b2, b3, b4]) rfl ((HR.out _ _).2 (by rw [HE.out]; exact ⟨hb5, zeroT, .slice none 0 0, rfl, KV.nil _ _ none 0, by rw [if_neg (by simp)]⟩))
          · have hltL : L < 128 := by have := HLL.out; have := (tree_parts HTR.out).2.2; omega
            have hltL' : ¬ (128 : Int) ≤ (L : Int) := by omega
            have HE : Hid (insertI x near c se = ((put x v (.mk pp.a (pp.ks.take (j + 1) ++ leafC c se :: pp.ks.drop (j + 1)))), 0)) := by rw [insertI_at HTR.out HHS.out HCS.out (fun h => by have := h.2; rw [HHB.out] at this; cases this) (show insSpot x near = (v, j + 1) by unfold insSpot; rw [if_neg HNZ.out, HFU.out]; simp) HGP.out, if_neg (by have := HJ5.out; have := HLL.out; omega)]; exact rfl
            obtain ⟨NL, hNL⟩ : ∃ l : List Con, l = (pp.ks.take (j + 1) ++ leafC c se :: pp.ks.drop (j + 1)) := ⟨_, rfl⟩
            rw [← hNL] at HE
            have HNL := Lib.hid hNL
            clear hNL
            go_wp2_with fail
            clear x0 x1 x2 x3 x4 y0 y1 y2 y3 y4 f0 f1 f2 f3 f4 z0 z1 z2 z3 z4
            have HS0 : Hid (∀ W, Below w6.heap.size w6 W → (fun wx : World => (wx.cell? ⟨w.heap.size, 0, none⟩ = some (.int .i64 x.a.k) ∧ wx.cell? ⟨w.heap.size, 1, none⟩ = some (.int .i64 x.a.w) ∧ wx.cell? ⟨w.heap.size, 2, none⟩ = some (.int .i64 x.a.c) ∧ wx.cell? ⟨w.heap.size, 3, none⟩ = some (.int .i64 x.a.s) ∧ wx.cell? ⟨w.heap.size, 4, none⟩ = some (.slice p m cap)) ∧ (wx.cell? ⟨w5.heap.size, 0, none⟩ = some (.int .i64 pp.a.k) ∧ wx.cell? ⟨w5.heap.size, 1, none⟩ = some (.int .i64 pp.a.w) ∧ wx.cell? ⟨w5.heap.size, 2, none⟩ = some (.int .i64 pp.a.c) ∧ wx.cell? ⟨w5.heap.size, 3, none⟩ = some (.int .i64 pp.a.s) ∧ wx.cell? ⟨w5.heap.size, 4, none⟩ = some (.slice p5 n5 k5)) ∧ (wx.cell? ⟨w2.heap.size, 0, none⟩ = some (.int .i64 0) ∧ wx.cell? ⟨w2.heap.size, 1, none⟩ = some (.int .i64 65536) ∧ wx.cell? ⟨w2.heap.size, 2, none⟩ = some (.int .i64 c) ∧ wx.cell? ⟨w2.heap.size, 3, none⟩ = some (.int .i64 se) ∧ wx.cell? ⟨w2.heap.size, 4, none⟩ = some (.slice none 0 0)) ∧ wx.cell? ⟨wb, wo + n, none⟩ = some (.int .i64 (j : Int))) W) := fun W h => ⟨(c5 (HX6.out.next h)).1, (c5 (HP6.out.next h)).1, (c5 (HL6.out.next h)).1, (HV6.out.next h).2.2⟩
            have HS1 : Hid (∀ W, Below w6.heap.size w6 W → ∀ v0 v1 v2 v3 v4, (fun wx : World => (wx.cell? ⟨w.heap.size, 0, none⟩ = some (.int .i64 x.a.k) ∧ wx.cell? ⟨w.heap.size, 1, none⟩ = some (.int .i64 x.a.w) ∧ wx.cell? ⟨w.heap.size, 2, none⟩ = some (.int .i64 x.a.c) ∧ wx.cell? ⟨w.heap.size, 3, none⟩ = some (.int .i64 x.a.s) ∧ wx.cell? ⟨w.heap.size, 4, none⟩ = some (.slice p m cap)) ∧ (wx.cell? ⟨w5.heap.size, 0, none⟩ = some (.int .i64 pp.a.k) ∧ wx.cell? ⟨w5.heap.size, 1, none⟩ = some (.int .i64 pp.a.w) ∧ wx.cell? ⟨w5.heap.size, 2, none⟩ = some (.int .i64 pp.a.c) ∧ wx.cell? ⟨w5.heap.size, 3, none⟩ = some (.int .i64 pp.a.s) ∧ wx.cell? ⟨w5.heap.size, 4, none⟩ = some (.slice p5 n5 k5)) ∧ (wx.cell? ⟨w2.heap.size, 0, none⟩ = some (.int .i64 0) ∧ wx.cell? ⟨w2.heap.size, 1, none⟩ = some (.int .i64 65536) ∧ wx.cell? ⟨w2.heap.size, 2, none⟩ = some (.int .i64 c) ∧ wx.cell? ⟨w2.heap.size, 3, none⟩ = some (.int .i64 se) ∧ wx.cell? ⟨w2.heap.size, 4, none⟩ = some (.slice none 0 0)) ∧ wx.cell? ⟨wb, wo + n, none⟩ = some (.int .i64 (j : Int))) (st5 W (w.heap.size + 1) v0 v1 v2 v3 v4)) := fun W h v0 v1 v2 v3 v4 => by
              have hf := fun b hb => cell_same (far_st5 W (w.heap.size + 1) v0 v1 v2 v3 v4 b hb)
              have hx1 : w.heap.size ≠ w.heap.size + 1 := by omega
              have hx2 : w5.heap.size ≠ w.heap.size + 1 := by have := HS5.out; omega
              have hx3 : w2.heap.size ≠ w.heap.size + 1 := by have := HS2.out; omega
              have hx4 : wb ≠ w.heap.size + 1 := (by have := HLO.out; have := HS3.out; omega)
              have := HS0.out W h
              simp only at this ⊢
              rewrite [hf _ hx1, hf _ hx1, hf _ hx1, hf _ hx1, hf _ hx1, hf _ hx2, hf _ hx2, hf _ hx2, hf _ hx2, hf _ hx2, hf _ hx3, hf _ hx3, hf _ hx3, hf _ hx3, hf _ hx3, hf _ hx4]
              exact this
            have HWI : Hid (∀ (W : World) (g : Nat), Below w6.heap.size w6 W → Blk W g 24 #[.int .i64 0, .int .i64 65536, .int .i64 c, .int .i64 se, .slice none 0 0] → w6.heap.size ≤ g → Calls Try.prog 68 #[.agg #[.int .i64 pp.a.k, .int .i64 pp.a.w, .int .i64 pp.a.c, .int .i64 pp.a.s, .slice p5 n5 k5], .int .i64 ((j : Int) + 1), .int .i64 0, .slice (some ⟨g, 0, none⟩) 1 1] W fun e w' => Below W.heap.size W w' ∧ ∃ s', e = .returned (conV pp.a s') ∧ KV w' (fun b => Z b ∨ w6.heap.size ≤ b) NL s') := fun W g h hq hg => by
              refine (With_c (fun b => (Z b ∨ w6.heap.size ≤ b) ∧ b < W.heap.size) pp (.slice p5 n5 k5) (.slice (some ⟨g, 0, none⟩) 1 1) [leafC c se] (j + 1) 0 W (fun _ h => h.2) (((HK6.out.next h).weak fun b hb => .inl hb).lt_) (KV.single (y := leafC c se) (s := .slice none 0 0) hq ⟨.inr hg, hq.lt⟩ (KV.nil _ _ _ _) HLW.out) (by have := HJP.out; omega) (by have := HJ5.out; simp only [List.length_singleton]; omega)).mono fun e w' h' => ?_
              obtain ⟨h1, s', h2, h3⟩ := h'
              refine ⟨h1, s', h2, ?_⟩
              rw [HNL.out]
              have h3 := h3.weak (Z' := fun b => Z b ∨ w6.heap.size ≤ b) fun b hb => hb.elim (fun h => h.1) fun h9 => .inr (Nat.le_trans h.size h9)
              rwa [Nat.add_zero, List.append_assoc, List.singleton_append] at h3
            have HPU : Hid (∀ (W : World) (s : Value), Below w6.heap.size w6 W → KV W (fun b => Z b ∨ w6.heap.size ≤ b) NL s → Calls Try.prog 67 #[.agg #[.int .i64 x.a.k, .int .i64 x.a.w, .int .i64 x.a.c, .int .i64 x.a.s, .slice p m cap], (.slice (some ⟨wb, wo, none⟩) n cw), .agg #[.int .i64 pp.a.k, .int .i64 pp.a.w, .int .i64 pp.a.c, .int .i64 pp.a.s, s]] W fun e w' => Below W.heap.size W w' ∧ ∃ s', e = .returned (conV (put x v (.mk pp.a NL)).a s') ∧ KV w' (fun b => Z b ∨ w6.heap.size ≤ b) (put x v (.mk pp.a NL)).ks s') := fun W s h hs => by
              refine (Put_c (.mk pp.a NL) s (HFX.out _ _ HGP.out).1 v (fun b => (Z b ∨ w6.heap.size ≤ b) ∧ b < W.heap.size) x pp (.slice p m cap) (.slice (some ⟨wb, wo, none⟩) n cw) W (fun _ h => h.2) ((((HK.out.next HB6.out).next h).weak fun b hb => .inl hb).lt_) hs.lt_ (HV6.out.next h).1 HGP.out HFX.out).mono fun e w' h' => ?_
              obtain ⟨h1, s', h2, h3⟩ := h'
              exact ⟨h1, s', h2, h3.weak fun b hb => hb.elim (fun h => h.1) fun h9 => .inr (Nat.le_trans h.size h9)⟩
            have hw0 : IntKind.i64.wrap 0 = 0 := by decide
            have hwm : IntKind.i64.wrap ((j : Int) + 1) = ((j : Int) + 1) := by rw [IntKind.wrap_i64]; omega
            have HWG := Lib.hid (HWI.out ((w6.alloc (.cells #[.int .i64 0, .int .i64 65536, .int .i64 c, .int .i64 se, .slice none 0 0] 24)).drew) w6.heap.size (((Below.refl _ _).alloc (Nat.le_refl _) _).drew) ((Blk.new w6 24 #[.int .i64 0, .int .i64 65536, .int .i64 c, .int .i64 se, .slice none 0 0]).next ((Below.refl _ _).drew)) (Nat.le_refl _))
            have HBG := Lib.hid (((Below.refl w6.heap.size w6).alloc (Nat.le_refl _) (.cells #[.int .i64 0, .int .i64 65536, .int .i64 c, .int .i64 se, .slice none 0 0] 24)).drew)
            clear HWI
            refine wp_region_noPanic ?_
            refine wp_region_held_drew (S := fun wx : World => (wx.cell? ⟨w.heap.size, 0, none⟩ = some (.int .i64 x.a.k) ∧ wx.cell? ⟨w.heap.size, 1, none⟩ = some (.int .i64 x.a.w) ∧ wx.cell? ⟨w.heap.size, 2, none⟩ = some (.int .i64 x.a.c) ∧ wx.cell? ⟨w.heap.size, 3, none⟩ = some (.int .i64 x.a.s) ∧ wx.cell? ⟨w.heap.size, 4, none⟩ = some (.slice p m cap)) ∧ (wx.cell? ⟨w5.heap.size, 0, none⟩ = some (.int .i64 pp.a.k) ∧ wx.cell? ⟨w5.heap.size, 1, none⟩ = some (.int .i64 pp.a.w) ∧ wx.cell? ⟨w5.heap.size, 2, none⟩ = some (.int .i64 pp.a.c) ∧ wx.cell? ⟨w5.heap.size, 3, none⟩ = some (.int .i64 pp.a.s) ∧ wx.cell? ⟨w5.heap.size, 4, none⟩ = some (.slice p5 n5 k5)) ∧ (wx.cell? ⟨w2.heap.size, 0, none⟩ = some (.int .i64 0) ∧ wx.cell? ⟨w2.heap.size, 1, none⟩ = some (.int .i64 65536) ∧ wx.cell? ⟨w2.heap.size, 2, none⟩ = some (.int .i64 c) ∧ wx.cell? ⟨w2.heap.size, 3, none⟩ = some (.int .i64 se) ∧ wx.cell? ⟨w2.heap.size, 4, none⟩ = some (.slice none 0 0)) ∧ wx.cell? ⟨wb, wo + n, none⟩ = some (.int .i64 (j : Int))) (by kernel_rfl) (by exact HS0.out _ (Below.refl _ _).drew) (fun hHeld => ?_)
            refine wpAnyH_take (i := 0) (v := ?vq0) rfl (by kernel_rfl) (by kernel_rfl) (by kernel_rfl) (fun _ _ _ h => h) (Or.inl ⟨by kernel_rfl, ?yq0⟩) (by assumption) ?rq0
            case yq0 => (intro wq hSw; (try dsimp only at hSw); go_simp; (try with_reducible rfl))
            (try simp only [Act.put, List.getElem_toArray, List.getElem_cons_zero, List.setIfInBounds_toArray, List.set_cons_zero, List.set_cons_succ])
            refine wpAnyH_take (i := 1) (v := ?vq1) rfl (by kernel_rfl) (by kernel_rfl) (by kernel_rfl) (fun _ _ _ h => h) (Or.inl ⟨by kernel_rfl, ?yq1⟩) (by assumption) ?rq1
            case yq1 => (intro wq hSw; (try dsimp only at hSw); go_simp; (try with_reducible rfl))
            (try simp only [Act.put, List.getElem_toArray, List.getElem_cons_succ, List.getElem_cons_zero, List.setIfInBounds_toArray, List.set_cons_zero, List.set_cons_succ])
            refine wpAnyH_take (i := 2) (v := ?vq2) rfl (by kernel_rfl) (by kernel_rfl) (by kernel_rfl) (fun _ _ _ h => h) (Or.inl ⟨by kernel_rfl, ?yq2⟩) (by assumption) ?rq2
            case yq2 => (intro wq hSw; (try dsimp only at hSw); go_simp; (try with_reducible rfl))
            (try simp only [Act.put, List.getElem_toArray, List.getElem_cons_succ, List.getElem_cons_zero, List.setIfInBounds_toArray, List.set_cons_zero, List.set_cons_succ])
            refine wpAnyH_take (i := 3) (v := ?vq3) rfl (by kernel_rfl) (by kernel_rfl) (by kernel_rfl) (fun _ _ _ h => h) (Or.inl ⟨by kernel_rfl, ?yq3⟩) (by assumption) ?rq3
            case yq3 => (intro wq hSw; (try dsimp only at hSw); go_simp; (try with_reducible rfl))
            (try simp only [Act.put, List.getElem_toArray, List.getElem_cons_succ, List.getElem_cons_zero, List.setIfInBounds_toArray, List.set_cons_zero, List.set_cons_succ])
            refine wpAnyH_take (i := 4) (v := ?vq4) rfl (by kernel_rfl) (by kernel_rfl) (by kernel_rfl) (fun _ _ _ h => h) (Or.inl ⟨by kernel_rfl, ?yq4⟩) (by assumption) ?rq4
            case yq4 => (intro wq hSw; (try dsimp only at hSw); go_simp; (try with_reducible rfl))
            (try simp only [Act.put, List.getElem_toArray, List.getElem_cons_succ, List.getElem_cons_zero, List.setIfInBounds_toArray, List.set_cons_zero, List.set_cons_succ])
            refine wpAnyH_take (i := 5) (v := ?vq5) rfl (by kernel_rfl) (by kernel_rfl) (by kernel_rfl) (fun _ _ _ h => h) (Or.inl ⟨by kernel_rfl, ?yq5⟩) (by assumption) ?rq5
            case yq5 => (intro wq hSw; (try dsimp only at hSw); go_simp; (try with_reducible rfl))
            (try simp only [Act.put, List.getElem_toArray, List.getElem_cons_succ, List.getElem_cons_zero, List.setIfInBounds_toArray, List.set_cons_zero, List.set_cons_succ])
            refine wpAnyH_take (i := 6) (v := ?vq6) rfl (by kernel_rfl) (by kernel_rfl) (by kernel_rfl) (fun _ _ _ h => h) (Or.inl ⟨by kernel_rfl, ?yq6⟩) (by assumption) ?rq6
            case yq6 => (intro wq hSw; (try dsimp only at hSw); go_simp; (try with_reducible rfl))
            (try simp only [Act.put, List.getElem_toArray, List.getElem_cons_succ, List.getElem_cons_zero, List.setIfInBounds_toArray, List.set_cons_zero, List.set_cons_succ])
            refine wpAnyH_take (i := 7) (v := ?vq7) rfl (by kernel_rfl) (by kernel_rfl) (by kernel_rfl) (fun _ _ _ h => h) (Or.inl ⟨by kernel_rfl, ?yq7⟩) (by assumption) ?rq7
            case yq7 => (intro wq hSw; (try dsimp only at hSw); go_simp; (try with_reducible rfl))
            (try simp only [Act.put, List.getElem_toArray, List.getElem_cons_succ, List.getElem_cons_zero, List.setIfInBounds_toArray, List.set_cons_zero, List.set_cons_succ])
            refine wpAnyH_take (i := 8) (v := ?vq8) rfl (by kernel_rfl) (by kernel_rfl) (by kernel_rfl) (fun _ _ _ h => h) (Or.inl ⟨by kernel_rfl, ?yq8⟩) (by assumption) ?rq8
            case yq8 => (intro wq hSw; (try dsimp only at hSw); go_simp; (try with_reducible rfl))
            (try simp only [Act.put, List.getElem_toArray, List.getElem_cons_succ, List.getElem_cons_zero, List.setIfInBounds_toArray, List.set_cons_zero, List.set_cons_succ])
            refine wpAnyH_take (i := 9) (v := ?vq9) rfl (by kernel_rfl) (by kernel_rfl) (by kernel_rfl) (fun _ _ _ h => h) (Or.inl ⟨by kernel_rfl, ?yq9⟩) (by assumption) ?rq9
            case yq9 => (intro wq hSw; (try dsimp only at hSw); go_simp; (try with_reducible rfl))
            (try simp only [Act.put, List.getElem_toArray, List.getElem_cons_succ, List.getElem_cons_zero, List.setIfInBounds_toArray, List.set_cons_zero, List.set_cons_succ])
            refine wpAnyH_take (i := 10) (v := ?vq10) rfl (by kernel_rfl) (by kernel_rfl) (by kernel_rfl) (fun _ _ _ h => h) (Or.inl ⟨by kernel_rfl, ?yq10⟩) (by assumption) ?rq10
            case yq10 => (intro wq hSw; (try dsimp only at hSw); go_simp; (try with_reducible rfl))
            (try simp only [Act.put, List.getElem_toArray, List.getElem_cons_succ, List.getElem_cons_zero, List.setIfInBounds_toArray, List.set_cons_zero, List.set_cons_succ])
            refine wpAnyH_ready (rs := [11]) (by kernel_rfl) (by simp) ?_
            refine AllReadyH.cons rfl (fun K hK => ?_) AllReadyH.nil
            go_simp
            refine hK.out _ _ (by exact HS0.out _ HBG.out) (fun hHeld => ?_)
            clear hK K
            (try simp only [Act.put, List.getElem_toArray, List.getElem_cons_succ, List.getElem_cons_zero, List.setIfInBounds_toArray, List.set_cons_zero, List.set_cons_succ])
            refine wpAnyH_ready (rs := [12]) (by kernel_rfl) (by simp) ?_
            refine AllReadyH.cons rfl (fun K hK => ?_) AllReadyH.nil
            go_simp
            refine (HWG.out).mono ?_
            rintro e7 w7 ⟨hb7, s7, rfl, hk7⟩; obtain ⟨p7, k7, rfl, -⟩ := hk7.slice; obtain ⟨n7, hn7⟩ : ∃ q, q = NL.length := ⟨_, rfl⟩; rw [← hn7] at hk7 ⊢; have HB7 := Lib.hid (HBG.out.trans (hb7.mono HBG.out.size)); have HK7 := Lib.hid hk7; clear hb7 hk7 hn7
            (try dsimp only)
            refine hK.out _ _ (by exact HS0.out _ HB7.out) (fun hHeld => ?_)
            clear hK K
            (try simp only [Act.put, List.getElem_toArray, List.getElem_cons_succ, List.getElem_cons_zero, List.setIfInBounds_toArray, List.set_cons_zero, List.set_cons_succ])
            refine wpAnyH_ready (rs := [13]) (by kernel_rfl) (by simp) ?_
            refine AllReadyH.cons rfl (fun K hK => ?_) AllReadyH.nil
            go_simp
            refine (HPU.out _ _ HB7.out HK7.out).mono ?_
            rintro e8 w8 ⟨hb8, s8, rfl, hk8⟩; obtain ⟨p8, k8, rfl, -⟩ := hk8.slice; obtain ⟨Y, hY⟩ : ∃ Y, Y = (put x v (.mk pp.a NL)) := ⟨_, rfl⟩; rw [← hY] at hk8 ⊢; have HY := Lib.hid hY; obtain ⟨n8, hn8⟩ : ∃ q, q = Y.ks.length := ⟨_, rfl⟩; rw [← hn8] at hk8 ⊢; have HB8 := Lib.hid (HB7.out.trans (hb8.mono HB7.out.size)); have HK8 := Lib.hid hk8; clear hb8 hk8 hn8 hY; obtain ⟨-, ⟨f0, f1, f2, f3, f4⟩⟩ := c5 (HY6.out.next HB8.out); obtain ⟨⟨y0, y1, y2, y3, y4⟩, -⟩ := c5 (HY6.out.next HB8.out)
            (try dsimp only)
            refine hK.out _ _ (by exact HS0.out _ HB8.out) (fun hHeld => ?_)
            clear hK K
            (try simp only [Act.put, List.getElem_toArray, List.getElem_cons_succ, List.getElem_cons_zero, List.setIfInBounds_toArray, List.set_cons_zero, List.set_cons_succ])
            refine wpAnyH_ready (rs := [14]) (by kernel_rfl) (by simp) ?_
            refine AllReadyH.cons rfl (fun K hK => ?_) AllReadyH.nil
            go_simp
            refine hK.out _ _ (by exact HS1.out w8 HB8.out (.int .i64 Y.a.k) (.int .i64 Y.a.w) (.int .i64 Y.a.c) (.int .i64 Y.a.s) (.slice p8 n8 k8)) (fun hHeld => ?_)
            clear hK K
            (try simp only [Act.put, List.getElem_toArray, List.getElem_cons_succ, List.getElem_cons_zero, List.setIfInBounds_toArray, List.set_cons_zero, List.set_cons_succ])
            refine wpAnyH_take (i := 15) (v := ?vq15) rfl (by kernel_rfl) (by kernel_rfl) (by kernel_rfl) (fun _ _ _ h => h) (Or.inl ⟨by kernel_rfl, ?yq15⟩) (by assumption) ?rq15
            case yq15 => (intro wq hSw; (try dsimp only at hSw); go_simp; (try with_reducible rfl))
            (try simp only [Act.put, List.getElem_toArray, List.getElem_cons_succ, List.getElem_cons_zero, List.setIfInBounds_toArray, List.set_cons_zero, List.set_cons_succ])
            refine wpAnyH_done (by kernel_rfl) ?_ _
            refine NoPanic.normal ?_
            go_wp2_with fail
            obtain ⟨hb5, hq5, -⟩ := st5_next (HB6.out.trans (HB8.out.mono HB6.out.size)) (by omega) (HY6.out.next HB8.out) (.int .i64 Y.a.k) (.int .i64 Y.a.w) (.int .i64 Y.a.c) (.int .i64 Y.a.s) (.slice p8 n8 k8)
            have hk5 := KV.st5 (g := w.heap.size + 1) (Z' := fun b => Z b ∨ w.heap.size ≤ b) HK8.out (fun b hb => by rcases hb with hb | hb; (have := HZ.out b hb; omega); omega) (fun b hb => by rcases hb with hb | hb; exact .inl hb; (right; omega)) (.int .i64 Y.a.k) (.int .i64 Y.a.w) (.int .i64 Y.a.c) (.int .i64 Y.a.s) (.slice p8 n8 k8)
            obtain ⟨w9, hw9⟩ : ∃ W, W = st5 w8 (w.heap.size + 1) (.int .i64 Y.a.k) (.int .i64 Y.a.w) (.int .i64 Y.a.c) (.int .i64 Y.a.s) (.slice p8 n8 k8) := ⟨_, rfl⟩
            rw [← hw9] at hb5 hq5 hk5
            unfold st5 at hw9
            rewrite [← hw9]
            obtain ⟨⟨b0, b1, b2, b3, b4⟩, -⟩ := c5 hq5
            exact bodyPost_ret (v := .tuple #[.agg #[.int .i64 Y.a.k, .int .i64 Y.a.w, .int .i64 Y.a.c, .int .i64 Y.a.s, .slice p8 n8 k8], .int .i64 0]) (by simp [results, Try.results32, go_sem, b0, b1, b2, b3, b4]) rfl ((HR.out _ _).2 (by rw [HE.out]; exact ⟨hb5, Y, .slice p8 n8 k8, rfl, hk5, by rw [if_pos rfl, HY.out]⟩))
end Go.Proofs.Ytjlkmcoamcclgaa.Co
end
