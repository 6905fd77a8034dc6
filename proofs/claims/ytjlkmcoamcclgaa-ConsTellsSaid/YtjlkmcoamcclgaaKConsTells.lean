/- The document's less. The document's Remove. Small containers; what the code's calls tell, as it reads. The law's example. ConsRemoves, walked. The document's Top. Are two rows of numbers the same? Rows of numbers, as they read. ConsTells, walked. Arguments that are slices of ints, opened; and the last step of a law's row, whatever its arguments are, where 'Below' is known of the world behind the call. An argument that is a container, opened. The law ConsTells holds for every input: the call returns true, and each argument reads behind it as it read before. No condition. -/
import Derived.Test.YtjlkmcoamcclgaaCpZ
import Derived.Test.YtjlkmcoamcclgaaCpF
import Derived.Test.YtjlkmcoamcclgaaCpM
import Derived.Test.YtjlkmcoamcclgaaCqG
import Derived.Test.YtjlkmcoamcclgaaCpX
import Derived.Test.YtjlkmcoamcclgaaCpQ
import Derived.Test.YtjlkmcoamcclgaaCpY
import Derived.Test.YtjlkmcoamcclgaaCpI
import Derived.Test.YtjlkmcoamcclgaaCpR
import Derived.Test.YtjlkmcoamcclgaaCpJ
import Derived.Test.YtjlkmcoamcclgaaCpK
import Derived.Test.YtjlkmcoamcclgaaProg
import Derived.WalkKit
import Derived.ProofKit
import Derived.Below
import Derived.ChangeSame
import Derived.ChangeSlices
import Derived.Deep.Slices
import Derived.Deep.Fields
import Derived.SizedLaws
import Derived.Test.YtjlkmcoamcclgaaRows
import Derived.Lib.SmallJoins
import Derived.Laws.Cover2
import Derived.ChangeMaps5
section
namespace Go.Proofs.Ytjlkmcoamcclgaa.Co
open Go.RowKit Go.Shelf Go.Maps
theorem add0 (g i : Nat) : (⟨g, 0, none⟩ : Addr).add i = ⟨g, i, none⟩ := by unfold Addr.add; split <;> simp_all
theorem KV.st5 {w : World} {Z Z' : Nat → Prop} {ks : List Con} {v : Value} {g : Nat} (h : KV w Z ks v) (hg : ∀ b, Z b → b ≠ g) (hz : ∀ b, Z b → Z' b) (v0 v1 v2 v3 v4 : Value) : KV (st5 w g v0 v1 v2 v3 v4) Z' ks v :=
  h.same hz (by simp [Co.st5, World.setCell]) fun b hb _ => far_st5 w g v0 v1 v2 v3 v4 b (hg b hb)
/-- What is left, and whether. -/
def LessR (Z : Nat → Prop) (x : Con) (c : Int) (w : World) (e : Ending) (w' : World) : Prop :=
  Below w.heap.size w w' ∧ ∃ (y : Con) (s : Value), e = .returned (.tuple #[conV y.a s, .bool (lessT c x).isSome]) ∧ KV w' (fun b => Z b ∨ w.heap.size ≤ b) y.ks s ∧ ∀ t, lessT c x = some t → y = t
set_option maxHeartbeats 4000000 in
theorem less_c (c : Int) : ∀ (x : Con) (Z : Nat → Prop) (sv : Value) (w : World), KV w Z x.ks sv → (∀ b, Z b → b < w.heap.size) → (all x).length ≤ 1000000 → fine x →
    Calls Try.prog 74 #[conV x.a sv, .int .i64 c] w (LessR Z x c w) := by
  intro x
  induction x using Tr.ind with
  | h a ks ih =>
    intro Z sv w hK hZ hd hf
    obtain ⟨p, cap, rfl, -⟩ : ∃ p cap, sv = .slice p ks.length cap ∧ ks.length ≤ 1152921504606846976 := hK.slice
    have hK : KV w Z ks (.slice p ks.length cap) := hK
    obtain ⟨m, hm⟩ : ∃ m, m = ks.length := ⟨_, rfl⟩
    rw [← hm] at hK ⊢
    obtain ⟨hfa, hfl, hfk⟩ := fine_kids hf
    rw [← hm] at hfl
    obtain ⟨R, hR⟩ : ∃ R, R = LessR Z (.mk a ks) c w := ⟨_, rfl⟩
    have hRe : ∀ e w', R e w' ↔ LessR Z (.mk a ks) c w e w' := by rw [hR]; exact fun _ _ => Iff.rfl
    rw [← hR]
    have HR := Lib.hid hRe
    obtain ⟨wB, hwB⟩ : ∃ wB, wB = (w.alloc (.cells #[.int .i64 a.k, .int .i64 a.w, .int .i64 a.c, .int .i64 a.s, .slice p m cap] 24)).alloc (.cells #[.int .i64 0, .int .i64 0, .int .i64 0, .int .i64 0, .slice none 0 0] 24) := ⟨_, rfl⟩
    have hb0 : Below w.heap.size w wB := by rw [hwB]; exact ((Below.refl w.heap.size w).alloc (Nat.le_refl _) _).alloc (by simp) _
    have hq1 : Blk wB w.heap.size 24 #[.int .i64 a.k, .int .i64 a.w, .int .i64 a.c, .int .i64 a.s, .slice p m cap] := by rw [hwB]; exact (Blk.new w 24 _).alloc _
    have hq2 : Blk wB (w.heap.size + 1) 24 #[.int .i64 0, .int .i64 0, .int .i64 0, .int .i64 0, .slice none 0 0] := by
      rw [hwB]; have := Blk.new (w.alloc (.cells #[.int .i64 a.k, .int .i64 a.w, .int .i64 a.c, .int .i64 a.s, .slice p m cap] 24)) 24 #[.int .i64 0, .int .i64 0, .int .i64 0, .int .i64 0, .slice none 0 0]; rwa [World.size_alloc] at this
    have HB := Lib.hid hb0
    have HQ1 := Lib.hid hq1
    have HQ2 := Lib.hid hq2
    have HWB := Lib.hid hwB
    have HK := Lib.hid hK
    have HZ := Lib.hid hZ
    by_cases hk0 : a.k = 0
    · have hke : (a.k == 0) = true := by simpa using hk0
      have hT : lessT c (.mk a ks) = if a.c = c then none else some (.mk a ks) := by simp only [lessT]; rw [if_pos hk0]
      have HT := Lib.hid hT
      obtain ⟨⟨q0, q1, q2, q3, q4⟩, -⟩ := c5 hq1
      obtain ⟨⟨r0, r1, r2, r3, r4⟩, ⟨f0, f1, f2, f3, f4⟩⟩ := c5 hq2
      clear hR hRe hK hZ hd hf hwB hb0 hq1 hq2 hfk ih hm hT hk0
      show Calls Try.prog 74 #[.agg #[.int .i64 a.k, .int .i64 a.w, .int .i64 a.c, .int .i64 a.s, .slice p m cap], .int .i64 c] w R
      go_enter Try.func74, Try.ntmps74
      go_wp2_with fail
      rw [← HWB.out]
      go_region
      go_wp2_with fail
      obtain ⟨hb5, hq5, -⟩ := st5_next HB.out (by omega) HQ2.out (.int .i64 a.k) (.int .i64 a.w) (.int .i64 a.c) (.int .i64 a.s) (.slice p m cap)
      have hk5 := KV.st5 (g := w.heap.size + 1) (Z' := fun b => Z b ∨ w.heap.size ≤ b) (HK.out.next HB.out) (fun b hb => by have := HZ.out b hb; omega) (fun b hb => .inl hb) (.int .i64 a.k) (.int .i64 a.w) (.int .i64 a.c) (.int .i64 a.s) (.slice p m cap)
      obtain ⟨w5, hw5⟩ : ∃ w5, w5 = st5 wB (w.heap.size + 1) (.int .i64 a.k) (.int .i64 a.w) (.int .i64 a.c) (.int .i64 a.s) (.slice p m cap) := ⟨_, rfl⟩
      rw [← hw5] at hb5 hq5 hk5
      unfold st5 at hw5
      rw [← hw5]
      obtain ⟨⟨b0, b1, b2, b3, b4⟩, -⟩ := c5 hq5.drew
      exact bodyPost_ret (v := .tuple #[.agg #[.int .i64 a.k, .int .i64 a.w, .int .i64 a.c, .int .i64 a.s, .slice p m cap], .bool (a.c != c)]) (by simp [results, Try.results74, go_sem, b0, b1, b2, b3, b4]) rfl ((HR.out _ _).2 ⟨hb5.drew, .mk a ks, .slice p m cap, (by rw [HT.out]; by_cases hac : a.c = c <;> simp [hac]), hk5.drew, (fun t ht => by rw [HT.out] at ht; split at ht; cases ht; exact Option.some.inj ht)⟩)
    · have hke : (a.k == 0) = false := by simpa using hk0
      have hd' : (all (.mk a ks)).length ≤ 1000000 := hd
      have HI := Lib.hid (Has_c Z (.mk a ks) (.slice p m cap) c wB (hK.next hb0) hd (fun b hb => Nat.lt_of_lt_of_le (hZ b hb) hb0.size))
      obtain ⟨⟨q0, q1, q2, q3, q4⟩, -⟩ := c5 hq1
      cases hhb : hasB (.mk a ks) c
      · rw [hhb] at HI
        have HT := Lib.hid (lessT_same hhb)
        clear hR hRe hK hZ hd hd' hf hwB hb0 hq1 hq2 hfk ih hm hk0 hhb
        show Calls Try.prog 74 #[.agg #[.int .i64 a.k, .int .i64 a.w, .int .i64 a.c, .int .i64 a.s, .slice p m cap], .int .i64 c] w R
        go_enter Try.func74, Try.ntmps74
        go_wp2_with fail
        rw [← HWB.out]
        go_wp2_with fail
        refine HI.out.mono ?_
        rintro e w1 ⟨rfl, hb⟩
        have HB1 := Lib.hid (HB.out.trans (hb.mono HB.out.size))
        have HQ3 := Lib.hid (HQ2.out.next hb)
        clear q0 q1 q2 q3 q4
        obtain ⟨⟨q0, q1, q2, q3, q4⟩, -⟩ := c5 (HQ1.out.next hb)
        obtain ⟨⟨r0, r1, r2, r3, r4⟩, ⟨f0, f1, f2, f3, f4⟩⟩ := c5 HQ3.out
        clear hb
        go_wp2_with fail
        obtain ⟨hb5, hq5, -⟩ := st5_next HB1.out (by omega) HQ3.out (.int .i64 a.k) (.int .i64 a.w) (.int .i64 a.c) (.int .i64 a.s) (.slice p m cap)
        have hk5 := KV.st5 (g := w.heap.size + 1) (Z' := fun b => Z b ∨ w.heap.size ≤ b) (HK.out.next HB1.out) (fun b hb => by have := HZ.out b hb; omega) (fun b hb => .inl hb) (.int .i64 a.k) (.int .i64 a.w) (.int .i64 a.c) (.int .i64 a.s) (.slice p m cap)
        obtain ⟨w5, hw5⟩ : ∃ w5, w5 = st5 w1 (w.heap.size + 1) (.int .i64 a.k) (.int .i64 a.w) (.int .i64 a.c) (.int .i64 a.s) (.slice p m cap) := ⟨_, rfl⟩
        rw [← hw5] at hb5 hq5 hk5
        unfold st5 at hw5
        rw [← hw5]
        obtain ⟨⟨b0, b1, b2, b3, b4⟩, -⟩ := c5 hq5
        exact bodyPost_ret (v := .tuple #[.agg #[.int .i64 a.k, .int .i64 a.w, .int .i64 a.c, .int .i64 a.s, .slice p m cap], .bool true]) (by simp [results, Try.results74, go_sem, b0, b1, b2, b3, b4]) rfl ((HR.out _ _).2 ⟨hb5, .mk a ks, .slice p m cap, (by rw [HT.out]; rfl), hk5, (fun t ht => by rw [HT.out] at ht; exact Option.some.inj ht)⟩)
      · rw [hhb] at HI
        have hT : lessT c (.mk a ks) = packT a (lessL c ks) := by simp only [lessT]; rw [if_neg hk0, if_neg (by rw [hhb]; simp)]
        have HT := Lib.hid hT
        have HIH : Hid (∀ (j : Nat) (q : Con) (s : Value) (W : World), ks[j]? = some q → KV w Z q.ks s → Below w.heap.size w W → Calls Try.prog 74 #[conV q.a s, .int .i64 c] W (LessR Z q c W)) := fun j q s W hj hs hb => by
          have hq := List.mem_of_getElem? hj
          refine ih q hq Z s W (hs.next hb) (fun b h => Nat.lt_of_lt_of_le (hZ b h) hb.size) ?_ (hfk q hq)
          rw [all_kid hk0] at hd'
          obtain ⟨l1, l2, e⟩ := List.append_of_mem hq
          rw [e, List.flatMap_append, List.flatMap_cons] at hd'
          simp at hd'; omega
        have HFK := Lib.hid hfk
        have HFA := Lib.hid hfa
        have HM := Lib.hid hm
        clear hR hRe hK hZ hd hd' hf hwB hb0 hq1 hq2 hfk ih hm hk0 hhb hT
        show Calls Try.prog 74 #[.agg #[.int .i64 a.k, .int .i64 a.w, .int .i64 a.c, .int .i64 a.s, .slice p m cap], .int .i64 c] w R
        go_enter Try.func74, Try.ntmps74
        go_wp2_with fail
        rw [← HWB.out]
        go_wp2_with fail
        refine HI.out.mono ?_
        rintro e w1 ⟨rfl, hb⟩
        have hb1 := HB.out.trans (hb.mono HB.out.size)
        have hq1 := HQ1.out.next hb
        have hq2 := HQ2.out.next hb
        have hs1 : w.heap.size + 1 + 1 ≤ w1.heap.size := hq2.lt
        clear hb q0 q1 q2 q3 q4 HI
        go_wp2_with fail
        go_loopw [6, 7] (fun v z wr => ∃ i : Nat, i ≤ m ∧ z = .int .i64 i ∧ Below w.heap.size w wr ∧ Blk wr w.heap.size 24 #[.int .i64 a.k, .int .i64 a.w, .int .i64 a.c, .int .i64 a.s, .slice p m cap] ∧ Blk wr (w.heap.size + 1) 24 #[.int .i64 0, .int .i64 0, .int .i64 0, .int .i64 0, .slice none 0 0] ∧ RowF (fun b => Z b ∨ w.heap.size + 1 + 1 ≤ b) (w.heap.size + 1 + 1) (lessL c (ks.take i)) v wr) (fun _ z _ => m - (intOf z).toNat)
        case atStart => exact ⟨0, Nat.zero_le _, rfl, hb1, hq1, hq2, RowF.nil _ _ _⟩
        case round =>
          clear hb1 hq1 hq2 hs1
          obtain ⟨i, hi, rfl, hW, hq1, hq2, hrow⟩ := hrel
          have hsr : w.heap.size + 1 + 1 ≤ wr.heap.size := hq2.lt
          by_cases hlt : i < m
          · obtain ⟨q, hq⟩ : ∃ q, ks[i]? = some q := ⟨_, List.getElem?_eq_getElem (by rw [← HM.out]; exact hlt)⟩
            obtain ⟨-, kb, ko, sq, rfl, -, hkb, -, hkq, c0, c1, c2, c3, c4⟩ := HK.out.kid hq
            have HL := Lib.hid (HIH.out i q sq wr hq hkq hW)
            obtain ⟨pq, kq, rfl, -⟩ := hkq.slice
            obtain ⟨nq, hnq⟩ : ∃ n, n = q.ks.length := ⟨_, rfl⟩
            rw [← hnq] at HL c4
            obtain ⟨c0, c1, c2, c3, c4⟩ := cells5 hW hkb ⟨c0, c1, c2, c3, c4⟩
            obtain ⟨⟨q0, q1, q2, q3, q4⟩, -⟩ := c5 hq1
            obtain ⟨n, hn⟩ : ∃ n, n = (lessL c (ks.take i)).length := ⟨_, rfl⟩
            obtain ⟨pv, cv, rfl⟩ := hrow.slice' hn.symm
            have HSN := Lib.hid (lessL_snoc (c := c) hq)
            have hnm : n ≤ m := by rw [hn]; have := lessL_len c (ks.take i); simp at this; omega
            have HN := Lib.hid hn
            have HRW := Lib.hid hrow
            have HW := Lib.hid hW
            have HQ3 := Lib.hid hq1
            have HQ4 := Lib.hid hq2
            have HSR := Lib.hid hsr
            have HQF := Lib.hid (HFK.out q (List.mem_of_getElem? hq))
            clear hq hkq hnq hn hrow hW hq1 hq2 hsr
            go_wp2_with fail
            refine HL.out.mono ?_
            rintro e w2 ⟨hb, y, s, rfl, hky, hyt⟩
            obtain ⟨py, ky, rfl, -⟩ := hky.slice
            obtain ⟨ny, hny⟩ : ∃ n, n = y.ks.length := ⟨_, rfl⟩
            rw [← hny] at hky ⊢
            have HOL : Hid (∀ g, (Value.slice pv n cv).ownBlock = some g → w.heap.size + 1 + 1 ≤ g ∧ g < wr.heap.size) := fun g hg => by obtain ⟨vs, h1, _⟩ := HRW.out; exact h1.lt g hg
            have HKY := Lib.hid hky
            have HB2 := Lib.hid hb
            cases hl : lessT c q with
            | none =>
              have HSE : Hid (lessL c (ks.take (i + 1)) = lessL c (ks.take i)) := by show _ = _; rw [HSN.out, hl]; simp
              clear hky hyt hny hb hl
              go_wp2_with fail
              have hb3 := HB2.out.alloc HB2.out.size (.cells #[.int .i64 y.a.k, .int .i64 y.a.w, .int .i64 y.a.c, .int .i64 y.a.s, .slice py ny ky] 24)
              obtain ⟨w3, hw3⟩ : ∃ w3, w3 = w2.alloc (.cells #[.int .i64 y.a.k, .int .i64 y.a.w, .int .i64 y.a.c, .int .i64 y.a.s, .slice py ny ky] 24) := ⟨_, rfl⟩
              rw [← hw3] at hb3 ⊢
              refine ⟨⟨i + 1, by omega, by go_num, HW.out.trans (hb3.mono HW.out.size), HQ3.out.next hb3, HQ4.out.next hb3, ?_⟩, by simp [intOf]; omega⟩
              rw [HSE.out]
              exact HRW.out.next hb3
            | some t =>
              have HSE : Hid (lessL c (ks.take (i + 1)) = lessL c (ks.take i) ++ [t]) := by show _ = _; rw [HSN.out, hl]; simp
              have hyt := hyt t hl
              subst hyt
              have HYF := Lib.hid (lessT_fine c q y HQF.out hl)
              obtain ⟨w4, hw4⟩ : ∃ w4, w4 = (w2.alloc (.cells #[.int .i64 y.a.k, .int .i64 y.a.w, .int .i64 y.a.c, .int .i64 y.a.s, .slice py ny ky] 24)).alloc (.cells #[.int .i64 y.a.k, .int .i64 y.a.w, .int .i64 y.a.c, .int .i64 y.a.s, .slice py ny ky] 24) := ⟨_, rfl⟩
              have hb4 : Below wr.heap.size wr w4 := by rw [hw4]; exact (hb.alloc hb.size _).alloc (by have := hb.size; simp; omega) _
              have hq4 : Blk w4 (w2.heap.size + 1) 24 #[.int .i64 y.a.k, .int .i64 y.a.w, .int .i64 y.a.c, .int .i64 y.a.s, .slice py ny ky] := by
                rw [hw4]; have := Blk.new (w2.alloc (.cells #[.int .i64 y.a.k, .int .i64 y.a.w, .int .i64 y.a.c, .int .i64 y.a.s, .slice py ny ky] 24)) 24 #[.int .i64 y.a.k, .int .i64 y.a.w, .int .i64 y.a.c, .int .i64 y.a.s, .slice py ny ky]; rwa [World.size_alloc] at this
              have hb24 : Below w2.heap.size w2 w4 := by rw [hw4]; exact ((Below.refl _ _).alloc (Nat.le_refl _) _).alloc (by simp) _
              have HR4 := Lib.hid (HRW.out.next hb4)
              have HK4 : Hid (KV w4 (fun b => (Z b ∨ w.heap.size + 1 + 1 ≤ b) ∧ some b ≠ (Value.slice pv n cv).ownBlock) [y] (.slice (some ⟨w2.heap.size + 1, 0, none⟩) 1 1)) := by
                refine KV.single hq4 ⟨.inr (by have := HB2.out.size; have := HSR.out; omega), fun e => by have := (HOL.out _ e.symm).2; have := HB2.out.size; omega⟩ ((hky.next hb24).weak fun b hz => ?_) (HYF.out [] y rfl).1
                rcases hz with hz | hz
                · exact ⟨.inl hz, fun e => by have := (HOL.out _ e.symm).1; have := HZ.out b hz; omega⟩
                · exact ⟨.inr (by have := HSR.out; omega), fun e => by have := (HOL.out _ e.symm).2; omega⟩
              have HLN : Hid ((lessL c (ks.take i)).length + [y].length ≤ 1000000) := by show _ ≤ _; rw [← HN.out]; simp; omega
              have HS4 : Hid (w.heap.size + 1 + 1 ≤ w4.heap.size) := by show _ ≤ _; exact Nat.le_trans HSR.out hb4.size
              have HW4 := Lib.hid hw4
              have HB4 := Lib.hid (HW.out.trans (hb4.mono HW.out.size))
              have HQ5 := Lib.hid (HQ3.out.next hb4)
              have HQ6 := Lib.hid (HQ4.out.next hb4)
              clear hky hny hb hl hw4 hb4 hq4 hb24
              go_wp2_with (at_builtin; rw [← HW4.out]; (refine list_appF rfl (.tmp 41) (.tmp 43) rfl (fun b => Z b ∨ w.heap.size + 1 + 1 ≤ b) (w.heap.size + 1 + 1) (.slice pv n cv) (.slice (some ⟨w2.heap.size + 1, 0, none⟩) 1 1) (lessL c (ks.take i)) [y] rfl rfl HR4.out HK4.out HLN.out HS4.out ?_; intro v7 w7 hr7 hb7; have HR7 := Lib.hid hr7; have HB7 := Lib.hid hb7; clear hr7 hb7))
              refine ⟨⟨i + 1, by omega, by go_num, HB4.out.trans (HB7.out.mono (Nat.le_add_right _ 2)), HQ5.out.below HB7.out (by omega), HQ6.out.below HB7.out (by omega), ?_⟩, by simp [intOf]; omega⟩
              rw [HSE.out]
              exact HR7.out
          · have hL : lessL c (ks.take i) = lessL c ks := by rw [List.take_of_length_le (by have := HM.out; omega)]
            rw [hL] at hrow
            obtain ⟨l, hl⟩ : ∃ l, l = lessL c ks := ⟨_, rfl⟩
            rw [← hl] at hrow
            have HPT : Hid (lessT c (.mk a ks) = packT a l) := by show _ = _; rw [hl]; exact HT.out
            have HLF : Hid (∀ y ∈ l, fine y) := by rw [hl]; exact lessL_fine HFK.out
            have hlm : l.length ≤ 100000 := by rw [hl]; have := lessL_len c ks; have := HM.out; omega
            obtain ⟨n, hn⟩ : ∃ n, n = l.length := ⟨_, rfl⟩
            obtain ⟨pv, cv, rfl⟩ := hrow.slice' hn.symm
            rw [← hn] at hlm
            have HN := Lib.hid hn
            have HRW := Lib.hid hrow
            have HWr := Lib.hid hW
            have HQ3 := Lib.hid hq1
            have HQ4 := Lib.hid hq2
            obtain ⟨⟨q0, q1, q2, q3, q4⟩, ⟨e0, e1, e2, e3, e4⟩⟩ := c5 hq1
            obtain ⟨⟨r0, r1, r2, r3, r4⟩, ⟨f0, f1, f2, f3, f4⟩⟩ := c5 hq2
            clear hL hl hn hrow hW hq1 hq2
            by_cases h1 : n = 1
            · subst h1
              obtain ⟨z, hz⟩ : ∃ z, l = [z] := by
                match l, HN.out with
                | [z], _ => exact ⟨z, rfl⟩
              subst hz
              obtain ⟨vs, ho, sz, rest, hvs, hkz, hrest⟩ := HRW.out
              have hrest : rest = [] := hrest
              subst hrest
              rw [List.append_nil] at hvs
              subst hvs
              obtain ⟨gr, cr, hgv, hg1, hg2⟩ := ho.form (by simp)
              obtain ⟨e1', -, e3'⟩ := Value.slice.inj hgv
              subst e1' e3'
              clear hgv
              have hd := fun i u hu => ho.cells (g := gr) rfl i u hu
              obtain ⟨pz, kz, rfl, -⟩ := hkz.slice
              obtain ⟨nz, hnz⟩ : ∃ n, n = z.ks.length := ⟨_, rfl⟩
              rw [← hnz] at hkz hd
              have d0 := hd 0 _ rfl
              have d1 := hd 1 _ rfl
              have d2 := hd 2 _ rfl
              have d3 := hd 3 _ rfl
              have d4 := hd 4 _ rfl
              rw [add0] at d0 d1 d2 d3 d4
              have hfz : ∀ i, wr.frozen? ⟨gr, i, none⟩ = false := fun i => by
                rcases ho.2 with ⟨h3, _⟩ | ⟨g', c', cur, h3, _, h5, _⟩
                · cases h3
                · obtain ⟨e, -, -⟩ := Value.slice.inj h3
                  have e := Option.some.inj e
                  injection e with e
                  subst e
                  simp [World.frozen?, h5]
              have z1 := hfz 1
              have hgr1 : gr ≠ w.heap.size := by omega
              have hgr2 : gr ≠ w.heap.size + 1 := by omega
              have HKZ := Lib.hid hkz
              have HG1 := Lib.hid hg1
              have hPT : lessT c (.mk a ks) = some (.mk { z.a with w := a.w } z.ks) := HPT.out
              have HPZ := Lib.hid hPT
              clear ho hkz hd hfz hnz hPT hg1 hg2
              go_wp2_with fail
              have hkl : KV (wr.setCell ⟨gr, 1, none⟩ (.int .i64 a.w)) (fun b => Z b ∨ w.heap.size + 1 + 1 ≤ b) z.ks (.slice pz nz kz) :=
                HKZ.out.same (fun b h => h.1.1) (by simp [World.setCell]) fun b hb _ => Below.heap_setCell wr ⟨gr, 1, none⟩ _ b (fun e => hb.1.2 (congrArg some e))
              obtain ⟨hb5, hq5, -⟩ := st5_next (HWr.out.setCell (p := ⟨gr, 1, none⟩) (by show _ ≤ gr; have := HG1.out; omega) (.int .i64 a.w)) (by omega) (HQ4.out.far (p := ⟨gr, 1, none⟩) (Ne.symm hgr2) (.int .i64 a.w)) (.int .i64 z.a.k) (.int .i64 a.w) (.int .i64 z.a.c) (.int .i64 z.a.s) (.slice pz nz kz)
              have hk5 := KV.st5 (g := w.heap.size + 1) (Z' := fun b => Z b ∨ w.heap.size ≤ b) hkl (fun b hb => by rcases hb with hb | hb; (have := HZ.out b hb; omega); omega) (fun b hb => by rcases hb with hb | hb; exact .inl hb; (right; omega)) (.int .i64 z.a.k) (.int .i64 a.w) (.int .i64 z.a.c) (.int .i64 z.a.s) (.slice pz nz kz)
              obtain ⟨w5, hw5⟩ : ∃ w5, w5 = st5 (wr.setCell ⟨gr, 1, none⟩ (.int .i64 a.w)) (w.heap.size + 1) (.int .i64 z.a.k) (.int .i64 a.w) (.int .i64 z.a.c) (.int .i64 z.a.s) (.slice pz nz kz) := ⟨_, rfl⟩
              rw [← hw5] at hb5 hq5 hk5
              unfold st5 at hw5
              rw [← hw5]
              obtain ⟨⟨b0, b1, b2, b3, b4⟩, -⟩ := c5 hq5
              exact bodyPost_ret (v := .tuple #[.agg #[.int .i64 z.a.k, .int .i64 a.w, .int .i64 z.a.c, .int .i64 z.a.s, .slice pz nz kz], .bool true]) (by simp [results, Try.results74, go_sem, b0, b1, b2, b3, b4]) rfl ((HR.out _ _).2 ⟨hb5, .mk { z.a with w := a.w } z.ks, .slice pz nz kz, (by rw [HPZ.out]; rfl), hk5, (fun t ht => by rw [HPZ.out] at ht; exact Option.some.inj ht)⟩)
            · have hn1 : ((n : Int) == 1) = false := by simp; omega
              have HN1 := Lib.hid h1
              clear h1
              go_wp2_with fail
              have hsame : ∀ b, ((Z b ∨ w.heap.size + 1 + 1 ≤ b) ∨ w.heap.size + 1 + 1 ≤ b) → (wr.setCell ⟨w.heap.size, 4, none⟩ (.slice pv n cv)).heap[b]? = wr.heap[b]? := fun b hb => Below.heap_setCell wr ⟨w.heap.size, 4, none⟩ _ b (by
                show b ≠ w.heap.size
                rcases hb with (hb | hb) | hb
                · have := HZ.out b hb; omega
                · omega
                · omega)
              have hkl := (HRW.out.same (w' := wr.setCell ⟨w.heap.size, 4, none⟩ (.slice pv n cv)) (by simp [World.setCell]) hsame).kv (fun y hy => (HLF.out y hy [] y rfl).1) (by rw [← HN.out]; omega)
              obtain ⟨hb5, hq5, -⟩ := st5_next (HWr.out.setCell (p := ⟨w.heap.size, 4, none⟩) (Nat.le_refl _) (.slice pv n cv)) (by omega) (HQ4.out.far (p := ⟨w.heap.size, 4, none⟩) (by simp) (.slice pv n cv)) (.int .i64 a.k) (.int .i64 a.w) (.int .i64 a.c) (.int .i64 a.s) (.slice pv n cv)
              have hk5 := KV.st5 (g := w.heap.size + 1) (Z' := fun b => Z b ∨ w.heap.size ≤ b) hkl (fun b hb => by rcases hb with (hb | hb) | hb; (have := HZ.out b hb; omega); omega; omega) (fun b hb => by rcases hb with (hb | hb) | hb; exact .inl hb; (right; omega); (right; omega)) (.int .i64 a.k) (.int .i64 a.w) (.int .i64 a.c) (.int .i64 a.s) (.slice pv n cv)
              obtain ⟨w5, hw5⟩ : ∃ w5, w5 = st5 (wr.setCell ⟨w.heap.size, 4, none⟩ (.slice pv n cv)) (w.heap.size + 1) (.int .i64 a.k) (.int .i64 a.w) (.int .i64 a.c) (.int .i64 a.s) (.slice pv n cv) := ⟨_, rfl⟩
              rw [← hw5] at hb5 hq5 hk5
              unfold st5 at hw5
              rw [← hw5]
              obtain ⟨⟨b0, b1, b2, b3, b4⟩, -⟩ := c5 hq5
              refine bodyPost_ret (v := .tuple #[.agg #[.int .i64 a.k, .int .i64 a.w, .int .i64 a.c, .int .i64 a.s, .slice pv n cv], .bool (decide (0 < n))]) (by simp [results, Try.results74, go_sem, b0, b1, b2, b3, b4]) rfl ((HR.out _ _).2 ⟨hb5, .mk a l, .slice pv n cv, ?_, hk5, ?_⟩)
              · rw [HPT.out]
                unfold packT
                rw [← HN.out, if_neg HN1.out]
                by_cases h0 : n = 0
                · rw [if_pos h0, h0]; rfl
                · rw [if_neg h0, decide_eq_true (Nat.pos_of_ne_zero h0)]; rfl
              · intro t ht
                rw [HPT.out] at ht
                unfold packT at ht
                rw [← HN.out, if_neg HN1.out] at ht
                split at ht
                · cases ht
                · exact Option.some.inj ht
end Go.Proofs.Ytjlkmcoamcclgaa.Co
end
section
namespace Go.Proofs.Ytjlkmcoamcclgaa.Co
open Go.RowKit Go.Shelf Go.Maps
/-- What the document's call tells: an error, or a container. -/
def DocR (Z : Nat → Prop) (r : Con × Int) (w : World) (e : Ending) (w' : World) : Prop :=
  Below w.heap.size w w' ∧ ∃ (y : Con) (s : Value), e = .returned (.tuple #[conV y.a s, .int .i64 r.2]) ∧ KV w' (fun b => Z b ∨ w.heap.size ≤ b) y.ks s ∧ y = if r.2 = 0 then r.1 else zeroT
theorem askedI_tree {x : Con} {c : Int} (h : askedI x c = 0) : treeB x = true ∧ hasB x c = true := by
  unfold askedI at h
  split at h
  · cases h
  · next h1 =>
    split at h
    · cases h
    · next h2 => exact ⟨by simpa using h1, by simpa using h2⟩
theorem removeD_asked (x : Con) (c : Int) : removeD x c = if askedI x c = 0 then (.mk x.a (lessL c x.ks), 0) else (zeroT, askedI x c) := by
  unfold removeD askedI
  cases treeB x <;> cases hasB x c <;> rfl
set_option maxHeartbeats 4000000 in
theorem RemoveR_c (c : Int) (x : Con) (Z : Nat → Prop) (sv : Value) (w : World) (hK : KV w Z x.ks sv) (hZ : ∀ b, Z b → b < w.heap.size) (hd : (all x).length ≤ 1000000) (hf : fine x) :
    Calls Try.prog 34 #[conV x.a sv, .int .i64 c] w (DocR Z (removeD x c) w) := by
  obtain ⟨a, ks⟩ := x
  obtain ⟨p, cap, rfl, -⟩ : ∃ p cap, sv = .slice p ks.length cap ∧ ks.length ≤ 1152921504606846976 := hK.slice
  have hK : KV w Z ks (.slice p ks.length cap) := hK
  obtain ⟨m, hm⟩ : ∃ m, m = ks.length := ⟨_, rfl⟩
  rw [← hm] at hK ⊢
  obtain ⟨hfa, hfl, hfk⟩ := fine_kids hf
  rw [← hm] at hfl
  obtain ⟨R, hR⟩ : ∃ R, R = DocR Z (removeD (.mk a ks) c) w := ⟨_, rfl⟩
  have hRe : ∀ e w', R e w' ↔ DocR Z (removeD (.mk a ks) c) w e w' := by rw [hR]; exact fun _ _ => Iff.rfl
  rw [← hR]
  rw [removeD_asked] at hRe
  have HA := Lib.hid (fun (W : World) (h : Below w.heap.size w W) => asked_c Z (.mk a ks) (.slice p m cap) c W (hK.next h) hd (fun b hb => Nat.lt_of_lt_of_le (hZ b hb) h.size))
  have hat := askedI_tree (x := .mk a ks) (c := c)
  obtain ⟨q9, hq9⟩ : ∃ q, q = askedI (.mk a ks) c := ⟨_, rfl⟩
  rw [← hq9] at HA hRe hat
  obtain ⟨wB, hwB⟩ : ∃ wB, wB = (w.alloc (.cells #[.int .i64 a.k, .int .i64 a.w, .int .i64 a.c, .int .i64 a.s, .slice p m cap] 24)).alloc (.cells #[.int .i64 0, .int .i64 0, .int .i64 0, .int .i64 0, .slice none 0 0] 24) := ⟨_, rfl⟩
  have hb0 : Below w.heap.size w wB := by rw [hwB]; exact ((Below.refl w.heap.size w).alloc (Nat.le_refl _) _).alloc (by simp) _
  have hq1 : Blk wB w.heap.size 24 #[.int .i64 a.k, .int .i64 a.w, .int .i64 a.c, .int .i64 a.s, .slice p m cap] := by rw [hwB]; exact (Blk.new w 24 _).alloc _
  have hq2 : Blk wB (w.heap.size + 1) 24 #[.int .i64 0, .int .i64 0, .int .i64 0, .int .i64 0, .slice none 0 0] := by
    rw [hwB]; have := Blk.new (w.alloc (.cells #[.int .i64 a.k, .int .i64 a.w, .int .i64 a.c, .int .i64 a.s, .slice p m cap] 24)) 24 #[.int .i64 0, .int .i64 0, .int .i64 0, .int .i64 0, .slice none 0 0]; rwa [World.size_alloc] at this
  have HB := Lib.hid hb0
  have HQ1 := Lib.hid hq1
  have HQ2 := Lib.hid hq2
  have HWB := Lib.hid hwB
  have HK := Lib.hid hK
  have HZ := Lib.hid hZ
  by_cases h0 : q9 = 0
  · subst h0
    obtain ⟨htr, hhb⟩ := hat rfl
    rw [if_pos rfl] at hRe
    have HR := Lib.hid hRe
    have hd' := (tree_parts htr).2.2
    have hk0 : a.k ≠ 0 := tree_root htr
    rw [all_kid hk0] at hd'
    have HIH : Hid (∀ (j : Nat) (q : Con) (s : Value) (W : World), ks[j]? = some q → KV w Z q.ks s → Below w.heap.size w W → Calls Try.prog 74 #[conV q.a s, .int .i64 c] W (LessR Z q c W)) := fun j q s W hj hs hb => by
      have hq := List.mem_of_getElem? hj
      refine less_c c q Z s W (hs.next hb) (fun b h => Nat.lt_of_lt_of_le (hZ b h) hb.size) ?_ (hfk q hq)
      obtain ⟨l1, l2, e⟩ := List.append_of_mem hq
      rw [e, List.flatMap_append, List.flatMap_cons] at hd'
      simp at hd'; omega
    have HFK := Lib.hid hfk
    have HFA := Lib.hid hfa
    have HM := Lib.hid hm
    clear hR hRe hK hZ hd hd' hf hwB hb0 hq1 hq2 hfk hm hk0 hhb htr hat hq9
    show Calls Try.prog 34 #[.agg #[.int .i64 a.k, .int .i64 a.w, .int .i64 a.c, .int .i64 a.s, .slice p m cap], .int .i64 c] w R
    go_enter Try.func34, Try.ntmps34
    go_wp2_with fail
    rw [← HWB.out]
    refine (HA.out wB HB.out).mono ?_
    rintro e w1 ⟨rfl, hb⟩
    have hb1 := HB.out.trans (hb.mono HB.out.size)
    have hq1 := HQ1.out.next hb
    have hq2 := HQ2.out.next hb
    have hs1 : w.heap.size + 1 + 1 ≤ w1.heap.size := hq2.lt
    clear hb HA
    go_wp2_with fail
    go_loopw [6, 7] (fun v z wr => ∃ i : Nat, i ≤ m ∧ z = .int .i64 i ∧ Below w.heap.size w wr ∧ Blk wr w.heap.size 24 #[.int .i64 a.k, .int .i64 a.w, .int .i64 a.c, .int .i64 a.s, .slice p m cap] ∧ Blk wr (w.heap.size + 1) 24 #[.int .i64 0, .int .i64 0, .int .i64 0, .int .i64 0, .slice none 0 0] ∧ RowF (fun b => Z b ∨ w.heap.size + 1 + 1 ≤ b) (w.heap.size + 1 + 1) (lessL c (ks.take i)) v wr) (fun _ z _ => m - (intOf z).toNat)
    case atStart => exact ⟨0, Nat.zero_le _, rfl, hb1, hq1, hq2, RowF.nil _ _ _⟩
    case round =>
      clear hb1 hq1 hq2 hs1
      obtain ⟨i, hi, rfl, hW, hq1, hq2, hrow⟩ := hrel
      have hsr : w.heap.size + 1 + 1 ≤ wr.heap.size := hq2.lt
      by_cases hlt : i < m
      · obtain ⟨q, hq⟩ : ∃ q, ks[i]? = some q := ⟨_, List.getElem?_eq_getElem (by rw [← HM.out]; exact hlt)⟩
        obtain ⟨-, kb, ko, sq, rfl, -, hkb, -, hkq, c0, c1, c2, c3, c4⟩ := HK.out.kid hq
        have HL := Lib.hid (HIH.out i q sq wr hq hkq hW)
        obtain ⟨pq, kq, rfl, -⟩ := hkq.slice
        obtain ⟨nq, hnq⟩ : ∃ n, n = q.ks.length := ⟨_, rfl⟩
        rw [← hnq] at HL c4
        obtain ⟨c0, c1, c2, c3, c4⟩ := cells5 hW hkb ⟨c0, c1, c2, c3, c4⟩
        obtain ⟨⟨q0, q1, q2, q3, q4⟩, -⟩ := c5 hq1
        obtain ⟨n, hn⟩ : ∃ n, n = (lessL c (ks.take i)).length := ⟨_, rfl⟩
        obtain ⟨pv, cv, rfl⟩ := hrow.slice' hn.symm
        have HSN := Lib.hid (lessL_snoc (c := c) hq)
        have hnm : n ≤ m := by rw [hn]; have := lessL_len c (ks.take i); simp at this; omega
        have HN := Lib.hid hn
        have HRW := Lib.hid hrow
        have HW := Lib.hid hW
        have HQ3 := Lib.hid hq1
        have HQ4 := Lib.hid hq2
        have HSR := Lib.hid hsr
        have HQF := Lib.hid (HFK.out q (List.mem_of_getElem? hq))
        clear hq hkq hnq hn hrow hW hq1 hq2 hsr
        go_wp2_with fail
        refine HL.out.mono ?_
        rintro e w2 ⟨hb, y, s, rfl, hky, hyt⟩
        obtain ⟨py, ky, rfl, -⟩ := hky.slice
        obtain ⟨ny, hny⟩ : ∃ n, n = y.ks.length := ⟨_, rfl⟩
        rw [← hny] at hky ⊢
        have HOL : Hid (∀ g, (Value.slice pv n cv).ownBlock = some g → w.heap.size + 1 + 1 ≤ g ∧ g < wr.heap.size) := fun g hg => by obtain ⟨vs, h1, _⟩ := HRW.out; exact h1.lt g hg
        have HKY := Lib.hid hky
        have HB2 := Lib.hid hb
        cases hl : lessT c q with
        | none =>
          have HSE : Hid (lessL c (ks.take (i + 1)) = lessL c (ks.take i)) := by show _ = _; rw [HSN.out, hl]; simp
          clear hky hyt hny hb hl
          go_wp2_with fail
          have hb3 := HB2.out.alloc HB2.out.size (.cells #[.int .i64 y.a.k, .int .i64 y.a.w, .int .i64 y.a.c, .int .i64 y.a.s, .slice py ny ky] 24)
          obtain ⟨w3, hw3⟩ : ∃ w3, w3 = w2.alloc (.cells #[.int .i64 y.a.k, .int .i64 y.a.w, .int .i64 y.a.c, .int .i64 y.a.s, .slice py ny ky] 24) := ⟨_, rfl⟩
          rw [← hw3] at hb3 ⊢
          refine ⟨⟨i + 1, by omega, by go_num, HW.out.trans (hb3.mono HW.out.size), HQ3.out.next hb3, HQ4.out.next hb3, ?_⟩, by simp [intOf]; omega⟩
          rw [HSE.out]
          exact HRW.out.next hb3
        | some t =>
          have HSE : Hid (lessL c (ks.take (i + 1)) = lessL c (ks.take i) ++ [t]) := by show _ = _; rw [HSN.out, hl]; simp
          have hyt := hyt t hl
          subst hyt
          have HYF := Lib.hid (lessT_fine c q y HQF.out hl)
          obtain ⟨w4, hw4⟩ : ∃ w4, w4 = (w2.alloc (.cells #[.int .i64 y.a.k, .int .i64 y.a.w, .int .i64 y.a.c, .int .i64 y.a.s, .slice py ny ky] 24)).alloc (.cells #[.int .i64 y.a.k, .int .i64 y.a.w, .int .i64 y.a.c, .int .i64 y.a.s, .slice py ny ky] 24) := ⟨_, rfl⟩
          have hb4 : Below wr.heap.size wr w4 := by rw [hw4]; exact (hb.alloc hb.size _).alloc (by have := hb.size; simp; omega) _
          have hq4 : Blk w4 (w2.heap.size + 1) 24 #[.int .i64 y.a.k, .int .i64 y.a.w, .int .i64 y.a.c, .int .i64 y.a.s, .slice py ny ky] := by
            rw [hw4]; have := Blk.new (w2.alloc (.cells #[.int .i64 y.a.k, .int .i64 y.a.w, .int .i64 y.a.c, .int .i64 y.a.s, .slice py ny ky] 24)) 24 #[.int .i64 y.a.k, .int .i64 y.a.w, .int .i64 y.a.c, .int .i64 y.a.s, .slice py ny ky]; rwa [World.size_alloc] at this
          have hb24 : Below w2.heap.size w2 w4 := by rw [hw4]; exact ((Below.refl _ _).alloc (Nat.le_refl _) _).alloc (by simp) _
          have HR4 := Lib.hid (HRW.out.next hb4)
          have HK4 : Hid (KV w4 (fun b => (Z b ∨ w.heap.size + 1 + 1 ≤ b) ∧ some b ≠ (Value.slice pv n cv).ownBlock) [y] (.slice (some ⟨w2.heap.size + 1, 0, none⟩) 1 1)) := by
            refine KV.single hq4 ⟨.inr (by have := HB2.out.size; have := HSR.out; omega), fun e => by have := (HOL.out _ e.symm).2; have := HB2.out.size; omega⟩ ((hky.next hb24).weak fun b hz => ?_) (HYF.out [] y rfl).1
            rcases hz with hz | hz
            · exact ⟨.inl hz, fun e => by have := (HOL.out _ e.symm).1; have := HZ.out b hz; omega⟩
            · exact ⟨.inr (by have := HSR.out; omega), fun e => by have := (HOL.out _ e.symm).2; omega⟩
          have HLN : Hid ((lessL c (ks.take i)).length + [y].length ≤ 1000000) := by show _ ≤ _; rw [← HN.out]; simp; omega
          have HS4 : Hid (w.heap.size + 1 + 1 ≤ w4.heap.size) := by show _ ≤ _; exact Nat.le_trans HSR.out hb4.size
          have HW4 := Lib.hid hw4
          have HB4 := Lib.hid (HW.out.trans (hb4.mono HW.out.size))
          have HQ5 := Lib.hid (HQ3.out.next hb4)
          have HQ6 := Lib.hid (HQ4.out.next hb4)
          clear hky hny hb hl hw4 hb4 hq4 hb24
          go_wp2_with (at_builtin; rw [← HW4.out]; (refine list_appF rfl (.tmp 36) (.tmp 38) rfl (fun b => Z b ∨ w.heap.size + 1 + 1 ≤ b) (w.heap.size + 1 + 1) (.slice pv n cv) (.slice (some ⟨w2.heap.size + 1, 0, none⟩) 1 1) (lessL c (ks.take i)) [y] rfl rfl HR4.out HK4.out HLN.out HS4.out ?_; intro v7 w7 hr7 hb7; have HR7 := Lib.hid hr7; have HB7 := Lib.hid hb7; clear hr7 hb7))
          refine ⟨⟨i + 1, by omega, by go_num, HB4.out.trans (HB7.out.mono (Nat.le_add_right _ 2)), HQ5.out.below HB7.out (by omega), HQ6.out.below HB7.out (by omega), ?_⟩, by simp [intOf]; omega⟩
          rw [HSE.out]
          exact HR7.out
      · have hL : lessL c (ks.take i) = lessL c ks := by rw [List.take_of_length_le (by have := HM.out; omega)]
        rw [hL] at hrow
        obtain ⟨l, hl⟩ : ∃ l, l = lessL c ks := ⟨_, rfl⟩
        rw [← hl] at hrow
        have HPT := Lib.hid hl
        have HLF : Hid (∀ y ∈ l, fine y) := by rw [hl]; exact lessL_fine HFK.out
        have hlm : l.length ≤ 100000 := by rw [hl]; have := lessL_len c ks; have := HM.out; omega
        obtain ⟨n, hn⟩ : ∃ n, n = l.length := ⟨_, rfl⟩
        obtain ⟨pv, cv, rfl⟩ := hrow.slice' hn.symm
        rw [← hn] at hlm
        have HN := Lib.hid hn
        have HRW := Lib.hid hrow
        have HWr := Lib.hid hW
        have HQ3 := Lib.hid hq1
        have HQ4 := Lib.hid hq2
        obtain ⟨⟨q0, q1, q2, q3, q4⟩, ⟨e0, e1, e2, e3, e4⟩⟩ := c5 hq1
        obtain ⟨⟨r0, r1, r2, r3, r4⟩, ⟨f0, f1, f2, f3, f4⟩⟩ := c5 hq2
        clear hL hl hn hrow hW hq1 hq2
        go_wp2_with fail
        have hsame : ∀ b, ((Z b ∨ w.heap.size + 1 + 1 ≤ b) ∨ w.heap.size + 1 + 1 ≤ b) → (wr.setCell ⟨w.heap.size, 4, none⟩ (.slice pv n cv)).heap[b]? = wr.heap[b]? := fun b hb => Below.heap_setCell wr ⟨w.heap.size, 4, none⟩ _ b (by
          show b ≠ w.heap.size
          rcases hb with (hb | hb) | hb
          · have := HZ.out b hb; omega
          · omega
          · omega)
        have hkl := (HRW.out.same (w' := wr.setCell ⟨w.heap.size, 4, none⟩ (.slice pv n cv)) (by simp [World.setCell]) hsame).kv (fun y hy => (HLF.out y hy [] y rfl).1) (by rw [← HN.out]; omega)
        obtain ⟨hb5, hq5, -⟩ := st5_next (HWr.out.setCell (p := ⟨w.heap.size, 4, none⟩) (Nat.le_refl _) (.slice pv n cv)) (by omega) (HQ4.out.far (p := ⟨w.heap.size, 4, none⟩) (by simp) (.slice pv n cv)) (.int .i64 a.k) (.int .i64 a.w) (.int .i64 a.c) (.int .i64 a.s) (.slice pv n cv)
        have hk5 := KV.st5 (g := w.heap.size + 1) (Z' := fun b => Z b ∨ w.heap.size ≤ b) hkl (fun b hb => by rcases hb with (hb | hb) | hb; (have := HZ.out b hb; omega); omega; omega) (fun b hb => by rcases hb with (hb | hb) | hb; exact .inl hb; (right; omega); (right; omega)) (.int .i64 a.k) (.int .i64 a.w) (.int .i64 a.c) (.int .i64 a.s) (.slice pv n cv)
        obtain ⟨w5, hw5⟩ : ∃ w5, w5 = st5 (wr.setCell ⟨w.heap.size, 4, none⟩ (.slice pv n cv)) (w.heap.size + 1) (.int .i64 a.k) (.int .i64 a.w) (.int .i64 a.c) (.int .i64 a.s) (.slice pv n cv) := ⟨_, rfl⟩
        rw [← hw5] at hb5 hq5 hk5
        unfold st5 at hw5
        rw [← hw5]
        obtain ⟨⟨b0, b1, b2, b3, b4⟩, -⟩ := c5 hq5
        exact bodyPost_ret (v := .tuple #[.agg #[.int .i64 a.k, .int .i64 a.w, .int .i64 a.c, .int .i64 a.s, .slice pv n cv], .int .i64 0]) (by simp [results, Try.results34, go_sem, b0, b1, b2, b3, b4]) rfl ((HR.out _ _).2 ⟨hb5, .mk a l, .slice pv n cv, rfl, hk5, (by rw [if_pos rfl, HPT.out]; rfl)⟩)
  · rw [if_neg h0] at hRe
    have HR := Lib.hid hRe
    have hne : (q9 == 0) = false := by simpa using h0
    have HN0 := Lib.hid h0
    clear hR hRe hK hZ hd hf hwB hb0 hq1 hq2 hfk hm hat hq9 h0
    show Calls Try.prog 34 #[.agg #[.int .i64 a.k, .int .i64 a.w, .int .i64 a.c, .int .i64 a.s, .slice p m cap], .int .i64 c] w R
    go_enter Try.func34, Try.ntmps34
    go_wp2_with fail
    rw [← HWB.out]
    refine (HA.out wB HB.out).mono ?_
    rintro e w1 ⟨rfl, hb⟩
    have HB1 := Lib.hid (HB.out.trans (hb.mono HB.out.size))
    have HQ3 := Lib.hid (HQ2.out.next hb)
    obtain ⟨⟨q0, q1, q2, q3, q4⟩, -⟩ := c5 (HQ1.out.next hb)
    clear hb
    go_wp2_with fail
    refine (HA.out w1 HB1.out).mono ?_
    rintro e w2 ⟨rfl, hb⟩
    have HB2 := Lib.hid (HB1.out.trans (hb.mono HB1.out.size))
    have HQ4 := Lib.hid (HQ3.out.next hb)
    obtain ⟨⟨r0, r1, r2, r3, r4⟩, ⟨f0, f1, f2, f3, f4⟩⟩ := c5 HQ4.out
    clear hb q0 q1 q2 q3 q4
    go_wp2_with fail
    obtain ⟨hb5, hq5, -⟩ := st5_next HB2.out (by omega) HQ4.out (.int .i64 0) (.int .i64 0) (.int .i64 0) (.int .i64 0) (.slice none 0 0)
    have hk5 := KV.st5 (g := w.heap.size + 1) (Z' := fun b => Z b ∨ w.heap.size ≤ b) (KV.nil w2 Z none 0) (fun b hb => by have := HZ.out b hb; omega) (fun b hb => .inl hb) (.int .i64 0) (.int .i64 0) (.int .i64 0) (.int .i64 0) (.slice none 0 0)
    obtain ⟨w5, hw5⟩ : ∃ w5, w5 = st5 w2 (w.heap.size + 1) (.int .i64 0) (.int .i64 0) (.int .i64 0) (.int .i64 0) (.slice none 0 0) := ⟨_, rfl⟩
    rw [← hw5] at hb5 hq5 hk5
    unfold st5 at hw5
    rw [← hw5]
    obtain ⟨⟨b0, b1, b2, b3, b4⟩, -⟩ := c5 hq5
    exact bodyPost_ret (v := .tuple #[.agg #[.int .i64 0, .int .i64 0, .int .i64 0, .int .i64 0, .slice none 0 0], .int .i64 q9]) (by simp [results, Try.results34, go_sem, b0, b1, b2, b3, b4]) rfl ((HR.out _ _).2 ⟨hb5, zeroT, .slice none 0 0, rfl, hk5, (by rw [if_neg HN0.out])⟩)
end Go.Proofs.Ytjlkmcoamcclgaa.Co
end
section
namespace Go.Proofs.Ytjlkmcoamcclgaa.Co
open Go.RowKit Go.Shelf
theorem pre_bounds : ∀ (x : Con) (w : List Nat), (all x).length ≤ (pre x w).length ∧ ht x + 1 ≤ (pre x w).length ∧ wd x + 1 ≤ (pre x w).length := by
  intro x
  induction x using Tr.ind with
  | h a ks ih =>
    intro w
    have hL : ∀ (l : List Con) (i : Nat), (∀ x ∈ l, x ∈ ks) → (allL l).length ≤ (preL l w i).length ∧ htL l ≤ (preL l w i).length ∧ wdL l ≤ (preL l w i).length ∧ l.length ≤ (preL l w i).length := by
      intro l
      induction l with
      | nil => intro i _; simp [allL, htL, wdL]
      | cons y r ihr =>
        intro i hm
        obtain ⟨h1, h2, h3⟩ := ih y (hm y (by simp)) (w ++ [i])
        obtain ⟨h4, h5, h6, h7⟩ := ihr (i + 1) fun z hz => hm z (by simp [hz])
        simp only [allL, htL, wdL, preL, List.length_append, List.length_cons]
        omega
    obtain ⟨h1, h2, h3, h4⟩ := hL ks 0 fun _ h => h
    simp only [pre, ht, wd, List.length_cons, all]
    refine ⟨?_, by omega, by omega⟩
    split
    · simp
    · omega
/-- A container that the laws look at. -/
structure Small (x : Con) : Prop where
  n5 : (pre x []).length ≤ 900
  f : fine x
theorem Small.ht {x : Con} (h : Small x) : ht x ≤ 1000000 := by have := (pre_bounds x []).2.1; have := h.n5; omega
theorem Small.wd {x : Con} (h : Small x) : wd x ≤ 100000 := by have := (pre_bounds x []).2.2; have := h.n5; omega
theorem Small.al {x : Con} (h : Small x) : (all x).length ≤ 1000000 := by have := (pre_bounds x []).1; have := h.n5; omega
theorem Small.wide {x : Con} (h : Small x) : x.a.wide := (h.f [] x rfl).1
theorem Small.of {x : Con} {w : World} {Z : Nat → Prop} {v : Value} (hK : KV w Z x.ks v) (hw : x.a.wide) (hn : nodesC x 0 ≤ 500) : Small x := by
  have h1 := pre_len x [] 0 hn
  have h2 : (pre x []).length ≤ 900 := by omega
  have h3 := (pre_bounds x []).2.2
  exact ⟨h2, hK.fine hw (by omega)⟩
theorem kv_told {N : Nat} {w : World} {t : ATr} {y : Con} (ho : Own w t) (hb : ∀ b ∈ blks t, N ≤ b) (he : era t = y) (hf : fine y) : KV w (fun b => N ≤ b) y.ks (slA t) := by
  subst he
  refine ho.reads hb fun u x hx => ?_
  have := hf u (era x) (by rw [era_get, hx]; rfl)
  rw [era_a, era_ks, List.length_map] at this
  exact ⟨this.1, by omega⟩
/-- What the code tells, as it reads. -/
theorem TellR.reads {N : Nat} {r : Con × Int} {e : Ending} {w : World} (h : TellR N r e w) (hf : r.2 = 0 → fine r.1) : ∃ (y : Con) (s : Value), e = .returned (.tuple #[conV y.a s, .int .i64 r.2]) ∧ KV w (fun b => N ≤ b) y.ks s ∧ y = if r.2 = 0 then r.1 else zeroT := by
  rcases h with ⟨h1, h2⟩ | ⟨h1, t, ho, _, hb, he, h2⟩
  · exact ⟨zeroT, .slice none 0 0, h2, KV.nil w _ none 0, by rw [if_neg h1]⟩
  · refine ⟨r.1, slA t, ?_, kv_told ho hb he (hf h1), by rw [if_pos h1]⟩
    rw [h2, ← he, era_a, h1]
end Go.Proofs.Ytjlkmcoamcclgaa.Co
end
section
namespace Go.Proofs.Ytjlkmcoamcclgaa.Co
open Go.RowKit Go.Shelf
theorem KV.pair {w : World} {g : Nat} {x y : Con} {s t : Value} (hb : Blk w g 24 #[.int .i64 x.a.k, .int .i64 x.a.w, .int .i64 x.a.c, .int .i64 x.a.s, s, .int .i64 y.a.k, .int .i64 y.a.w, .int .i64 y.a.c, .int .i64 y.a.s, t]) {Z : Nat → Prop} (hz : Z g) (hx : KV w Z x.ks s) (hwx : x.a.wide) (hy : KV w Z y.ks t) (hwy : y.a.wide) : KV w Z [x, y] (.slice (some ⟨g, 0, none⟩) 2 2) := by
  refine .mk [x, y] _ 2 (fun j => if j = 0 then s else t) (by simp) (by simp) (fun j z hz' => ?_) (fun j z hz' => ?_)
  · have hj := (List.getElem?_eq_some_iff.1 hz').1
    simp at hj
    obtain rfl | rfl : j = 0 ∨ j = 1 := by omega
    · obtain rfl := Option.some.inj hz'
      refine ⟨g, 0, rfl, hz, hb.lt, hwx, fun i u hu => ?_⟩
      have hi := (List.getElem?_eq_some_iff.1 hu).1
      simp [encC] at hi
      have := hb.at_ (i := i) (v := u) (by
        obtain rfl | rfl | rfl | rfl | rfl : i = 0 ∨ i = 1 ∨ i = 2 ∨ i = 3 ∨ i = 4 := by omega
        all_goals exact hu)
      simpa using this
    · obtain rfl := Option.some.inj hz'
      refine ⟨g, 0, rfl, hz, hb.lt, hwy, fun i u hu => ?_⟩
      have hi := (List.getElem?_eq_some_iff.1 hu).1
      simp [encC] at hi
      have := hb.at_ (i := 5 + i) (v := u) (by
        obtain rfl | rfl | rfl | rfl | rfl : i = 0 ∨ i = 1 ∨ i = 2 ∨ i = 3 ∨ i = 4 := by omega
        all_goals exact hu)
      simpa using this
  · have hj := (List.getElem?_eq_some_iff.1 hz').1
    simp at hj
    obtain rfl | rfl : j = 0 ∨ j = 1 := by omega
    · obtain rfl := Option.some.inj hz'
      exact hx
    · obtain rfl := Option.some.inj hz'
      exact hy
theorem i64c (n : Int) (h : -100000 ≤ n ∧ n ≤ 100000) : I64 n := by unfold I64; omega
theorem spl_wide (k : Int) (h : -100000 ≤ k ∧ k ≤ 100000) : (⟨k, 65536, 0, 0⟩ : D).wide := ⟨i64c k h, i64c 65536 (by decide), i64c 0 (by decide), i64c 0 (by decide)⟩
def T1 : Con := .mk ⟨1, 65536, 0, 0⟩ [leafT 1, leafT 2]
def T2 : Con := .mk ⟨1, 65536, 0, 0⟩ [leafT 1, .mk ⟨2, 65536, 0, 0⟩ [leafT 2]]
def T3 : Con := .mk ⟨1, 65536, 0, 0⟩ [leafT 1, .mk ⟨2, 65536, 0, 0⟩ [leafT 2, leafT 3]]
theorem leafT_fine {c : Int} (h : I64 c) : fine (leafT c) := fine_mk ⟨i64c 0 (by decide), i64c 65536 (by decide), h, i64c 0 (by decide)⟩ (by simp) (by simp)
theorem T1_fine : fine T1 := fine_mk (spl_wide _ (by decide)) (by simp) (by
  intro x hx
  simp only [List.mem_cons, List.not_mem_nil, or_false] at hx
  rcases hx with rfl | rfl
  all_goals exact leafT_fine (i64c _ (by decide)))
theorem T2_fine : fine T2 := fine_mk (spl_wide _ (by decide)) (by simp) (by
  intro x hx
  simp only [List.mem_cons, List.not_mem_nil, or_false] at hx
  rcases hx with rfl | rfl
  · exact leafT_fine (i64c _ (by decide))
  · exact fine_mk (spl_wide _ (by decide)) (by simp) (by
      intro x hx
      simp only [List.mem_cons, List.not_mem_nil, or_false] at hx
      subst hx
      exact leafT_fine (i64c _ (by decide))))
theorem T3_fine : fine T3 := fine_mk (spl_wide _ (by decide)) (by simp) (by
  intro x hx
  simp only [List.mem_cons, List.not_mem_nil, or_false] at hx
  rcases hx with rfl | rfl
  · exact leafT_fine (i64c _ (by decide))
  · exact fine_mk (spl_wide _ (by decide)) (by simp) (by
      intro x hx
      simp only [List.mem_cons, List.not_mem_nil, or_false] at hx
      rcases hx with rfl | rfl
      all_goals exact leafT_fine (i64c _ (by decide))))
theorem aw_wrap : wrapI T1 2 2 = (T2, 0) := by kernel_rfl
theorem aw_insert : insertI T2 2 3 0 = (T3, 0) := by kernel_rfl
theorem aw_remove : removeI T3 3 = (T1, 0) := by kernel_rfl
theorem aw_told {N : Nat} {r : Con × Int} {t : Con} {e : Ending} {w : World} (h : TellR N r e w) (hr : r = (t, 0)) (hf : fine t) : ∃ s, e = .returned (.tuple #[conV t.a s, .int .i64 0]) ∧ KV w (fun b => N ≤ b) t.ks s := by
  subst hr
  obtain ⟨y, s, h1, h2, h3⟩ := h.reads fun _ => hf
  rw [if_pos rfl] at h3
  subst h3
  exact ⟨s, h1, h2⟩
theorem aw_new (w : World) : Calls Try.prog 23 #[.int .i64 1] w fun e w' => e = .returned (.agg #[.int .i64 1, .int .i64 65536, .int .i64 0, .int .i64 0, .slice none 0 0]) ∧ Below w.heap.size w w' := new_c 1 w
theorem aw_leaf (c : Int) (w : World) : Calls Try.prog 55 #[.int .i64 c] w fun e w' => e = .returned (.agg #[.int .i64 0, .int .i64 65536, .int .i64 c, .int .i64 0, .slice none 0 0]) ∧ Below w.heap.size w w' := leaf_c c w
theorem aw_call {N : Nat} {r : Con × Int} {t : Con} {e : Ending} {w : World} (ha : t.a = ⟨1, 65536, 0, 0⟩) (hl : t.ks.length = 2) (h : TellR N r e w) (hr : r = (t, 0)) (hf : fine t) : ∃ p c, e = .returned (.tuple #[.agg #[.int .i64 1, .int .i64 65536, .int .i64 0, .int .i64 0, .slice p 2 c], .int .i64 0]) ∧ KV w (fun b => N ≤ b) t.ks (.slice p 2 c) := by
  obtain ⟨s, h1, h2⟩ := aw_told h hr hf
  obtain ⟨p, c, rfl, -⟩ := h2.slice
  rw [hl] at h1 h2
  rw [ha] at h1
  exact ⟨p, c, h1, h2⟩
theorem wrap_aw (s : Value) (w : World) (hK : KV w (fun b => b < w.heap.size) T1.ks s) : Calls Try.prog 37 #[.agg #[.int .i64 1, .int .i64 65536, .int .i64 0, .int .i64 0, s], .int .i64 2, .int .i64 2] w fun e w' => (∃ p c, e = .returned (.tuple #[.agg #[.int .i64 1, .int .i64 65536, .int .i64 0, .int .i64 0, .slice p 2 c], .int .i64 0]) ∧ KV w' (fun b => w.heap.size ≤ b) T2.ks (.slice p 2 c)) ∧ Below w.heap.size w w' :=
  (wrap_c T1 s 2 2 w hK (T1_fine [] T1 rfl).1 (by decide) (by decide)).mono fun e w' ⟨h1, h2⟩ => ⟨aw_call rfl rfl h1 aw_wrap T2_fine, h2⟩
theorem ins_aw (s : Value) (w : World) (hK : KV w (fun b => b < w.heap.size) T2.ks s) : Calls Try.prog 31 #[.agg #[.int .i64 1, .int .i64 65536, .int .i64 0, .int .i64 0, s], .int .i64 2, .int .i64 3, .int .i64 0] w fun e w' => (∃ p c, e = .returned (.tuple #[.agg #[.int .i64 1, .int .i64 65536, .int .i64 0, .int .i64 0, .slice p 2 c], .int .i64 0]) ∧ KV w' (fun b => w.heap.size ≤ b) T3.ks (.slice p 2 c)) ∧ Below w.heap.size w w' :=
  (Insert_c T2 s 2 3 0 w hK (T2_fine [] T2 rfl).1 (by decide) (by decide) (by decide +kernel)).mono fun e w' ⟨h1, h2⟩ => ⟨aw_call rfl rfl h1 aw_insert T3_fine, h2⟩
theorem rem_aw (s : Value) (w : World) (hK : KV w (fun b => b < w.heap.size) T3.ks s) : Calls Try.prog 33 #[.agg #[.int .i64 1, .int .i64 65536, .int .i64 0, .int .i64 0, s], .int .i64 3] w fun e w' => (∃ p c, e = .returned (.tuple #[.agg #[.int .i64 1, .int .i64 65536, .int .i64 0, .int .i64 0, .slice p 2 c], .int .i64 0]) ∧ KV w' (fun b => w.heap.size ≤ b) T1.ks (.slice p 2 c)) ∧ Below w.heap.size w w' :=
  (remove_c T3 s 3 w hK (T3_fine [] T3 rfl).1 (by decide) (by decide)).mono fun e w' ⟨h1, h2⟩ => ⟨aw_call rfl rfl h1 aw_remove T1_fine, h2⟩
theorem same_aw (t : Con) (ha : t.a = ⟨1, 65536, 0, 0⟩) (s u : Value) (w : World) {Z Z' : Nat → Prop} (h1 : KV w Z t.ks s) (h2 : KV w Z' t.ks u) : Calls Try.prog 21 #[.agg #[.int .i64 1, .int .i64 65536, .int .i64 0, .int .i64 0, s], .agg #[.int .i64 1, .int .i64 65536, .int .i64 0, .int .i64 0, u]] w fun e w' => e = .returned (.bool true) ∧ Below w.heap.size w w' := by
  have := same_c Z Z' t t s u w h1 h2
  rw [sameB_refl, ha] at this
  exact this
set_option maxHeartbeats 4000000 in
theorem awake_c (w : World) : Calls Try.prog 18 #[] w fun e w' => e = .returned (.bool true) ∧ Below w.heap.size w w' := by
  go_enter Try.func18, Try.ntmps18
  go_wp2_with fail
  refine (aw_new w).mono ?_
  rintro e w1 ⟨rfl, hb1⟩
  have q1 := Blk.new w1 24 #[.int .i64 1, .int .i64 65536, .int .i64 0, .int .i64 0, .slice none 0 0]
  go_wp2_with fail
  refine (aw_leaf 1 _).mono ?_
  rintro e w2 ⟨rfl, hb2⟩
  have q2 := q1.next hb2
  go_wp2_with fail
  refine (aw_leaf 2 _).mono ?_
  rintro e w3 ⟨rfl, hb3⟩
  have q3 := q2.next hb3
  obtain ⟨⟨b0, b1, b2, b3, b4⟩, ⟨f0, f1, f2, f3, f4⟩⟩ := c5 q3
  have hs3 : w1.heap.size < w3.heap.size := q3.lt
  have hs4 : w1.heap.size ≠ w3.heap.size := Nat.ne_of_lt hs3
  have hb13 : Below w.heap.size w w3 := by
    have h2 := ((hb1.alloc hb1.size (.cells #[.int .i64 1, .int .i64 65536, .int .i64 0, .int .i64 0, .slice none 0 0] 24)).trans (hb2.mono (by simp; exact Nat.le_succ_of_le hb1.size)))
    exact h2.trans (hb3.mono h2.size)
  have HB13 := Lib.hid hb13
  have HQ3 := Lib.hid q3
  have HS1 := Lib.hid hb1.size
  clear hb1 hb2 hb3 q1 q2 q3 hb13
  go_wp2_with fail
  obtain ⟨wA, hwA⟩ : ∃ wA, wA = (w3.setCell ⟨w1.heap.size, 4, none⟩ (.slice (some ⟨w3.heap.size, 0, none⟩) 2 2)).alloc (.cells #[.int .i64 0, .int .i64 65536, .int .i64 1, .int .i64 0, .slice none 0 0, .int .i64 0, .int .i64 65536, .int .i64 2, .int .i64 0, .slice none 0 0] 24) := ⟨_, rfl⟩
  rewrite [← hwA]
  have hbA : Below w.heap.size w wA := by rw [hwA]; exact (HB13.out.setCell HS1.out _).alloc (by simp; exact HB13.out.size) _
  have qA : Blk wA w1.heap.size 24 #[.int .i64 1, .int .i64 65536, .int .i64 0, .int .i64 0, .slice (some ⟨w3.heap.size, 0, none⟩) 2 2] := by rw [hwA]; exact (HQ3.out.set_ 4 _).alloc _
  have qB : Blk wA w3.heap.size 24 #[.int .i64 0, .int .i64 65536, .int .i64 1, .int .i64 0, .slice none 0 0, .int .i64 0, .int .i64 65536, .int .i64 2, .int .i64 0, .slice none 0 0] := by
    rw [hwA]; have := Blk.new (w3.setCell ⟨w1.heap.size, 4, none⟩ (.slice (some ⟨w3.heap.size, 0, none⟩) 2 2)) 24 #[.int .i64 0, .int .i64 65536, .int .i64 1, .int .i64 0, .slice none 0 0, .int .i64 0, .int .i64 65536, .int .i64 2, .int .i64 0, .slice none 0 0]; rwa [World.size_setCell] at this
  have hkA : KV wA (fun b => b < wA.heap.size) T1.ks (.slice (some ⟨w3.heap.size, 0, none⟩) 2 2) := KV.pair (x := leafT 1) (y := leafT 2) qB qB.lt (KV.nil _ _ _ _) (leafT_fine (i64c _ (by decide)) [] _ rfl).1 (KV.nil _ _ _ _) (leafT_fine (i64c _ (by decide)) [] _ rfl).1
  clear hwA HQ3 HB13 HS1 b0 b1 b2 b3 b4 f0 f1 f2 f3 f4 qB
  refine (wrap_aw _ wA hkA).mono ?_
  rintro e w4 ⟨⟨p4, k4, rfl, hk4⟩, hb4⟩
  have q4 := Blk.new w4 24 #[.int .i64 1, .int .i64 65536, .int .i64 0, .int .i64 0, .slice p4 2 k4]
  go_wp2_with fail
  have hb4' : Below w.heap.size w (w4.alloc (.cells #[.int .i64 1, .int .i64 65536, .int .i64 0, .int .i64 0, .slice p4 2 k4] 24)) := (hbA.trans (hb4.mono hbA.size)).alloc (Nat.le_trans hbA.size hb4.size) _
  have qA4 := (qA.next hb4).alloc (.cells #[.int .i64 1, .int .i64 65536, .int .i64 0, .int .i64 0, .slice p4 2 k4] 24)
  refine (ins_aw _ _ (hk4.alloc _).all).mono ?_
  rintro e w5 ⟨⟨p5, k5, rfl, hk5⟩, hb5⟩
  have hkA4 := (hkA.next hb4).alloc (.cells #[.int .i64 1, .int .i64 65536, .int .i64 0, .int .i64 0, .slice p4 2 k4] 24)
  have hkA5 := hkA4.next hb5
  have qA5 := qA4.next hb5
  have hb5' := hb4'.trans (hb5.mono hb4'.size)
  have q5 := Blk.new w5 24 #[.int .i64 1, .int .i64 65536, .int .i64 0, .int .i64 0, .slice p5 2 k5]
  clear hb4 hb5 hb4' qA qA4 q4 hk4 hbA hkA hkA4
  go_wp2_with fail
  have hb5a : Below w.heap.size w (w5.alloc (.cells #[.int .i64 1, .int .i64 65536, .int .i64 0, .int .i64 0, .slice p5 2 k5] 24)) := hb5'.alloc hb5'.size _
  have qA5' := qA5.alloc (.cells #[.int .i64 1, .int .i64 65536, .int .i64 0, .int .i64 0, .slice p5 2 k5] 24)
  have hkA5' := hkA5.alloc (.cells #[.int .i64 1, .int .i64 65536, .int .i64 0, .int .i64 0, .slice p5 2 k5] 24)
  have hk5' := hk5.alloc (.cells #[.int .i64 1, .int .i64 65536, .int .i64 0, .int .i64 0, .slice p5 2 k5] 24)
  refine (rem_aw _ _ (hk5.alloc _).all).mono ?_
  rintro e w6 ⟨⟨p6, k6, rfl, hk6⟩, hb6⟩
  have hb6' := hb5a.trans (hb6.mono hb5a.size)
  have qA6 := qA5'.next hb6
  have q56 := q5.next hb6
  have hkA6 := hkA5'.next hb6
  have hk56 := hk5'.next hb6
  have q6 := Blk.new w6 24 #[.int .i64 1, .int .i64 65536, .int .i64 0, .int .i64 0, .slice p6 2 k6]
  clear hb5' hb5a qA5 qA5' q5 hk5 hk5' hkA5 hkA5' hb6
  go_wp2_with fail
  have hb6a : Below w.heap.size w (w6.alloc (.cells #[.int .i64 1, .int .i64 65536, .int .i64 0, .int .i64 0, .slice p6 2 k6] 24)) := hb6'.alloc hb6'.size _
  have qA6' := qA6.alloc (.cells #[.int .i64 1, .int .i64 65536, .int .i64 0, .int .i64 0, .slice p6 2 k6] 24)
  have q56' := q56.alloc (.cells #[.int .i64 1, .int .i64 65536, .int .i64 0, .int .i64 0, .slice p6 2 k6] 24)
  have hkA6' := hkA6.alloc (.cells #[.int .i64 1, .int .i64 65536, .int .i64 0, .int .i64 0, .slice p6 2 k6] 24)
  have hk56' := hk56.alloc (.cells #[.int .i64 1, .int .i64 65536, .int .i64 0, .int .i64 0, .slice p6 2 k6] 24)
  have hk6' := hk6.alloc (.cells #[.int .i64 1, .int .i64 65536, .int .i64 0, .int .i64 0, .slice p6 2 k6] 24)
  clear qA6 q56 hkA6 hk56 hk6 hb6'
  refine (aw_leaf 1 _).mono ?_
  rintro e w7 ⟨rfl, hb7⟩
  go_wp2_with fail
  refine (aw_leaf 2 _).mono ?_
  rintro e w8 ⟨rfl, hb8⟩
  have hb68 := hb7.trans (hb8.mono hb7.size)
  clear hb7 hb8
  go_wp2_with fail
  refine (aw_leaf 3 _).mono ?_
  rintro e w9 ⟨rfl, hb9⟩
  have hb69 := hb68.trans (hb9.mono hb68.size)
  have hb9' := hb6a.trans (hb69.mono hb6a.size)
  have qA9 := qA6'.next hb69
  have q59 := q56'.next hb69
  have q69 := q6.next hb69
  have hkA9 := hkA6'.next hb69
  have hk59 := hk56'.next hb69
  have hk69 := hk6'.next hb69
  clear hb9 hb68 hb69 hb6a qA6' q56' q6 hkA6' hk56' hk6'
  obtain ⟨⟨a0, a1, a2, a3, a4⟩, -⟩ := c5 qA9
  obtain ⟨⟨b0, b1, b2, b3, b4⟩, -⟩ := c5 q59
  obtain ⟨⟨c0, c1, c2, c3, c4⟩, -⟩ := c5 q69
  have hw10 : w1.heap.size < w9.heap.size  := by have := qA9.lt; omega
  have hw10' : w1.heap.size ≠ w9.heap.size  := by have := qA9.lt; omega
  have hw11 : w1.heap.size < w9.heap.size + 1 := by have := qA9.lt; omega
  have hw11' : w1.heap.size ≠ w9.heap.size + 1 := by have := qA9.lt; omega
  have hw12 : w1.heap.size < w9.heap.size + 1 + 1 := by have := qA9.lt; omega
  have hw12' : w1.heap.size ≠ w9.heap.size + 1 + 1 := by have := qA9.lt; omega
  have hw50 : w5.heap.size < w9.heap.size  := by have := q59.lt; omega
  have hw50' : w5.heap.size ≠ w9.heap.size  := by have := q59.lt; omega
  have hw51 : w5.heap.size < w9.heap.size + 1 := by have := q59.lt; omega
  have hw51' : w5.heap.size ≠ w9.heap.size + 1 := by have := q59.lt; omega
  have hw52 : w5.heap.size < w9.heap.size + 1 + 1 := by have := q59.lt; omega
  have hw52' : w5.heap.size ≠ w9.heap.size + 1 + 1 := by have := q59.lt; omega
  have hw60 : w6.heap.size < w9.heap.size  := by have := q69.lt; omega
  have hw60' : w6.heap.size ≠ w9.heap.size  := by have := q69.lt; omega
  have hw61 : w6.heap.size < w9.heap.size + 1 := by have := q69.lt; omega
  have hw61' : w6.heap.size ≠ w9.heap.size + 1 := by have := q69.lt; omega
  have hw62 : w6.heap.size < w9.heap.size + 1 + 1 := by have := q69.lt; omega
  have hw62' : w6.heap.size ≠ w9.heap.size + 1 + 1 := by have := q69.lt; omega
  have HQA := Lib.hid qA9
  have HQ6 := Lib.hid q69
  have HB9 := Lib.hid hb9'
  clear qA9 q59 q69 hs3 hs4 hb9'
  have HK5 := Lib.hid hk59
  have HK6 := Lib.hid hk69
  have HKA := Lib.hid hkA9
  clear hk59 hk69 hkA9
  go_wp2_with fail
  obtain ⟨wZ, hwZ⟩ : ∃ W : World, W = ((w9.alloc (.cells #[.int .i64 0, .int .i64 65536, .int .i64 2, .int .i64 0, .slice none 0 0, .int .i64 0, .int .i64 65536, .int .i64 3, .int .i64 0, .slice none 0 0] 24)).alloc (.cells #[.int .i64 0, .int .i64 65536, .int .i64 1, .int .i64 0, .slice none 0 0, .int .i64 2, .int .i64 65536, .int .i64 0, .int .i64 0, .slice (some ⟨w9.heap.size, 0, none⟩) 2 2] 24)).alloc (.cells #[.int .i64 1, .int .i64 65536, .int .i64 0, .int .i64 0, .slice (some ⟨w9.heap.size + 1, 0, none⟩) 2 2] 24) := ⟨_, rfl⟩
  rewrite [← hwZ]
  have hz : Below w9.heap.size w9 wZ := by rw [hwZ]; exact (((Below.refl _ _).alloc (Nat.le_refl _) _).alloc (by simp) _).alloc (by simp; omega) _
  have z1 : Blk wZ w9.heap.size 24 #[.int .i64 0, .int .i64 65536, .int .i64 2, .int .i64 0, .slice none 0 0, .int .i64 0, .int .i64 65536, .int .i64 3, .int .i64 0, .slice none 0 0] := by rw [hwZ]; exact ((Blk.new w9 24 _).alloc _).alloc _
  have z2 : Blk wZ (w9.heap.size + 1) 24 #[.int .i64 0, .int .i64 65536, .int .i64 1, .int .i64 0, .slice none 0 0, .int .i64 2, .int .i64 65536, .int .i64 0, .int .i64 0, .slice (some ⟨w9.heap.size, 0, none⟩) 2 2] := by
    rw [hwZ]; have := (Blk.new (w9.alloc (.cells #[.int .i64 0, .int .i64 65536, .int .i64 2, .int .i64 0, .slice none 0 0, .int .i64 0, .int .i64 65536, .int .i64 3, .int .i64 0, .slice none 0 0] 24)) 24 #[.int .i64 0, .int .i64 65536, .int .i64 1, .int .i64 0, .slice none 0 0, .int .i64 2, .int .i64 65536, .int .i64 0, .int .i64 0, .slice (some ⟨w9.heap.size, 0, none⟩) 2 2]).alloc (.cells #[.int .i64 1, .int .i64 65536, .int .i64 0, .int .i64 0, .slice (some ⟨w9.heap.size + 1, 0, none⟩) 2 2] 24); rwa [World.size_alloc] at this
  have hk1 : KV wZ (fun _ => True) [leafT 2, leafT 3] (.slice (some ⟨w9.heap.size, 0, none⟩) 2 2) := KV.pair (x := leafT 2) (y := leafT 3) z1 trivial (KV.nil _ _ _ _) (leafT_fine (i64c _ (by decide)) [] _ rfl).1 (KV.nil _ _ _ _) (leafT_fine (i64c _ (by decide)) [] _ rfl).1
  have hk2 : KV wZ (fun _ => True) T3.ks (.slice (some ⟨w9.heap.size + 1, 0, none⟩) 2 2) := KV.pair (x := leafT 1) (y := .mk ⟨2, 65536, 0, 0⟩ [leafT 2, leafT 3]) z2 trivial (KV.nil _ _ _ _) (leafT_fine (i64c _ (by decide)) [] _ rfl).1 hk1 (spl_wide _ (by decide))
  have hz' := HB9.out.trans (hz.mono HB9.out.size)
  have qAZ := HQA.out.next hz
  have q6Z := HQ6.out.next hz
  have hk6Z := HK6.out.next hz
  have hkAZ := HKA.out.next hz
  refine (same_aw T3 rfl _ _ wZ (HK5.out.next hz) hk2).mono ?_
  rintro e w10 ⟨rfl, hb10⟩
  have hbX := Lib.hid (hz'.trans (hb10.mono hz'.size))
  have hkX := Lib.hid (hkAZ.next hb10)
  have hkY := Lib.hid (hk6Z.next hb10)
  obtain ⟨⟨x0, x1, x2, x3, x4⟩, -⟩ := c5 (qAZ.next hb10)
  obtain ⟨⟨y0, y1, y2, y3, y4⟩, -⟩ := c5 (q6Z.next hb10)
  clear hb10 hkAZ hk6Z qAZ q6Z hz' hk1 hk2 z1 z2 hz hwZ HQA HQ6 HK6 HKA HK5 HB9
  go_wp2_with fail
  refine (same_aw T1 rfl _ _ w10 hkY.out hkX.out).mono ?_
  rintro e w11 ⟨rfl, hb11⟩
  have hbW := hbX.out.trans (hb11.mono hbX.out.size)
  clear hb11
  go_wp2_with fail
  go_ret
  exact ⟨rfl, hbW⟩
end Go.Proofs.Ytjlkmcoamcclgaa.Co
end
section
namespace Go.Proofs.Ytjlkmcoamcclgaa.Co
open Go.RowKit Go.Shelf
/-- Both tell the same container. -/
theorem told_same {r q : Con × Int} {y z : Con} (h : r = q) (hy : y = if r.2 = 0 then r.1 else zeroT) (hz : z = if q.2 = 0 then q.1 else zeroT) : sameB y z = true := by
  subst h; rw [hy, hz]; exact sameB_refl _
theorem same_t {Z Z' : Nat → Prop} {y z : Con} {s u : Value} {w : World} (h : sameB y z = true) (h1 : KV w Z y.ks s) (h2 : KV w Z' z.ks u) : Calls Try.prog 21 #[conV y.a s, conV z.a u] w fun e w' => e = .returned (.bool true) ∧ Below w.heap.size w w' := by
  have := same_c Z Z' y z s u w h1 h2
  rwa [h] at this
theorem remove_fine {x : Con} {c : Int} (hf : fine x) (h : (removeD x c).2 = 0) : fine (removeD x c).1 := by
  rw [removeD_asked] at h ⊢
  by_cases h0 : askedI x c = 0
  · rw [if_pos h0]
    obtain ⟨a, ks⟩ := x
    obtain ⟨h1, h2, h3⟩ := fine_kids hf
    exact fine_mk h1 (Nat.le_trans (lessL_len c ks) h2) (lessL_fine h3)
  · rw [if_neg h0] at h; exact absurd h h0
set_option maxHeartbeats 4000000 in
theorem removes_c (x : Con) (sv : Value) (c : Int) (w : World) (hK : KV w (fun b => b < w.heap.size) x.ks sv) (hw : x.a.wide) :
    Calls Try.prog 6 #[conV x.a sv, .int .i64 c] w fun e w' => e = .returned (.bool true) ∧ Below w.heap.size w w' := by
  obtain ⟨p, cap, rfl, -⟩ := hK.slice
  obtain ⟨n, hn⟩ : ∃ n, n = x.ks.length := ⟨_, rfl⟩
  rw [← hn] at hK ⊢
  have hb0 := (Below.refl w.heap.size w).alloc (Nat.le_refl _) (.cells #[.int .i64 x.a.k, .int .i64 x.a.w, .int .i64 x.a.c, .int .i64 x.a.s, .slice p n cap] 24)
  have hq0 := Blk.new w 24 #[.int .i64 x.a.k, .int .i64 x.a.w, .int .i64 x.a.c, .int .i64 x.a.s, .slice p n cap]
  have HF := Lib.hid (few_c (fun b => b < w.heap.size) x (.slice p n cap) _ (hK.next hb0))
  have HB := Lib.hid hb0
  have HQ := Lib.hid hq0
  have HK := Lib.hid hK
  obtain ⟨dn, hdn⟩ : ∃ d, d = decide (nodesC x 0 ≤ 500) := ⟨_, rfl⟩
  rw [← hdn] at HF
  have HD := Lib.hid hdn
  have HW := Lib.hid hw
  clear hn hK hb0 hq0 hdn hw
  show Calls Try.prog 6 #[.agg #[.int .i64 x.a.k, .int .i64 x.a.w, .int .i64 x.a.c, .int .i64 x.a.s, .slice p n cap], .int .i64 c] w _
  go_enter Try.func6, Try.ntmps6
  go_wp2_with fail
  refine HF.out.mono ?_
  rintro e w1 ⟨rfl, hb⟩
  have hb1 := HB.out.trans (hb.mono HB.out.size)
  have HB1 := Lib.hid hb1
  have q1 := HQ.out.next hb
  have HQ1 := Lib.hid q1
  obtain ⟨⟨b0, b1, b2, b3, b4⟩, -⟩ := c5 q1
  clear hb hb1 HF HB q1
  cases dn
  · go_wp2_with fail
    refine (awake_c w1).mono ?_
    rintro e w2 ⟨rfl, hb⟩
    have HB2 := HB1.out.trans (hb.mono HB1.out.size)
    clear hb
    go_wp2_with fail
    go_ret
    exact ⟨rfl, HB2⟩
  · have hs := Small.of HK.out HW.out (of_decide_eq_true HD.out.symm)
    have HR := Lib.hid (remove_c x (.slice p n cap) c w1 (HK.out.next HB1.out).all HW.out hs.ht hs.wd)
    have HS := Lib.hid hs
    clear hs HD
    go_wp2_with fail
    refine HR.out.mono ?_
    rintro e w2 ⟨ht, hb⟩
    rw [show removeI x c = removeD x c from removeD_eq x c] at ht
    obtain ⟨y, s, rfl, hky, hy⟩ := ht.reads (fun h => remove_fine HS.out.f h)
    obtain ⟨py, ky, rfl, -⟩ := hky.slice
    obtain ⟨ny, hny⟩ : ∃ n, n = y.ks.length := ⟨_, rfl⟩
    rw [← hny] at hky ⊢
    obtain ⟨r, hr⟩ : ∃ r, r = removeD x c := ⟨_, rfl⟩
    rw [← hr] at hy ⊢
    obtain ⟨er, her⟩ : ∃ e, e = r.2 := ⟨_, rfl⟩
    rw [← her]
    have hb2 := HB1.out.trans (hb.mono HB1.out.size)
    have q2 := HQ1.out.next hb
    have HB2 := Lib.hid hb2
    have HQ2 := Lib.hid q2
    have HKY := Lib.hid hky
    have HY := Lib.hid hy
    have HRR := Lib.hid hr
    have HER := Lib.hid her
    clear hb hb2 HB1 HQ1 b0 b1 b2 b3 b4 hky hny hy hr her ht HR
    obtain ⟨⟨b0, b1, b2, b3, b4⟩, -⟩ := c5 q2
    have hs1 : w.heap.size < w2.heap.size := q2.lt
    have hs2 : w.heap.size ≠ w2.heap.size := Nat.ne_of_lt hs1
    clear q2
    go_wp2_with fail
    have hbN := HB2.out.alloc HB2.out.size (.cells #[.int .i64 y.a.k, .int .i64 y.a.w, .int .i64 y.a.c, .int .i64 y.a.s, .slice py ny ky] 24)
    have HKN := Lib.hid (HKY.out.alloc (.cells #[.int .i64 y.a.k, .int .i64 y.a.w, .int .i64 y.a.c, .int .i64 y.a.s, .slice py ny ky] 24))
    have HBN := Lib.hid hbN
    have HQN := Lib.hid (Blk.new w2 24 #[.int .i64 y.a.k, .int .i64 y.a.w, .int .i64 y.a.c, .int .i64 y.a.s, .slice py ny ky])
    refine (RemoveR_c c x (fun b => b < w.heap.size) (.slice p n cap) _ (HK.out.next hbN) (fun b h => Nat.lt_of_lt_of_le h hbN.size) HS.out.al HS.out.f).mono ?_
    rintro e w3 ⟨hb, z, s, rfl, hkz, hz⟩
    obtain ⟨pz, kz, rfl, -⟩ := hkz.slice
    obtain ⟨nz, hnz⟩ : ∃ n, n = z.ks.length := ⟨_, rfl⟩
    rw [← hnz] at hkz ⊢
    rw [← HRR.out] at hz ⊢
    rw [← HER.out]
    have hb3 := HBN.out.trans (hb.mono HBN.out.size)
    have HB3 := Lib.hid hb3
    have HKY3 := Lib.hid (HKN.out.next hb)
    have HKZ := Lib.hid hkz
    have HSM := Lib.hid (told_same (y := y) (z := z) rfl HY.out hz)
    obtain ⟨⟨b0, b1, b2, b3, b4⟩, -⟩ := c5 (HQN.out.next hb)
    have hs1 : w2.heap.size < w3.heap.size := (HQN.out.next hb).lt
    have hs2 : w2.heap.size ≠ w3.heap.size := Nat.ne_of_lt hs1
    clear hb hb3 hkz hnz hz HKN HQN HBN hbN HB2 HKY HY HRR HER
    go_wp2_with fail
    have hbN := HB3.out.alloc HB3.out.size (.cells #[.int .i64 z.a.k, .int .i64 z.a.w, .int .i64 z.a.c, .int .i64 z.a.s, .slice pz nz kz] 24)
    have HBN := Lib.hid hbN
    refine (same_t HSM.out (HKY3.out.alloc _) (HKZ.out.alloc _)).mono ?_
    rintro e w4 ⟨rfl, hb⟩
    have hb4 := HBN.out.trans (hb.mono HBN.out.size)
    have HB4 := Lib.hid hb4
    clear hb hb4 hbN HBN
    go_wp2_with fail
    refine (awake_c w4).mono ?_
    rintro e w5 ⟨rfl, hb⟩
    have hb5 := HB4.out.trans (hb.mono HB4.out.size)
    clear hb HB4
    go_wp2_with fail
    go_ret
    exact ⟨rfl, hb5⟩
end Go.Proofs.Ytjlkmcoamcclgaa.Co
end
section
namespace Go.Proofs.Ytjlkmcoamcclgaa.Co
open Go.RowKit Go.Shelf
theorem RZ.seen {w : World} {Z : Nat → Prop} : ∀ {l : List Con} {vs : List Value} {j : Nat} {y : Con}, RZ w Z l vs → l[j]? = some y → vs[j * 5 + 3]? = some (.int .i64 y.a.s) := by
  intro l
  induction l with
  | nil => intro vs j y _ h; simp at h
  | cons x r ih =>
    intro vs j y ⟨sv, rest, h1, _, h4⟩ h
    cases j with
    | zero => simp at h; subst h; rw [h1]; rfl
    | succ j =>
      have := ih h4 (by simpa using h)
      rw [h1, List.getElem?_append_right (by rw [enc_len]; omega), enc_len, show (j + 1) * 5 + 3 - 5 = j * 5 + 3 by omega]
      exact this
theorem leaf_seen {x y : Con} (h : treeB x = true) (hy : y ∈ all x) : 0 ≤ y.a.s := by
  obtain ⟨u, hu, hk⟩ := all_get x y hy
  have hs := shape_get (tree_parts h).1 hu
  obtain ⟨a, ks⟩ := y
  simp only [shape, Bool.and_eq_true] at hs
  have h1 := hs.1
  simp only [Tr.a_mk] at hk
  unfold soundB at h1
  split at h1
  · cases h1
  · simp [hk] at h1; exact h1.2.2.1
theorem top_step {l : List Con} {i : Nat} {x : Con} (hx : l[i]? = some x) (s : Int × Int) (hs : (l.take i).foldl topF (0, -1) = s) : (l.take (i + 1)).foldl topF (0, -1) = topF s x := by
  obtain ⟨h1, h2⟩ := List.getElem?_eq_some_iff.1 hx
  rw [List.take_succ_eq_append_getElem h1, List.foldl_append, hs, h2]; rfl
/-- The cells that Top reads. -/
def Seen (l : List Con) (p : Option Addr) (w : World) : Prop := ∀ (j : Nat) (y : Con), l[j]? = some y → ∃ g, p = some ⟨g, 0, none⟩ ∧ w.cell? ⟨g, j * 5 + 2, none⟩ = some (.int .i64 y.a.c) ∧ w.cell? ⟨g, j * 5 + 3, none⟩ = some (.int .i64 y.a.s)
theorem RowR.seen {Z : Nat → Prop} {B : Nat} {l : List Con} {p : Option Addr} {n c : Nat} {w : World} (h : RowR Z B l (.slice p n c) w) : Seen l p w := fun j y hy => by
  obtain ⟨vs, ho, hz, -⟩ := h
  obtain ⟨g, cg, hgv, hg1, hg2⟩ := ho.form (by have := (List.getElem?_eq_some_iff.1 hy).1; omega)
  injection hgv with e1 e2 e3
  subst e1 e2 e3
  have h1 := ho.cells (g := g) rfl (j * 5 + 2) _ (hz.client hy)
  have h2 := ho.cells (g := g) rfl (j * 5 + 3) _ (hz.seen hy)
  exact ⟨g, rfl, by simpa [Addr.add] using h1, by simpa [Addr.add] using h2⟩
set_option maxHeartbeats 4000000 in
theorem TopR_c (Z : Nat → Prop) (x : Con) (sv : Value) (w : World) (hK : KV w Z x.ks sv) (hd : (all x).length ≤ 1000000) (hZ : ∀ b, Z b → b < w.heap.size) :
    Calls Try.prog 30 #[conV x.a sv] w fun e w' => e = .returned (.int .i64 (topI x)) ∧ Below w.heap.size w w' := by
  obtain ⟨p, cap, rfl, hl⟩ := hK.slice
  obtain ⟨m, hm⟩ : ∃ m, m = x.ks.length := ⟨_, rfl⟩
  rw [← hm] at hK ⊢
  obtain ⟨r, hr⟩ : ∃ r, r = topI x := ⟨_, rfl⟩
  rw [← hr]
  obtain ⟨R, hR⟩ : ∃ R, R = fun (e : Ending) (w' : World) => e = .returned (.int .i64 r) ∧ Below w.heap.size w w' := ⟨_, rfl⟩
  have hRe : ∀ e w', R e w' ↔ (e = .returned (.int .i64 r) ∧ Below w.heap.size w w') := by rw [hR]; exact fun _ _ => Iff.rfl
  rw [← hR]
  have HR := Lib.hid hRe
  have hb0 := (Below.refl w.heap.size w).alloc (Nat.le_refl _) (.cells #[.int .i64 x.a.k, .int .i64 x.a.w, .int .i64 x.a.c, .int .i64 x.a.s, .slice p m cap] 24)
  have HQ := Lib.hid (Blk.new w 24 #[.int .i64 x.a.k, .int .i64 x.a.w, .int .i64 x.a.c, .int .i64 x.a.s, .slice p m cap])
  have HC := Lib.hid (CheckR_c Z x (.slice p m cap) _ (hK.next hb0) hd (fun b h => Nat.lt_of_lt_of_le (hZ b h) hb0.size))
  have HA := Lib.hid (fun (W : World) (h : Below w.heap.size w W) => All_c Z x (.slice p m cap) W (hK.next h) hd (fun b hb => Nat.lt_of_lt_of_le (hZ b hb) h.size))
  have HB := Lib.hid hb0
  rw [checkI_eq] at HC
  cases htr : treeB x
  · have HT : Hid (r = 0) := by rw [hr]; unfold topI; rw [htr]; rfl
    rw [if_pos htr] at HC
    clear htr hm hr hR hRe hb0 hK hZ hl HA hd
    show Calls Try.prog 30 #[.agg #[.int .i64 x.a.k, .int .i64 x.a.w, .int .i64 x.a.c, .int .i64 x.a.s, .slice p m cap]] w R
    go_enter Try.func30, Try.ntmps30
    go_wp2_with fail
    refine HC.out.mono ?_
    rintro e w1 ⟨rfl, hb⟩
    have HB1 := Lib.hid (HB.out.trans (hb.mono HB.out.size))
    clear hb
    go_wp2_with fail
    refine (HR.out _ _).2 ⟨?_, HB1.out⟩
    rw [HT.out]; rfl
  · rw [if_neg (by rw [htr]; decide)] at HC
    have HSE := Lib.hid (fun (y : Con) (hy : y ∈ all x) => leaf_seen htr hy)
    obtain ⟨l, hl2⟩ : ∃ l, l = all x := ⟨_, rfl⟩
    have HT : Hid (r = (l.foldl topF (0, -1)).1) := by rw [hr, hl2]; unfold topI; rw [if_pos htr]; exact rfl
    rw [← hl2] at HA hd HSE
    clear htr hm hr hR hRe hb0 hK hZ hl hl2
    show Calls Try.prog 30 #[.agg #[.int .i64 x.a.k, .int .i64 x.a.w, .int .i64 x.a.c, .int .i64 x.a.s, .slice p m cap]] w R
    go_enter Try.func30, Try.ntmps30
    go_wp2_with fail
    refine HC.out.mono ?_
    rintro e w1 ⟨rfl, hb⟩
    have HB1 := Lib.hid (HB.out.trans (hb.mono HB.out.size))
    obtain ⟨⟨b0, b1, b2, b3, b4⟩, -⟩ := c5 (HQ.out.next hb)
    clear hb HB HC HQ
    go_wp2_with fail
    refine (HA.out w1 HB1.out).mono ?_
    rintro e w2 ⟨hb, v, rfl, hrow⟩
    obtain ⟨pv, cv, rfl⟩ := hrow.slice
    have hse := hrow.seen
    have HB2 := Lib.hid (HB1.out.trans (hb.mono HB1.out.size))
    obtain ⟨n, hn⟩ : ∃ n, n = l.length := ⟨_, rfl⟩
    rw [← hn] at hd ⊢
    have HN := Lib.hid hn
    have HSN := Lib.hid hse
    clear hb hrow HA hn HB1 b0 b1 b2 b3 b4 hse
    go_wp2_with fail
    go_loopw [4, 5] (fun zb zi wr => ∃ i best : Nat, zi = .int .i64 i ∧ zb = .int .i64 best ∧ 1 ≤ i ∧ (i ≤ n ∨ i = 1) ∧ Below w.heap.size w wr ∧ Seen l pv wr ∧ Asd (i ≤ n → ∃ b, l[best]? = some b ∧ (l.take i).foldl topF (0, -1) = (b.a.c, b.a.s))) (fun _ zi _ => n - (intOf zi).toNat)
    case atStart =>
      refine ⟨1, 0, rfl, rfl, Nat.le_refl _, .inr rfl, HB2.out, HSN.out, fun h => ?_⟩
      obtain ⟨y, hy⟩ : ∃ y, l[0]? = some y := ⟨_, List.getElem?_eq_getElem (by rw [← HN.out]; omega)⟩
      refine ⟨y, hy, ?_⟩
      rw [top_step hy (0, -1) rfl]
      unfold topF
      rw [if_pos]
      have := HSE.out y (List.mem_of_getElem? hy)
      show (-1 : Int) < y.a.s
      omega
    case round =>
      clear HB2 HSN
      obtain ⟨i, best, rfl, rfl, hi1, hin, hW, hse, hbs⟩ := hrel
      have HSO := Lib.hid (show i ≤ n → ∃ b, l[best]? = some b ∧ (l.take i).foldl topF (0, -1) = (b.a.c, b.a.s) from hbs)
      have HW := Lib.hid hW
      have HSE2 := Lib.hid hse
      clear hbs hW
      by_cases hlt : i < n
      · obtain ⟨b, hb, hf⟩ := HSO.out (by omega)
        obtain ⟨y, hy⟩ : ∃ y, l[i]? = some y := ⟨_, List.getElem?_eq_getElem (by rw [← HN.out]; exact hlt)⟩
        obtain ⟨g, rfl, -, ci⟩ := hse i y hy
        obtain ⟨g', e, -, cb⟩ := hse best b hb
        injection e with e
        injection e with e
        subst e
        have hbn : best < n := by rw [HN.out]; exact (List.getElem?_eq_some_iff.1 hb).1
        have HST := Lib.hid (top_step hy _ hf)
        have HBB := Lib.hid hb
        have HYY := Lib.hid hy
        have HFF := Lib.hid hf
        clear hse hb hy hf
        by_cases hc : b.a.s < y.a.s
        · have HI : Hid (topF (b.a.c, b.a.s) y = (y.a.c, y.a.s)) := by unfold topF; exact if_pos hc
          go_wp2_with fail
          go_quiet (fail)
          go_wp2_with fail
          refine ⟨⟨i + 1, i, by go_num, by go_num, by omega, .inl (by omega), below_drewN HW.out _, fun j q h => HSE2.out j q h, fun _ => ⟨y, HYY.out, ?_⟩⟩, by simp [intOf]; omega⟩
          rw [HST.out, HI.out]
        · have HI : Hid (topF (b.a.c, b.a.s) y = (b.a.c, b.a.s)) := by unfold topF; exact if_neg hc
          go_wp2_with fail
          go_quiet (fail)
          go_wp2_with fail
          refine ⟨⟨i + 1, best, by go_num, by go_num, by omega, .inl (by omega), below_drewN HW.out _, fun j q h => HSE2.out j q h, fun _ => ⟨b, HBB.out, ?_⟩⟩, by simp [intOf]; omega⟩
          rw [HST.out, HI.out]
      · by_cases hn0 : n = 0
        · have HT2 : Hid (r = 0) := by rw [HT.out, show l = [] from List.length_eq_zero_iff.1 (by rw [← HN.out]; exact hn0)]; rfl
          subst hn0
          clear hse
          go_wp2_with fail
          refine (HR.out _ _).2 ⟨?_, HW.out⟩
          rw [HT2.out]; rfl
        · obtain ⟨b, hb, hf⟩ := HSO.out (by omega)
          obtain ⟨g, rfl, cc, -⟩ := hse best b hb
          have hbn : best < n := by rw [HN.out]; exact (List.getElem?_eq_some_iff.1 hb).1
          have HT2 : Hid (r = b.a.c) := by
            rw [HT.out]
            rw [List.take_of_length_le (by have := HN.out; omega)] at hf
            rw [hf]; exact rfl
          clear hse hb hf
          go_wp2_with fail
          refine (HR.out _ _).2 ⟨?_, HW.out⟩
          rw [HT2.out]; rfl
end Go.Proofs.Ytjlkmcoamcclgaa.Co
end
section
namespace Go.Proofs.Ytjlkmcoamcclgaa.Co
open Go.RowKit Go.Shelf
/-- A slice that reads as these numbers. -/
def RI (w : World) (l : List Int) (v : Value) : Prop := ∃ p c, v = .slice p l.length c ∧ ∀ (k : Nat) (u : Int), l[k]? = some u → ∃ g o, p = some ⟨g, o, none⟩ ∧ g < w.heap.size ∧ w.cell? ⟨g, o + k, none⟩ = some (.int .i64 u)
theorem RI.next {w w' : World} {l : List Int} {v : Value} (h : RI w l v) (hb : Below w.heap.size w w') : RI w' l v := by
  obtain ⟨p, c, h1, h2⟩ := h
  refine ⟨p, c, h1, fun k u hu => ?_⟩
  obtain ⟨g, o, h3, h4, h5⟩ := h2 k u hu
  exact ⟨g, o, h3, Nat.lt_of_lt_of_le h4 hb.size, (cell_same (hb.block g h4) _).trans h5⟩
def natsZ (u : List Nat) : List Int := u.map fun i : Nat => (i : Int)
theorem natsZ_at {u : List Nat} {k : Nat} {z : Int} (h : (natsZ u)[k]? = some z) : ∃ i : Nat, u[k]? = some i ∧ z = (i : Int) := by
  unfold natsZ at h
  rw [List.getElem?_map] at h
  obtain ⟨i, h1, h2⟩ := Option.map_eq_some_iff.1 h
  exact ⟨i, h1, h2.symm⟩
theorem RI.wi {w : World} {u : List Nat} {v : Value} (h : WI w u v) : RI w (natsZ u) v := by
  obtain ⟨p, c, h1, -, -, h2⟩ := h
  refine ⟨p, c, by rw [h1]; unfold natsZ; rw [List.length_map], fun k z hz => ?_⟩
  obtain ⟨i, hi, rfl⟩ := natsZ_at hz
  exact h2 k i hi
theorem RI.wv {w : World} {Y : Nat → Prop} {u : List Nat} {v : Value} (h : WV w Y u v) : RI w (natsZ u) v := by
  obtain ⟨p, c, h1, -, -, -, h3, h2⟩ := h
  refine ⟨p, c, by rw [h1]; unfold natsZ; rw [List.length_map], fun k z hz => ?_⟩
  obtain ⟨i, hi, rfl⟩ := natsZ_at hz
  obtain ⟨b, rfl, h4⟩ := h2 k i hi
  obtain ⟨b', e, h5, -⟩ := h3 _ rfl
  injection e with e
  subst e
  exact ⟨b, 0, rfl, h5, by rwa [Nat.zero_add]⟩
theorem RI.nil (w : World) : RI w [] (.slice none 0 0) := ⟨none, 0, rfl, fun k u h => by simp at h⟩
theorem RI.own {w : World} {B : Nat} {l : List Int} {v : Value} (h : w.ownsRow B 3 1 v l.length (l.map (Value.int .i64))) : RI w l v := by
  obtain ⟨h1, h2⟩ := h
  rcases h2 with ⟨rfl, h3⟩ | ⟨g, cap, cur, rfl, -, h4, h5, h6, h7, h8⟩
  · have := List.length_eq_zero_iff.1 h3
    subst this
    exact RI.nil w
  · refine ⟨_, cap, rfl, fun k u hu => ?_⟩
    have hk := (List.getElem?_eq_some_iff.1 hu).1
    have hc : World.cell? w ⟨g, k, none⟩ = some (.int .i64 u) := by
      have h9 : (cur.toList.take (l.length * 1))[k]? = some (.int .i64 u) := by rw [h8, List.getElem?_map, hu]; rfl
      rw [List.getElem?_take_of_lt (by omega)] at h9
      simp only [World.cell?, h4]
      simpa using h9
    exact ⟨g, 0, rfl, World.block_lt_of_cell? w _ hc, by rwa [Nat.zero_add]⟩
theorem same_list {α : Type} {a b : List α} (hl : a.length = b.length) (h : ∀ j, j < a.length → a[j]? = b[j]?) : a = b := by
  apply List.ext_getElem?
  intro j
  rcases Nat.lt_or_ge j a.length with hj | hj
  · exact h j hj
  · rw [List.getElem?_eq_none hj, List.getElem?_eq_none (by omega)]

set_option maxHeartbeats 2000000 in
theorem ints_c (va vb : Value) (a b : List Int) (w : World) (ha : RI w a va) (hb : RI w b vb) (hla : a.length ≤ 1048576) (hlb : b.length ≤ 1048576) :
    Calls Try.prog 26 #[va, vb] w fun e w' => e = .returned (.bool (decide (a = b))) ∧ Below w.heap.size w w' := by
  obtain ⟨p, c, rfl, ha'⟩ := ha
  obtain ⟨p', c', rfl, hb'⟩ := hb
  have HA := Lib.hid ha'
  have HB := Lib.hid hb'
  obtain ⟨n, hn⟩ : ∃ n, n = a.length := ⟨_, rfl⟩
  obtain ⟨n', hn'⟩ : ∃ n', n' = b.length := ⟨_, rfl⟩
  rw [← hn] at hla
  rw [← hn'] at hlb
  rw [← hn, ← hn']
  have HN := Lib.hid hn
  have HN' := Lib.hid hn'
  clear ha' hb' hn hn'
  by_cases hnn : n = n'
  · subst hnn
    go_enter Try.func26, Try.ntmps26
    go_wp2_with fail
    go_loopw [5] (fun v wr => ∃ k q : Nat, k ≤ n ∧ v = .int .i64 k ∧ wr = w.drewN q ∧ Asd (∀ j, j < k → a[j]? = b[j]?)) (fun v _ => n - (intOf v).toNat)
    case atStart => exact ⟨0, 0, Nat.zero_le _, rfl, rfl, fun j hj => absurd hj (Nat.not_lt_zero _)⟩
    case round =>
      obtain ⟨k, q, hk, rfl, rfl, hA⟩ := hrel
      have HS := Lib.hid (show ∀ j, j < k → a[j]? = b[j]? from hA)
      clear hA
      by_cases hlt : k < n
      · obtain ⟨u, hu⟩ : ∃ u, a[k]? = some u := ⟨_, List.getElem?_eq_getElem (by rw [← HN.out]; exact hlt)⟩
        obtain ⟨u', hu'⟩ : ∃ u, b[k]? = some u := ⟨_, List.getElem?_eq_getElem (by rw [← HN'.out]; exact hlt)⟩
        obtain ⟨g, o, rfl, -, h1⟩ := HA.out k u hu
        obtain ⟨g', o', rfl, -, h2⟩ := HB.out k u' hu'
        have HU := Lib.hid (And.intro hu hu')
        clear hu hu'
        have hi0 : (0 : Int) ≤ (k : Int) := by omega
        have hi1 : (k : Int) < (n : Int) := by omega
        by_cases he : u = u'
        · subst he
          go_wp2_with fail
          go_quiet (fail)
          go_wp2_with fail
          go_roundw
          case rel => exact ⟨k + 1, _, by omega, by go_num, rfl, fun j hj => by
            rcases Nat.lt_or_ge j k with h | h
            · exact HS.out j h
            · obtain rfl : j = k := by omega
              rw [HU.out.1, HU.out.2]⟩
          case measure => simp [intOf]; omega
        · have h3 : (u == u') = false := by simpa using he
          have h4 : (u != u') = true := by simp [bne, h3]
          have HR := Lib.hid (show decide (a = b) = false by
            rw [decide_eq_false_iff_not]
            intro e
            have := HU.out
            rw [e] at this
            have h5 := this.1.symm.trans this.2
            injection h5 with h5
            exact he h5)
          clear he
          go_wp2_with fail
          go_quiet (fail)
          go_wp2_with fail
          go_ret
          exact ⟨ret_bool HR.out.symm, below_drewN (below_drewN (Below.refl _ _) _) _⟩
      · obtain rfl : k = n := by omega
        have HR := Lib.hid (show decide (a = b) = true by
          rw [decide_eq_true_iff]
          exact same_list (by rw [← HN.out, ← HN'.out]) (fun j hj => HS.out j (by rw [HN.out]; exact hj)))
        go_wp2_with fail
        go_ret
        exact ⟨ret_bool HR.out.symm, below_drewN (Below.refl _ _) _⟩
  · have HR := Lib.hid (show decide (a = b) = false by
      rw [decide_eq_false_iff_not]
      intro e
      apply hnn
      rw [HN.out, HN'.out, e])
    have hne : ((n : Int) == (n' : Int)) = false := by simp; omega
    have hne2 : ((n : Int) != (n' : Int)) = true := by simp [bne, hne]
    clear hnn
    go_enter Try.func26, Try.ntmps26
    go_wp2_with fail
    go_ret
    exact ⟨ret_bool HR.out.symm, Below.refl _ _⟩
end Go.Proofs.Ytjlkmcoamcclgaa.Co
end
section
namespace Go.Proofs.Ytjlkmcoamcclgaa.Co
open Go.RowKit Go.Shelf
def wayZ : Option (List Nat) → List Int
  | none => []
  | some u => natsZ u
theorem FoundR.reads {x : Con} {c : Int} {w w' : World} {e : Ending} (h : FoundR x c w e w') : Below w.heap.size w w' ∧ ∃ p n k, e = .returned (.tuple #[.slice p n k, .bool (findI x c).isSome]) ∧ RI w' (wayZ (findI x c)) (.slice p n k) := by
  obtain ⟨hb, v, he, ho⟩ := h
  refine ⟨hb, ?_⟩
  cases hf : findI x c with
  | none =>
    rw [hf] at ho he
    have ho : v = .slice none 0 0 := ho
    exact ⟨none, 0, 0, by rw [he, ho], RI.nil w'⟩
  | some u =>
    rw [hf] at ho he
    have hr := RI.wv (show WV w' (fun _ => True) u v from ho)
    have hr' := hr
    obtain ⟨p, k, hv, -⟩ := hr'
    exact ⟨p, _, k, by rw [he, hv], by rw [← hv]; exact hr⟩
theorem FindD.reads {x : Con} {c : Int} {w w' : World} {e : Ending} (h : FindD x c w e w') : Below w.heap.size w w' ∧ (wayZ (findI x c)).length ≤ 1048576 ∧ ∃ p n k, e = .returned (.tuple #[.slice p n k, .bool (findI x c).isSome]) ∧ RI w' (wayZ (findI x c)) (.slice p n k) := by
  obtain ⟨hb, h⟩ := h
  refine ⟨hb, ?_⟩
  rcases h with ⟨hf, he⟩ | ⟨u, v, hf, he, hw⟩
  · rw [hf]
    exact ⟨by simp [wayZ], none, 0, 0, he, RI.nil w'⟩
  · rw [hf]
    have hr := RI.wi hw
    have hr' := hr
    obtain ⟨p, k, hv, -⟩ := hr'
    obtain ⟨_, _, _, hl, -⟩ := hw
    exact ⟨by simp only [wayZ, natsZ, List.length_map]; omega, p, _, k, by rw [he, hv]; rfl, by rw [← hv]; exact hr⟩
theorem leaves_reads {x : Con} {w w' : World} {e : Ending} (h : Below w.heap.size w w' ∧ ∃ v, e = .returned v ∧ w'.ownsRow w.heap.size 3 1 v (leavesI x).length ((leavesI x).map (Value.int .i64))) : Below w.heap.size w w' ∧ ∃ (p : Option Addr) (l : List Int) (k : Nat), e = .returned (.slice p l.length k) ∧ RI w' l (.slice p l.length k) ∧ l = leavesI x := by
  obtain ⟨hb, v, he, ho⟩ := h
  have hr := RI.own ho
  have hr' := hr
  obtain ⟨p, k, hv, -⟩ := hr'
  exact ⟨hb, p, leavesI x, k, by rw [he, hv], by rw [← hv]; exact hr, rfl⟩
set_option maxHeartbeats 4000000 in
set_option maxRecDepth 100000 in
theorem tells_c (x : Con) (sv : Value) (k : Int) (w : World) (hK : KV w (fun b => b < w.heap.size) x.ks sv) (hw : x.a.wide) :
    Calls Try.prog 4 #[conV x.a sv, .int .i64 k] w fun e w' => e = .returned (.bool true) ∧ Below w.heap.size w w' := by
  obtain ⟨p, cap, rfl, -⟩ := hK.slice
  obtain ⟨n, hn⟩ : ∃ n, n = x.ks.length := ⟨_, rfl⟩
  rw [← hn] at hK ⊢
  have hb0 := (Below.refl w.heap.size w).alloc (Nat.le_refl _) (.cells #[.int .i64 x.a.k, .int .i64 x.a.w, .int .i64 x.a.c, .int .i64 x.a.s, .slice p n cap] 24)
  have hq0 := Blk.new w 24 #[.int .i64 x.a.k, .int .i64 x.a.w, .int .i64 x.a.c, .int .i64 x.a.s, .slice p n cap]
  have HF := Lib.hid (few_c (fun b => b < w.heap.size) x (.slice p n cap) _ (hK.next hb0))
  have HB := Lib.hid hb0
  have HQ := Lib.hid hq0
  have HK := Lib.hid hK
  obtain ⟨dn, hdn⟩ : ∃ d, d = decide (nodesC x 0 ≤ 500) := ⟨_, rfl⟩
  rw [← hdn] at HF
  have HD := Lib.hid hdn
  have HW := Lib.hid hw
  clear hn hK hb0 hq0 hdn hw
  show Calls Try.prog 4 #[.agg #[.int .i64 x.a.k, .int .i64 x.a.w, .int .i64 x.a.c, .int .i64 x.a.s, .slice p n cap], .int .i64 k] w _
  go_enter Try.func4, Try.ntmps4
  go_wp2_with fail
  refine HF.out.mono ?_
  rintro e w1 ⟨rfl, hb⟩
  have HB1 := Lib.hid (HB.out.trans (hb.mono HB.out.size))
  have q1 := HQ.out.next hb
  have HQ1 := Lib.hid q1
  obtain ⟨⟨b0, b1, b2, b3, b4⟩, -⟩ := c5 q1
  clear hb HF HB q1
  cases dn
  · go_wp2_with fail
    refine (awake_c w1).mono ?_
    rintro e w2 ⟨rfl, hb⟩
    have HB2 := HB1.out.trans (hb.mono HB1.out.size)
    clear hb
    go_wp2_with fail
    go_ret
    exact ⟨rfl, HB2⟩
  · have hs := Small.of HK.out HW.out (of_decide_eq_true HD.out.symm)
    have HFI : Hid (∀ (W : World), Below w.heap.size w W → Calls Try.prog 24 #[.agg #[.int .i64 x.a.k, .int .i64 x.a.w, .int .i64 x.a.c, .int .i64 x.a.s, .slice p n cap], .int .i64 k] W (FoundR x k W)) := fun W h =>
      Find_c x (.slice p n cap) k W (HK.out.next h).all HW.out hs.ht
    have HFD : Hid (∀ (W : World), Below w.heap.size w W → Calls Try.prog 25 #[.agg #[.int .i64 x.a.k, .int .i64 x.a.w, .int .i64 x.a.c, .int .i64 x.a.s, .slice p n cap], .int .i64 k] W (FindD x k W)) := fun W h =>
      FindR_c (fun b => b < W.heap.size) x (.slice p n cap) k W (HK.out.next h).all hs.al (fun _ h => h)
    have HL : Hid (∀ (W : World), Below w.heap.size w W → Calls Try.prog 27 #[.agg #[.int .i64 x.a.k, .int .i64 x.a.w, .int .i64 x.a.c, .int .i64 x.a.s, .slice p n cap]] W fun e w' => Below W.heap.size W w' ∧ ∃ (p : Option Addr) (l : List Int) (k : Nat), e = .returned (.slice p l.length k) ∧ RI w' l (.slice p l.length k) ∧ l = leavesI x) := fun W h =>
      (Leaves_c x (.slice p n cap) W (HK.out.next h).all HW.out hs.ht (of_decide_eq_true HD.out.symm)).mono fun e w' h => leaves_reads h
    have HM : Hid (∀ (W : World), Below w.heap.size w W → Calls Try.prog 28 #[.agg #[.int .i64 x.a.k, .int .i64 x.a.w, .int .i64 x.a.c, .int .i64 x.a.s, .slice p n cap]] W fun e w' => Below W.heap.size W w' ∧ ∃ (p : Option Addr) (l : List Int) (k : Nat), e = .returned (.slice p l.length k) ∧ RI w' l (.slice p l.length k) ∧ l = leavesI x) := fun W h =>
      (LeavesR_c (fun b => b < W.heap.size) x (.slice p n cap) W (HK.out.next h).all hs.al (fun _ h => h)).mono fun e w' h => leaves_reads h
    have HLN : Hid ((leavesI x).length ≤ 1048576) := by
      have := hs.al
      show (leavesI x).length ≤ 1048576
      unfold leavesI; split
      · rw [List.length_map]; omega
      · simp
    have HI : Hid (∀ (W : World) (a b : List Int) (va vb : Value), a = b → RI W a va → RI W b vb → a.length ≤ 1048576 → Calls Try.prog 26 #[va, vb] W fun e w' => e = .returned (.bool true) ∧ Below W.heap.size W w') := fun W a b va vb hab h1 h2 hl => by
      subst hab
      have := ints_c va vb a a W h1 h2 hl hl
      rwa [decide_eq_true rfl] at this
    obtain ⟨tp, htp⟩ : ∃ z, z = topI x := ⟨_, rfl⟩
    have HP : Hid (∀ (W : World), Below w.heap.size w W → Calls Try.prog 29 #[.agg #[.int .i64 x.a.k, .int .i64 x.a.w, .int .i64 x.a.c, .int .i64 x.a.s, .slice p n cap]] W fun e w' => e = .returned (.int .i64 tp) ∧ Below W.heap.size W w') := fun W h => by
      rw [htp]; exact Top_c x (.slice p n cap) W (HK.out.next h).all HW.out hs.ht
    have HR : Hid (∀ (W : World), Below w.heap.size w W → Calls Try.prog 30 #[.agg #[.int .i64 x.a.k, .int .i64 x.a.w, .int .i64 x.a.c, .int .i64 x.a.s, .slice p n cap]] W fun e w' => e = .returned (.int .i64 tp) ∧ Below W.heap.size W w') := fun W h => by
      rw [htp]; exact TopR_c (fun b => b < W.heap.size) x (.slice p n cap) W (HK.out.next h).all hs.al (fun _ h => h)
    have HA : Hid (∀ (W : World), Calls Try.prog 18 #[] W fun e w' => e = .returned (.bool true) ∧ Below W.heap.size W w') := awake_c
    clear htp hs HK HW HD
    go_wp2_with fail
    refine (HFI.out w1 HB1.out).mono ?_
    rintro e w2 hfr
    obtain ⟨hb, pf, nf, kf, rfl, hrf⟩ := hfr.reads
    obtain ⟨is, his⟩ : ∃ b, b = (findI x k).isSome := ⟨_, rfl⟩
    rw [← his]
    have HIS := Lib.hid his
    have HRF := Lib.hid hrf
    have HB2 := Lib.hid (HB1.out.trans (hb.mono HB1.out.size))
    have HQ2 := Lib.hid (HQ1.out.next hb)
    clear hb hfr hrf his b0 b1 b2 b3 b4
    obtain ⟨⟨b0, b1, b2, b3, b4⟩, -⟩ := c5 HQ2.out
    go_wp2_with fail
    refine (HFD.out w2 HB2.out).mono ?_
    rintro e w3 hfr
    obtain ⟨hb, hln, pg, ng, kg, rfl, hrg⟩ := hfr.reads
    rw [← HIS.out]
    have HWN := Lib.hid hln
    have HG := Lib.hid hrg
    have HF := Lib.hid (HRF.out.next hb)
    have HB3 := Lib.hid (HB2.out.trans (hb.mono HB2.out.size))
    have HQ3 := Lib.hid (HQ2.out.next hb)
    have HBD := Lib.hid ((Below.refl w3.heap.size w3).drew)
    clear hb hfr hrg hln HIS HRF b0 b1 b2 b3 b4
    obtain ⟨⟨b0, b1, b2, b3, b4⟩, -⟩ := c5 HQ3.out
    go_wp2_with fail
    refine wp_region_noPanic ?_
    refine wp_region_held_drew (S := fun wx => wx.cell? ⟨w.heap.size, 0, none⟩ = some (.int .i64 x.a.k) ∧ wx.cell? ⟨w.heap.size, 1, none⟩ = some (.int .i64 x.a.w) ∧ wx.cell? ⟨w.heap.size, 2, none⟩ = some (.int .i64 x.a.c) ∧ wx.cell? ⟨w.heap.size, 3, none⟩ = some (.int .i64 x.a.s) ∧ wx.cell? ⟨w.heap.size, 4, none⟩ = some (.slice p n cap)) (by kernel_rfl) (by exact ⟨b0, b1, b2, b3, b4⟩) (fun hHeld => ?_)
    refine wpAnyH_take (i := 0) (v := ?vm0) rfl (by kernel_rfl) (by kernel_rfl) (by kernel_rfl) (fun _ _ _ h => h) (Or.inl ⟨by kernel_rfl, ?ym0⟩) (by assumption) ?rm0
    case ym0 => (intro wq hSw; (try dsimp only at hSw); go_simp; (try with_reducible rfl))
    (try simp only [Act.put, List.getElem_toArray, List.getElem_cons_zero, List.setIfInBounds_toArray, List.set_cons_zero, List.set_cons_succ])
    refine wpAnyH_take (i := 2) (v := ?vm2) rfl (by kernel_rfl) (by kernel_rfl) (by kernel_rfl) (fun _ _ _ h => h) (Or.inl ⟨by kernel_rfl, ?ym2⟩) (by assumption) ?rm2
    case ym2 => (intro wq hSw; (try dsimp only at hSw); go_simp; (try with_reducible rfl))
    (try simp only [Act.put, List.getElem_toArray, List.getElem_cons_succ, List.getElem_cons_zero, List.setIfInBounds_toArray, List.set_cons_zero, List.set_cons_succ])
    refine wpAnyH_ready (rs := [1]) (by kernel_rfl) (by simp) ?_
    refine AllReadyH.cons rfl (fun K hK => ?_) AllReadyH.nil
    go_simp
    refine (HL.out _ (HB3.out.drew)).mono ?_
    rintro ex W4 ⟨hb, pa, la, ca, rfl, hla, hea⟩; have HB4 := Lib.hid ((HB3.out.drew).trans (hb.mono (HB3.out.drew).size)); have HQ4 := Lib.hid ((HQ3.out.drew).next hb); have HA1 := Lib.hid (hla); have HE1 := Lib.hid hea; have HF1 := Lib.hid ((HF.out.next HBD.out).next hb); have HG1 := Lib.hid ((HG.out.next HBD.out).next hb); clear hla hea; clear hb; obtain ⟨⟨t0, t1, t2, t3, t4⟩, -⟩ := c5 (HQ4.out); have S4 := And.intro t0 (And.intro t1 (And.intro t2 (And.intro t3 t4))); clear t0 t1 t2 t3 t4
    (try dsimp only)
    refine hK.out _ _ (by exact S4) (fun hHeld => ?_)
    clear hK K
    (try simp only [Act.put, List.getElem_toArray, List.getElem_cons_succ, List.getElem_cons_zero, List.setIfInBounds_toArray, List.set_cons_zero, List.set_cons_succ])
    refine wpAnyH_ready (rs := [3]) (by kernel_rfl) (by simp) ?_
    refine AllReadyH.cons rfl (fun K hK => ?_) AllReadyH.nil
    go_simp
    refine (HM.out _ (HB4.out)).mono ?_
    rintro ex W5 ⟨hb, pb, lb, cb, rfl, hlb, heb⟩; have HB5 := Lib.hid ((HB4.out).trans (hb.mono (HB4.out).size)); have HQ5 := Lib.hid ((HQ4.out).next hb); have HA2 := Lib.hid (HA1.out.next hb); have HF2 := Lib.hid (HF1.out.next hb); have HG2 := Lib.hid (HG1.out.next hb); have HC2 := Lib.hid hlb; have HE2 := Lib.hid heb; clear hlb heb; clear hb; obtain ⟨⟨t0, t1, t2, t3, t4⟩, -⟩ := c5 (HQ5.out); have S5 := And.intro t0 (And.intro t1 (And.intro t2 (And.intro t3 t4))); clear t0 t1 t2 t3 t4
    (try dsimp only)
    refine hK.out _ _ (by exact S5) (fun hHeld => ?_)
    clear hK K
    (try simp only [Act.put, List.getElem_toArray, List.getElem_cons_succ, List.getElem_cons_zero, List.setIfInBounds_toArray, List.set_cons_zero, List.set_cons_succ])
    refine wpAnyH_ready (rs := [4]) (by kernel_rfl) (by simp) ?_
    refine AllReadyH.cons rfl (fun K hK => ?_) AllReadyH.nil
    go_simp
    refine (HI.out _ _ _ _ _ (HE1.out.trans HE2.out.symm) HA2.out HC2.out (by rw [HE1.out]; exact HLN.out)).mono ?_
    rintro ex W6 ⟨rfl, hb⟩; have HB6 := Lib.hid ((HB5.out).trans (hb.mono (HB5.out).size)); have HQ6 := Lib.hid ((HQ5.out).next hb); have HF3 := Lib.hid (HF2.out.next hb); have HG3 := Lib.hid (HG2.out.next hb); clear hb; obtain ⟨⟨t0, t1, t2, t3, t4⟩, -⟩ := c5 (HQ6.out); have S6 := And.intro t0 (And.intro t1 (And.intro t2 (And.intro t3 t4))); clear t0 t1 t2 t3 t4
    (try dsimp only)
    refine hK.out _ _ (by exact S6) (fun hHeld => ?_)
    clear hK K
    (try simp only [Act.put, List.getElem_toArray, List.getElem_cons_succ, List.getElem_cons_zero, List.setIfInBounds_toArray, List.set_cons_zero, List.set_cons_succ])
    refine wpAnyH_take (i := 5) (v := ?vm5) rfl (by kernel_rfl) (by kernel_rfl) (by kernel_rfl) (fun _ _ _ h => h) (Or.inl ⟨by kernel_rfl, ?ym5⟩) (by assumption) ?rm5
    case ym5 => (intro wq hSw; (try dsimp only at hSw); go_simp; (try with_reducible rfl))
    (try simp only [Act.put, List.getElem_toArray, List.getElem_cons_succ, List.getElem_cons_zero, List.setIfInBounds_toArray, List.set_cons_zero, List.set_cons_succ])
    refine wpAnyH_take (i := 6) (v := ?vm6) rfl (by kernel_rfl) (by kernel_rfl) (by kernel_rfl) (fun _ _ _ h => h) (Or.inl ⟨by kernel_rfl, ?ym6⟩) (by assumption) ?rm6
    case ym6 => (intro wq hSw; (try dsimp only at hSw); go_simp; (try with_reducible rfl))
    (try simp only [Act.put, List.getElem_toArray, List.getElem_cons_succ, List.getElem_cons_zero, List.setIfInBounds_toArray, List.set_cons_zero, List.set_cons_succ])
    refine wpAnyH_take (i := 7) (v := ?vm7) rfl (by kernel_rfl) (by kernel_rfl) (by kernel_rfl) (fun _ _ _ h => h) (Or.inl ⟨by kernel_rfl, ?ym7⟩) (by assumption) ?rm7
    case ym7 => (intro wq hSw; (try dsimp only at hSw); go_simp; (try with_reducible rfl))
    (try simp only [Act.put, List.getElem_toArray, List.getElem_cons_succ, List.getElem_cons_zero, List.setIfInBounds_toArray, List.set_cons_zero, List.set_cons_succ])
    refine wpAnyH_ready (rs := [8]) (by kernel_rfl) (by simp) ?_
    refine AllReadyH.cons rfl (fun K hK => ?_) AllReadyH.nil
    go_simp
    refine (HI.out _ _ _ _ _ rfl HF3.out HG3.out HWN.out).mono ?_
    rintro ex W7 ⟨rfl, hb⟩; have HB7 := Lib.hid ((HB6.out).trans (hb.mono (HB6.out).size)); have HQ7 := Lib.hid ((HQ6.out).next hb); clear hb; obtain ⟨⟨t0, t1, t2, t3, t4⟩, -⟩ := c5 (HQ7.out); have S7 := And.intro t0 (And.intro t1 (And.intro t2 (And.intro t3 t4))); clear t0 t1 t2 t3 t4
    (try dsimp only)
    refine hK.out _ _ (by exact S7) (fun hHeld => ?_)
    clear hK K
    (try simp only [Act.put, List.getElem_toArray, List.getElem_cons_succ, List.getElem_cons_zero, List.setIfInBounds_toArray, List.set_cons_zero, List.set_cons_succ])
    refine wpAnyH_take (i := 9) (v := ?vm9) rfl (by kernel_rfl) (by kernel_rfl) (by kernel_rfl) (fun _ _ _ h => h) (Or.inl ⟨by kernel_rfl, ?ym9⟩) (by assumption) ?rm9
    case ym9 => (intro wq hSw; (try dsimp only at hSw); go_simp; (try with_reducible rfl))
    (try simp only [Act.put, List.getElem_toArray, List.getElem_cons_succ, List.getElem_cons_zero, List.setIfInBounds_toArray, List.set_cons_zero, List.set_cons_succ])
    refine wpAnyH_take (i := 10) (v := ?vm10) rfl (by kernel_rfl) (by kernel_rfl) (by kernel_rfl) (fun _ _ _ h => h) (Or.inl ⟨by kernel_rfl, ?ym10⟩) (by assumption) ?rm10
    case ym10 => (intro wq hSw; (try dsimp only at hSw); go_simp; (try with_reducible rfl))
    (try simp only [Act.put, List.getElem_toArray, List.getElem_cons_succ, List.getElem_cons_zero, List.setIfInBounds_toArray, List.set_cons_zero, List.set_cons_succ])
    refine wpAnyH_take (i := 11) (v := ?vm11) rfl (by kernel_rfl) (by kernel_rfl) (by kernel_rfl) (fun _ _ _ h => h) (Or.inl ⟨by kernel_rfl, ?ym11⟩) (by assumption) ?rm11
    case ym11 => (intro wq hSw; (try dsimp only at hSw); go_simp; (try with_reducible rfl))
    (try simp only [Act.put, List.getElem_toArray, List.getElem_cons_succ, List.getElem_cons_zero, List.setIfInBounds_toArray, List.set_cons_zero, List.set_cons_succ])
    refine wpAnyH_take (i := 12) (v := ?vm12) rfl (by kernel_rfl) (by kernel_rfl) (by kernel_rfl) (fun _ _ _ h => h) (Or.inl ⟨by kernel_rfl, ?ym12⟩) (by assumption) ?rm12
    case ym12 => (intro wq hSw; (try dsimp only at hSw); go_simp; (try with_reducible rfl))
    (try simp only [Act.put, List.getElem_toArray, List.getElem_cons_succ, List.getElem_cons_zero, List.setIfInBounds_toArray, List.set_cons_zero, List.set_cons_succ])
    refine wpAnyH_take (i := 13) (v := ?vm13) rfl (by kernel_rfl) (by kernel_rfl) (by kernel_rfl) (fun _ _ _ h => h) (Or.inl ⟨by kernel_rfl, ?ym13⟩) (by assumption) ?rm13
    case ym13 => (intro wq hSw; (try dsimp only at hSw); go_simp; (try with_reducible rfl))
    (try simp only [Act.put, List.getElem_toArray, List.getElem_cons_succ, List.getElem_cons_zero, List.setIfInBounds_toArray, List.set_cons_zero, List.set_cons_succ])
    refine wpAnyH_take (i := 14) (v := ?vm14) rfl (by kernel_rfl) (by kernel_rfl) (by kernel_rfl) (fun _ _ _ h => h) (Or.inl ⟨by kernel_rfl, ?ym14⟩) (by assumption) ?rm14
    case ym14 => (intro wq hSw; (try dsimp only at hSw); go_simp; (try with_reducible rfl))
    (try simp only [Act.put, List.getElem_toArray, List.getElem_cons_succ, List.getElem_cons_zero, List.setIfInBounds_toArray, List.set_cons_zero, List.set_cons_succ])
    refine wpAnyH_take (i := 15) (v := ?vm15) rfl (by kernel_rfl) (by kernel_rfl) (by kernel_rfl) (fun _ _ _ h => h) (Or.inl ⟨by kernel_rfl, ?ym15⟩) (by assumption) ?rm15
    case ym15 => (intro wq hSw; (try dsimp only at hSw); go_simp; (try with_reducible rfl))
    (try simp only [Act.put, List.getElem_toArray, List.getElem_cons_succ, List.getElem_cons_zero, List.setIfInBounds_toArray, List.set_cons_zero, List.set_cons_succ])
    refine wpAnyH_take (i := 16) (v := ?vm16) rfl (by kernel_rfl) (by kernel_rfl) (by kernel_rfl) (fun _ _ _ h => h) (Or.inl ⟨by kernel_rfl, ?ym16⟩) (by assumption) ?rm16
    case ym16 => (intro wq hSw; (try dsimp only at hSw); go_simp; (try with_reducible rfl))
    (try simp only [Act.put, List.getElem_toArray, List.getElem_cons_succ, List.getElem_cons_zero, List.setIfInBounds_toArray, List.set_cons_zero, List.set_cons_succ])
    refine wpAnyH_take (i := 18) (v := ?vm18) rfl (by kernel_rfl) (by kernel_rfl) (by kernel_rfl) (fun _ _ _ h => h) (Or.inl ⟨by kernel_rfl, ?ym18⟩) (by assumption) ?rm18
    case ym18 => (intro wq hSw; (try dsimp only at hSw); go_simp; (try with_reducible rfl))
    (try simp only [Act.put, List.getElem_toArray, List.getElem_cons_succ, List.getElem_cons_zero, List.setIfInBounds_toArray, List.set_cons_zero, List.set_cons_succ])
    refine wpAnyH_ready (rs := [17]) (by kernel_rfl) (by simp) ?_
    refine AllReadyH.cons rfl (fun K hK => ?_) AllReadyH.nil
    go_simp
    refine (HP.out _ (HB7.out)).mono ?_
    rintro ex W8 ⟨rfl, hb⟩; have HB8 := Lib.hid ((HB7.out).trans (hb.mono (HB7.out).size)); have HQ8 := Lib.hid ((HQ7.out).next hb); clear hb; obtain ⟨⟨t0, t1, t2, t3, t4⟩, -⟩ := c5 (HQ8.out); have S8 := And.intro t0 (And.intro t1 (And.intro t2 (And.intro t3 t4))); clear t0 t1 t2 t3 t4
    (try dsimp only)
    refine hK.out _ _ (by exact S8) (fun hHeld => ?_)
    clear hK K
    (try simp only [Act.put, List.getElem_toArray, List.getElem_cons_succ, List.getElem_cons_zero, List.setIfInBounds_toArray, List.set_cons_zero, List.set_cons_succ])
    refine wpAnyH_ready (rs := [19]) (by kernel_rfl) (by simp) ?_
    refine AllReadyH.cons rfl (fun K hK => ?_) AllReadyH.nil
    go_simp
    refine (HR.out _ (HB8.out)).mono ?_
    rintro ex W9 ⟨rfl, hb⟩; have HB9 := Lib.hid ((HB8.out).trans (hb.mono (HB8.out).size)); have HQ9 := Lib.hid ((HQ8.out).next hb); clear hb; obtain ⟨⟨t0, t1, t2, t3, t4⟩, -⟩ := c5 (HQ9.out); have S9 := And.intro t0 (And.intro t1 (And.intro t2 (And.intro t3 t4))); clear t0 t1 t2 t3 t4
    (try dsimp only)
    refine hK.out _ _ (by exact S9) (fun hHeld => ?_)
    clear hK K
    (try simp only [Act.put, List.getElem_toArray, List.getElem_cons_succ, List.getElem_cons_zero, List.setIfInBounds_toArray, List.set_cons_zero, List.set_cons_succ])
    refine wpAnyH_take (i := 20) (v := ?vm20) rfl (by kernel_rfl) (by kernel_rfl) (by kernel_rfl) (fun _ _ _ h => h) (Or.inl ⟨by kernel_rfl, ?ym20⟩) (by assumption) ?rm20
    case ym20 => (intro wq hSw; (try dsimp only at hSw); go_simp; (try with_reducible rfl))
    (try simp only [Act.put, List.getElem_toArray, List.getElem_cons_succ, List.getElem_cons_zero, List.setIfInBounds_toArray, List.set_cons_zero, List.set_cons_succ])
    refine wpAnyH_take (i := 21) (v := ?vm21) rfl (by kernel_rfl) (by kernel_rfl) (by kernel_rfl) (fun _ _ _ h => h) (Or.inl ⟨by kernel_rfl, ?ym21⟩) (by assumption) ?rm21
    case ym21 => (intro wq hSw; (try dsimp only at hSw); go_simp; (try with_reducible rfl))
    (try simp only [Act.put, List.getElem_toArray, List.getElem_cons_succ, List.getElem_cons_zero, List.setIfInBounds_toArray, List.set_cons_zero, List.set_cons_succ])
    refine wpAnyH_take (i := 22) (v := ?vm22) rfl (by kernel_rfl) (by kernel_rfl) (by kernel_rfl) (fun _ _ _ h => h) (Or.inl ⟨by kernel_rfl, ?ym22⟩) (by assumption) ?rm22
    case ym22 => (intro wq hSw; (try dsimp only at hSw); go_simp; (try with_reducible rfl))
    (try simp only [Act.put, List.getElem_toArray, List.getElem_cons_succ, List.getElem_cons_zero, List.setIfInBounds_toArray, List.set_cons_zero, List.set_cons_succ])
    refine wpAnyH_ready (rs := [23]) (by kernel_rfl) (by simp) ?_
    refine AllReadyH.cons rfl (fun K hK => ?_) AllReadyH.nil
    go_simp
    refine (HA.out _).mono ?_
    rintro ex W10 ⟨rfl, hb⟩; have HB10 := Lib.hid ((HB9.out).trans (hb.mono (HB9.out).size)); have HQ10 := Lib.hid ((HQ9.out).next hb); clear hb; obtain ⟨⟨t0, t1, t2, t3, t4⟩, -⟩ := c5 (HQ10.out); have S10 := And.intro t0 (And.intro t1 (And.intro t2 (And.intro t3 t4))); clear t0 t1 t2 t3 t4
    (try dsimp only)
    refine hK.out _ _ (by exact S10) (fun hHeld => ?_)
    clear hK K
    (try simp only [Act.put, List.getElem_toArray, List.getElem_cons_succ, List.getElem_cons_zero, List.setIfInBounds_toArray, List.set_cons_zero, List.set_cons_succ])
    refine wpAnyH_take (i := 24) (v := ?vm24) rfl (by kernel_rfl) (by kernel_rfl) (by kernel_rfl) (fun _ _ _ h => h) (Or.inl ⟨by kernel_rfl, ?ym24⟩) (by assumption) ?rm24
    case ym24 => (intro wq hSw; (try dsimp only at hSw); go_simp; (try with_reducible rfl))
    (try simp only [Act.put, List.getElem_toArray, List.getElem_cons_succ, List.getElem_cons_zero, List.setIfInBounds_toArray, List.set_cons_zero, List.set_cons_succ])
    refine wpAnyH_take (i := 25) (v := ?vm25) rfl (by kernel_rfl) (by kernel_rfl) (by kernel_rfl) (fun _ _ _ h => h) (Or.inl ⟨by kernel_rfl, ?ym25⟩) (by assumption) ?rm25
    case ym25 => (intro wq hSw; (try dsimp only at hSw); go_simp; (try with_reducible rfl))
    (try simp only [Act.put, List.getElem_toArray, List.getElem_cons_succ, List.getElem_cons_zero, List.setIfInBounds_toArray, List.set_cons_zero, List.set_cons_succ])
    refine wpAnyH_done (by kernel_rfl) ?_ _
    refine NoPanic.normal ?_
    go_wp2_with fail
    go_ret
    exact ⟨rfl, HB10.out⟩
end Go.Proofs.Ytjlkmcoamcclgaa.Co
end
section
namespace Go.Proofs.Ytjlkmcoamcclgaa
open Go.RowKit Go.WideShapes Go.ChangeShapes Go.ChangeAt

/-- A value is a slice of these ints, in the world: nil or without elements, or a row of them. -/
def IsInts (w : World) (v : Value) (zs : List Int) : Prop :=
  (zs = [] ∧ ∃ a c, v = .slice a 0 c) ∨
  ∃ b off c, v = .slice (some ⟨b, off, none⟩) zs.length c ∧ b < w.heap.size ∧ zs.length ≤ 9223372036854775807 ∧ zs ≠ [] ∧ ∀ j, j < zs.length → w.cell? ⟨b, off + j, none⟩ = some (.int .i64 (zs.getD j 0))

section
variable {H : Type} {enc : TypeId × Value → H} {P : Program}
theorem block_of_cell {w : World} {a : Addr} {u : Value} (h : w.cell? a = some u) : a.block < w.heap.size := by
  unfold World.cell? at h
  cases hh : w.heap[a.block]? with
  | none => rw [hh] at h; simp at h
  | some o => exact (Array.getElem?_eq_some_iff.1 hh).1
theorem ints_of {t e : TypeId} {W : World} {b0 : Nat} {v : Value} {d : DataW H} {p : List MemPlace} (ht : P.underlying t = some (.slice e)) (he : P.underlying e = some (.int .i64)) (hc : P.cellsOf e = 1)
    (hv : Value.okWide P W .any b0 t v) (h : DataW.Trod enc P W 0 (fun _ => true) true t v d p) : ∃ zs, IsInts W v zs := by
  obtain ⟨a0, len, cap, rfl⟩ := okWide_slice ht hv
  obtain ⟨fuel, hf⟩ := h
  rcases open_ints ht he hc hf with ⟨hcs, _⟩ | ⟨a, len', cap', zs, hcs, _, hl, hm, hz, _, hcell, _⟩
  · simp only [Value.cells, List.cons.injEq, Value.slice.injEq, and_true] at hcs
    obtain ⟨rfl, rfl, rfl⟩ := hcs
    exact ⟨[], .inl ⟨rfl, _, _, rfl⟩⟩
  · simp only [Value.cells, List.cons.injEq, Value.slice.injEq, and_true] at hcs
    obtain ⟨rfl, rfl, rfl⟩ := hcs
    simp only [if_true] at hz
    by_cases h0 : len = 0
    · subst h0; exact ⟨[], .inl ⟨rfl, _, _, rfl⟩⟩
    · obtain ⟨b, off, spot⟩ := a
      have h1 := hcell 0 (by omega)
      have hspot : spot = none := by simpa [Addr.add] using World.cell?_spot h1
      subst hspot
      have hlen : (zs.take len).length = len := by simp; omega
      refine ⟨zs.take len, .inr ⟨b, off, cap, by rw [hlen], by simpa [Addr.add] using block_of_cell h1, by rw [hlen]; unfold maxLen at hm; omega, ?_, fun j hj => ?_⟩⟩
      · intro h; rw [h] at hlen; simp at hlen; omega
      · rw [hlen] at hj
        have := hcell j (by omega)
        rw [show ((⟨b, off, none⟩ : Addr).add j) = ⟨b, off + j, none⟩ by unfold Addr.add; split <;> simp_all] at this
        rw [this, List.getD_eq_getElem?_getD, List.getD_eq_getElem?_getD, List.getElem?_take_of_lt hj]

theorem post_args {f : Func} {s : ChangeSpec} {apart fresh handsOn : Bool} {W W' : World} {args : Array Value} {v : Value} {ds gs : List (DataW H)} {places : List MemPlace}
    (hW : DataW.Whole enc P f.params.toList s.vars apart W args.toList ds gs places)
    (hres : ∀ (b : Nat) (sp : Nat → Bool) (hd : Bool), DataW.TrodAll enc P W' b sp hd f.resultTypes.toList (v.resultList f.resultTypes.size) (s.fn H (ds ++ gs)).results [])
    (hargs : DataW.TrodAll enc P W' 0 (fun b => decide (b < W.heap.size)) true f.params.toList args.toList (s.fn H (ds ++ gs)).args places)
    (hvars : DataW.TrodVars enc P W' (fun b => decide (b < W.heap.size)) s.vars (s.fn H (ds ++ gs)).vars []) (hb : Below W.heap.size W W') :
    s.post enc P f apart fresh handsOn false W args v W' := by
  exact ⟨ds, gs, _, [], _, [], hW, hres _ _ _, hargs, hvars, World.keptBut_mono (fun p hp => ⟨hp, .inr (.inl hp)⟩) (hb.frame (· ∈ places)), fun h => by cases h⟩
end
end Go.Proofs.Ytjlkmcoamcclgaa
end
section
namespace Go.Proofs.Ytjlkmcoamcclgaa.Co
open Go.RowKit Go.WideShapes Go.ChangeShapes Go.ChangeAt Go.Deep
theorem cs_int : Try.prog.cellsOf 3 = 1 := by kernel_rfl
theorem cs_con : Try.prog.cellsOf 24 = 5 := by kernel_rfl
theorem cs_cons : Try.prog.cellsOf 22 = 1 := by kernel_rfl
theorem i64_of_wf {a : Int} (h : (Lit.int .i64 a).wf = true) : I64 a := by
  simp only [Lit.wf, decide_eq_true_eq, Bool.and_eq_true] at h
  have h1 : IntKind.i64.min = -9223372036854775808 := rfl
  have h2 : IntKind.i64.max = 9223372036854775807 := rfl
  unfold I64; omega
theorem bytes_con : Try.prog.bytesOf 24 = 56 := by kernel_rfl
section
variable {H : Type} {enc : TypeId × Value → H} {w : World}
theorem weights_all {P : Program} {e : TypeId} : ∀ {l : List (DataW H)} {d : DataW H}, d ∈ l → ∀ n ∈ d.weights P e, n ∈ DataW.weightsAll P e l := by
  intro l
  induction l with
  | nil => intro d h; cases h
  | cons y r ih =>
    intro d h n hn
    simp only [DataW.weightsAll, List.mem_append]
    rcases List.mem_cons.1 h with rfl | h
    · exact .inl hn
    · exact .inr (ih h n hn)
theorem open_con : ∀ (fuel : Nat) (cs : List Value) (x : DataW H × List MemPlace), DataW.trod enc Try.prog w 0 (fun _ => true) true fuel 24 cs = some x → (∀ n ∈ x.1.weights Try.prog 24, n ≤ 140737488355328) →
    ∃ (y : Con) (s : Value), cs = encC y.a s ∧ KV w (fun b => b < w.heap.size) y.ks s ∧ y.a.wide := by
  intro fuel
  induction fuel using Nat.strongRecOn with
  | ind fuel ih =>
    intro cs x h hwt
    have hcl : cs.length = 5 := by
      obtain ⟨_, _, _, _, hl, _⟩ := DataW.trod_struct Try.underlying24 h
      rw [hl, cs_con]
    match cs, hcl with
    | [c0, c1, c2, c3, c4], _ =>
      obtain ⟨xs, n, hfn, hx, _, hlen, hg⟩ := DataW.trod_struct Try.underlying24 h
      obtain ⟨y0, e0⟩ : ∃ y, xs[0]? = some y := ⟨_, List.getElem?_eq_getElem (by rw [hlen]; decide)⟩
      have k0 : DataW.trod enc Try.prog w 0 (fun _ => true) true n 3 [c0] = some y0 := by
        have h := (hg 0 _ rfl).trans e0
        simpa [cs_int] using h
      obtain ⟨y1, e1⟩ : ∃ y, xs[1]? = some y := ⟨_, List.getElem?_eq_getElem (by rw [hlen]; decide)⟩
      have k1 : DataW.trod enc Try.prog w 0 (fun _ => true) true n 3 [c1] = some y1 := by
        have h := (hg 1 _ rfl).trans e1
        simpa [cs_int] using h
      obtain ⟨y2, e2⟩ : ∃ y, xs[2]? = some y := ⟨_, List.getElem?_eq_getElem (by rw [hlen]; decide)⟩
      have k2 : DataW.trod enc Try.prog w 0 (fun _ => true) true n 3 [c2] = some y2 := by
        have h := (hg 2 _ rfl).trans e2
        simpa [cs_int] using h
      obtain ⟨y3, e3⟩ : ∃ y, xs[3]? = some y := ⟨_, List.getElem?_eq_getElem (by rw [hlen]; decide)⟩
      have k3 : DataW.trod enc Try.prog w 0 (fun _ => true) true n 3 [c3] = some y3 := by
        have h := (hg 3 _ rfl).trans e3
        simpa [cs_int] using h
      obtain ⟨y4, e4⟩ : ∃ y, xs[4]? = some y := ⟨_, List.getElem?_eq_getElem (by rw [hlen]; decide)⟩
      have k4 : DataW.trod enc Try.prog w 0 (fun _ => true) true n 22 [c4] = some y4 := by
        have h := (hg 4 _ rfl).trans e4
        simpa [cs_cons] using h
      obtain ⟨z0, q0, _, w0⟩ := DataW.trod_int Try.underlying3 k0
      simp only [List.cons.injEq, and_true] at q0
      obtain ⟨z1, q1, _, w1⟩ := DataW.trod_int Try.underlying3 k1
      simp only [List.cons.injEq, and_true] at q1
      obtain ⟨z2, q2, _, w2⟩ := DataW.trod_int Try.underlying3 k2
      simp only [List.cons.injEq, and_true] at q2
      obtain ⟨z3, q3, _, w3⟩ := DataW.trod_int Try.underlying3 k3
      simp only [List.cons.injEq, and_true] at q3
      subst q0 q1 q2 q3
      have hw4 : ∀ n ∈ y4.1.weights Try.prog 22, n ≤ 140737488355328 := fun n hn => hwt n (by
        rw [hx]
        simp only [DataW.weights, Try.underlying24]
        exact DataW.weights_mem_each (j := 4) (t := 22) (d := y4.1) rfl (by rw [List.getElem?_map, e4]; rfl) n hn)
      have hwide : I64 z0 ∧ I64 z1 ∧ I64 z2 ∧ I64 z3 := ⟨i64_of_wf w0, i64_of_wf w1, i64_of_wf w2, i64_of_wf w3⟩
      rcases DataW.trod_slice Try.underlying22 k4 with ⟨hcs, _⟩ | ⟨a, len, cap, elems, rest, n', hn', hcs, hy4, _, hl, hm, hle, hel, _⟩
      · simp only [List.cons.injEq, and_true] at hcs
        subst hcs
        exact ⟨.mk ⟨z0, z1, z2, z3⟩ [], .slice none 0 0, rfl, KV.nil w _ none 0, hwide⟩
      · simp only [List.cons.injEq, and_true] at hcs
        subst hcs
        have hy4' : y4.1 = .slice (elems.map (·.1)) (rest.map (·.1)) := by rw [hy4]
        have hlen9' : len ≤ 2513169434917 := by
          have := hw4 _ (by rw [hy4']; simp only [DataW.weights, Try.underlying22]; exact List.mem_cons_self ..)
          rw [bytes_con, List.length_map, hle] at this
          omega
        have hwe : ∀ e ∈ elems, ∀ n ∈ e.1.weights Try.prog 24, n ≤ 140737488355328 := fun e he n hn => hw4 n (by
          rw [hy4']
          simp only [DataW.weights, Try.underlying22]
          exact List.mem_cons_of_mem _ (List.mem_append.2 (.inl (weights_all (List.mem_map.2 ⟨e, he, rfl⟩) n hn))))
        have hex : ∀ i : Nat, ∃ p : Con × Value, i < len → (∀ (k : Nat) (u : Value), (encC p.1.a p.2)[k]? = some u → w.cell? (a.add (i * 5 + k)) = some u) ∧ KV w (fun b => b < w.heap.size) p.1.ks p.2 ∧ p.1.a.wide := fun i => by
          by_cases hi : i < len
          · have h9 := hel i hi
            obtain ⟨e9, he9⟩ : ∃ e, elems[i]? = some e := ⟨_, List.getElem?_eq_getElem (by omega)⟩
            rw [he9, Option.bind_eq_some_iff] at h9
            obtain ⟨cs', h10, h11⟩ := h9
            obtain ⟨y, s, rfl, h12, h13⟩ := ih n' (by omega) cs' e9 h11 (hwe e9 (List.mem_of_getElem? he9))
            rw [cs_con] at h10
            obtain ⟨_, hl5, hat⟩ := World.cells?_some h10
            refine ⟨(y, s), fun _ => ⟨fun k u hu => ?_, h12, h13⟩⟩
            have hk := (List.getElem?_eq_some_iff.1 hu).1
            rw [enc_len] at hk
            have h14 := hat k hk
            rw [← Go.Deep.add_add, h14]
            exact hu
          · exact ⟨(.mk D0 [], undef), fun h => absurd h hi⟩
        obtain ⟨f, hf⟩ := Classical.axiomOfChoice hex
        have hlist : ∀ (j : Nat) (x : Con), ((List.range len).map fun i => (f i).1)[j]? = some x → j < len ∧ x = (f j).1 := fun j x hx => by
          rw [List.getElem?_map] at hx
          have hj : j < len := by
            have := Option.map_eq_some_iff.1 hx
            obtain ⟨i, hi, _⟩ := this
            have := (List.getElem?_eq_some_iff.1 hi).1
            simpa using this
          rw [List.getElem?_range hj] at hx
          exact ⟨hj, (Option.some.inj hx).symm⟩
        have hlen9 : ((List.range len).map fun i => (f i).1).length = len := by simp
        refine ⟨.mk ⟨z0, z1, z2, z3⟩ ((List.range len).map fun i => (f i).1), .slice (some a) len cap, rfl, ?_, hwide⟩
        have := KV.mk (w := w) (Z := fun b => b < w.heap.size) ((List.range len).map fun i => (f i).1) (some a) cap (fun i => (f i).2) (by rw [hlen9]; omega) (by rw [hlen9]; exact hl) (fun j x hx => by
          obtain ⟨hj, rfl⟩ := hlist j x hx
          obtain ⟨h1, h2, h3⟩ := hf j hj
          have hc := h1 0 _ rfl
          have h0 := (hf 0 (by omega)).1 0 _ rfl
          rw [show 0 * 5 + 0 = 0 from rfl, show a.add 0 = a by unfold Addr.add; simp] at h0
          have ha : a = ⟨a.block, a.off, none⟩ := by
            have h8 : a.spot = none := World.cell?_spot h0
            obtain ⟨b, o, s⟩ := a
            simp only at h8
            subst h8; rfl
          have hlt := World.block_lt_of_cell? w _ h0
          refine ⟨a.block, a.off, by rw [← ha], hlt, hlt, h3, fun i u hu => ?_⟩
          have := h1 i u hu
          rw [ha, Addr.add_lit] at this
          rwa [show a.off + (j * 5 + i) = a.off + j * 5 + i by omega] at this) (fun j x hx => by
          obtain ⟨hj, rfl⟩ := hlist j x hx
          exact (hf j hj).2.1)
        rwa [hlen9] at this
set_option maxRecDepth 100000 in
theorem con_of {b0 : Nat} {v : Value} {d : DataW H} {q : List MemPlace} {ts : List TypeId} {ds : List (DataW H)} {j : Nat} (hsz : (DataW.weightsEach Try.prog ts ds).all (· ≤ reachBytes) = true) (ht : ts[j]? = some 24) (hd : ds[j]? = some d)
    (hv : Value.okWide Try.prog w .any b0 24 v) (h : DataW.Trod enc Try.prog w 0 (fun _ => true) true 24 v d q) :
    ∃ (x : Con) (s : Value), v = conV x.a s ∧ KV w (fun b => b < w.heap.size) x.ks s ∧ x.a.wide := by
  obtain ⟨⟨l⟩, rfl, hs5⟩ := okWide_struct Try.underlying24 hv
  obtain ⟨fuel, hf⟩ := h
  obtain ⟨x, s, h1, h2, h3⟩ := open_con fuel _ _ hf (fun n hn => by
    have := List.all_eq_true.1 hsz n (DataW.weights_mem_each ht hd n hn)
    have h9 := reachBytes_lt
    have h3 : (2 : Nat) ^ 47 = 140737488355328 := by decide
    have := of_decide_eq_true this
    omega)
  refine ⟨x, s, ?_, h2, h3⟩
  have h1 : l = encC x.a s := h1
  rw [h1]; rfl
end
end Go.Proofs.Ytjlkmcoamcclgaa.Co
end
section
namespace Go.Proofs.Ytjlkmcoamcclgaa.lawConsTells
open Go.ChangeShapes Go.WideShapes Go.ChangeAt Go.RowKit Go.Joins
theorem own : ownKnob Try.prog.godebug = none := by kernel_rfl
theorem laidOut : laidOutB Try.prog = true := by kernel_rfl
set_option maxHeartbeats 1000000 in
set_option maxRecDepth 100000 in
theorem lifted (os : Os) (started : os.Started) (H : Type) (enc : TypeId × Value → H) :
    ReturnsInHanded {} Try.checked os 4 .any (Rows.consTellsSpec.pre6 enc Try.prog Try.f4 Rows.consTellsRow.domain false) (Rows.consTellsSpec.post enc Try.prog Try.f4 false true false false) := by
  refine returnsInHanded_of_change_sized (C := Try.checked) own started (by kernel_rfl) Try.func4
    (ChangeSpec.witness6 (enc := enc) (C := Try.checked) false ⟨#[], #[.agg #[.int .i64 0, .int .i64 0, .int .i64 0, .int .i64 0, .slice none 0 0], .int .i64 0], []⟩ 8 (by kernel_rfl) (by kernel_rfl) (by kernel_rfl) (by kernel_rfl)) ?_
  intro W base args ds gs before hval0 hW _ hsz0 _
  have hsz : (DataW.weightsEach Try.prog (Try.f4.params.toList ++ Rows.consTellsSpec.plain.varTypes Try.prog) (ds ++ gs)).all (· ≤ reachBytes) = true := hsz0
  have hval : ∀ (j : Nat) t v, Try.f4.params[j]? = some t → args[j]? = some v → Value.okWide Try.prog W .any base t v := hval0
  have hW' := hW
  obtain ⟨p, q, hA0, hV, rfl, _, _⟩ := hW
  have hA : DataW.TrodAll enc Try.prog W 0 (fun _ => true) true Try.f4.params.toList args.toList ds p := hA0
  rw [Try.params4] at hA hval hsz
  obtain ⟨v0, vs0, d0, ds0, p0, q0, hargs, rfl, rfl, h0, r0⟩ := trodAll_cons hA
  obtain ⟨v1, vs1, d1, ds1, p1, q1, rfl, rfl, rfl, h1, r1⟩ := trodAll_cons r0
  obtain ⟨rfl, rfl, rfl⟩ := trodAll_nil r1
  obtain rfl : args = #[v0, v1] := by cases args; simp_all
  obtain ⟨rfl, rfl⟩ := trodVars_none hV
  have k0 := h0
  have k1 := h1
  clear hA0 hval0
  simp only [List.append_nil] at hW'
  obtain ⟨x0, s0, rfl, p0, z0⟩ := Co.con_of hsz (j := 0) (d := d0) rfl rfl (hval 0 24 v0 rfl rfl) h0
  obtain ⟨a1, rfl, _, _, hw1⟩ := open_int Try.underlying3 (hval 1 3 v1 rfl rfl) h1
  refine (Co.tells_c x0 s0 a1 W p0 z0).mono fun e W' ⟨he, hb⟩ => ?_
  subst he
  have g0 := Below.trod (W' := W') laidOut (by kernel_rfl) (of_decide_eq_true (by kernel_rfl)) k0 hb (fun y hy => by simpa using hW'.lt y (by simp [hy]))
  have g1 := Below.trod (W' := W') laidOut (by kernel_rfl) (of_decide_eq_true (by kernel_rfl)) k1 hb (fun y hy => by simpa using hW'.lt y (by simp [hy]))
  exact ⟨_, rfl, post_args hW' (fun _ _ _ => (trodAll_cons_mk (shut_bool Try.underlying4 _) trodAll_mk0)) (by have hh := (trodAll_cons_mk g0 (trodAll_cons_mk g1 trodAll_mk0)); simp only [List.append_nil] at hh; exact hh) rfl hb⟩
theorem over : Rows.consTellsRow.holds Try.pinned (OpenSpec.ofChange Rows.consTellsSpec) :=
  OpenClaim.holds_of_wide 4 Try.f4 rfl rfl rfl rfl rfl rfl rfl ⟨rfl, rfl, rfl, rfl, rfl⟩ rfl rfl rfl rfl rfl (by kernel_rfl) Try.func4 (by kernel_rfl)
    (of_decide_eq_true (by kernel_rfl)) (by unfold Func.isWrapper; first | (rw [if_pos (by decide +kernel)]; kernel_rfl) | (rw [if_neg (by decide +kernel)]; exact ⟨rfl, rfl⟩))
    (fun os started H enc _ => lifted os started H enc)
theorem proved : Rows.ConsTellsSaid := over
#print axioms proved
end Go.Proofs.Ytjlkmcoamcclgaa.lawConsTells
end
