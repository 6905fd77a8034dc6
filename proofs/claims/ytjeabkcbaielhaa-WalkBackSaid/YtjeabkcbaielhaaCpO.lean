/- The document's All, walked. -/
import Derived.Test.YtjeabkcbaielhaaCpN
namespace Go.Proofs.Ytjeabkcbaielhaa.Co
open Go.RowKit Go.Shelf
/-- A row of the call's own: these containers. -/
def RowR (Z : Nat → Prop) (B : Nat) (l : List Con) (v : Value) (w : World) : Prop := ∃ vs, w.ownsRow B 24 5 v l.length vs ∧ RZ w Z l vs ∧ (l = [] → v = .slice none 0 0)
theorem RowR.slice {Z : Nat → Prop} {B : Nat} {l : List Con} {v : Value} {w : World} (h : RowR Z B l v w) : ∃ p c, v = .slice p l.length c := by
  obtain ⟨vs, h1, -, h3⟩ := h
  by_cases h0 : l = []
  · exact ⟨none, 0, by rw [h3 h0, h0]; rfl⟩
  · obtain ⟨g, c, hv, -⟩ := h1.form (by have := List.length_pos_iff.2 h0; omega)
    exact ⟨_, c, hv⟩
theorem RowR.mono {Z : Nat → Prop} {B B' : Nat} {l : List Con} {v : Value} {w : World} (h : RowR Z B l v w) (hB : B' ≤ B) : RowR Z B' l v w := by
  obtain ⟨vs, ⟨h1, h2⟩, h3, h4⟩ := h
  refine ⟨vs, ⟨h1, h2.imp id ?_⟩, h3, h4⟩
  rintro ⟨g, c, cur, e, h5, h6⟩
  exact ⟨g, c, cur, e, Nat.le_trans hB h5, h6⟩
set_option maxHeartbeats 1000000 in
theorem All_c (Z : Nat → Prop) : ∀ (x : Con) (sv : Value) (w : World), KV w Z x.ks sv → (all x).length ≤ 1000000 → (∀ b, Z b → b < w.heap.size) →
    Calls Try.prog 60 #[conV x.a sv] w fun e w' => Below w.heap.size w w' ∧ ∃ v, e = .returned v ∧ RowR Z w.heap.size (all x) v w' := by
  intro x
  induction x using Tr.ind with
  | h a ks ih =>
    intro sv w hK hd hZ
    obtain ⟨p, cap, rfl, hl⟩ : ∃ p cap, sv = .slice p ks.length cap ∧ ks.length ≤ 1152921504606846976 := hK.slice
    have hK : KV w Z ks (.slice p ks.length cap) := hK
    obtain ⟨R, hR⟩ : ∃ R, R = fun (e : Ending) (w' : World) => Below w.heap.size w w' ∧ ∃ v, e = .returned v ∧ RowR Z w.heap.size (all (.mk a ks)) v w' := ⟨_, rfl⟩
    have hRe : ∀ e w', R e w' ↔ (Below w.heap.size w w' ∧ ∃ v, e = .returned v ∧ RowR Z w.heap.size (all (.mk a ks)) v w') := by rw [hR]; exact fun _ _ => Iff.rfl
    rw [← hR]
    have HR := Lib.hid hRe
    show Calls Try.prog 60 #[.agg #[.int .i64 a.k, .int .i64 a.w, .int .i64 a.c, .int .i64 a.s, .slice p ks.length cap]] w R
    obtain ⟨m, hm⟩ : ∃ m, m = ks.length := ⟨_, rfl⟩
    rw [← hm] at hl hK ⊢
    have HM := Lib.hid hm
    have HK := Lib.hid hK
    have HZ := Lib.hid hZ
    have IH := Lib.hid ih
    have hB := (Below.refl w.heap.size w).alloc (Nat.le_refl _) (.cells #[.int .i64 a.k, .int .i64 a.w, .int .i64 a.c, .int .i64 a.s, .slice p m cap] 24)
    have hQ := Blk.new w 24 #[.int .i64 a.k, .int .i64 a.w, .int .i64 a.c, .int .i64 a.s, .slice p m cap]
    by_cases hk0 : a.k = 0
    · have hA : all (.mk a ks) = [.mk a ks] := by simp [all, hk0]
      have HA := Lib.hid hA
      have hke : (a.k == 0) = true := by simpa using hk0
      clear hR hRe hm hK hZ ih hd hk0 hA
      go_enter Try.func60, Try.ntmps60
      go_wp2_with fail
      obtain ⟨w2, hw2⟩ : ∃ w2, w2 = (w.alloc (.cells #[.int .i64 a.k, .int .i64 a.w, .int .i64 a.c, .int .i64 a.s, .slice p m cap] 24)).alloc (.cells #[.int .i64 a.k, .int .i64 a.w, .int .i64 a.c, .int .i64 a.s, .slice p m cap] 24) := ⟨_, rfl⟩
      have hb2 : Below w.heap.size w w2 := by rw [hw2]; exact hB.alloc (by simp) _
      have hq2 : Blk w2 (w.heap.size + 1) 24 #[.int .i64 a.k, .int .i64 a.w, .int .i64 a.c, .int .i64 a.s, .slice p m cap] := by
        rw [hw2]; have := Blk.new (w.alloc (.cells #[.int .i64 a.k, .int .i64 a.w, .int .i64 a.c, .int .i64 a.s, .slice p m cap] 24)) 24 #[.int .i64 a.k, .int .i64 a.w, .int .i64 a.c, .int .i64 a.s, .slice p m cap]; rwa [World.size_alloc] at this
      rw [← hw2]
      show R (.returned (.slice (some ⟨w.heap.size + 1, 0, none⟩) 1 1)) w2
      refine (HR.out _ _).2 ⟨hb2, _, rfl, ?_⟩
      rw [HA.out]
      exact ⟨encC a (.slice p m cap), ⟨rfl, .inr ⟨w.heap.size + 1, 1, _, rfl, by omega, hq2.raw, Nat.le_refl _, by decide, rfl, rfl⟩⟩, ⟨.slice p m cap, [], by rw [List.append_nil]; rfl, HK.out.next hb2, rfl⟩, fun h => by cases h⟩
    · have hA : all (.mk a ks) = allL ks := by simp [all, hk0]
      have HA := Lib.hid hA
      have HD : Hid (∀ i, (allL (ks.take i)).length ≤ 1000000) := fun i => Nat.le_trans (allL_take_le ks i) (by rw [← hA]; exact hd)
      have hke : (a.k == 0) = false := by simpa using hk0
      obtain ⟨i0, hi0, hz0, hz1, hz2⟩ := con_info
      clear hR hRe hm hK hZ ih hd hk0 hA
      go_enter Try.func60, Try.ntmps60
      go_wp2_with fail
      go_loopw [3, 4] (fun u z wr => ∃ i : Nat, i ≤ m ∧ z = .int .i64 i ∧ Below w.heap.size w wr ∧ Blk wr w.heap.size 24 #[.int .i64 a.k, .int .i64 a.w, .int .i64 a.c, .int .i64 a.s, .slice p m cap] ∧ RowR Z (w.heap.size + 1) (allL (ks.take i)) u wr) (fun _ z _ => m - (intOf z).toNat)
      case atStart => exact ⟨0, Nat.zero_le _, rfl, hB, hQ, [], World.ownsRow_nil _ _ _ _, rfl, fun _ => rfl⟩
      case round =>
        obtain ⟨k, hk, rfl, hW, hq, hrow⟩ := hrel
        obtain ⟨pv, cv, rfl⟩ := hrow.slice
        have HRO := Lib.hid hrow
        clear hrow
        by_cases hlt : k < m
        · obtain ⟨x, hx⟩ : ∃ x, ks[k]? = some x := ⟨_, List.getElem?_eq_getElem (by rw [← HM.out]; exact hlt)⟩
          have hK1 := HK.out.same (Z' := Z) (w' := wr) (fun _ h => h) hW.size fun b _ hl => hW.block b hl
          obtain ⟨-, b, o, s', rfl, -, hb1, -, hk1, c0, c1, c2, c3, c4⟩ := hK1.kid hx
          have HE := Lib.hid (allL_snoc hx)
          have hlen := HD.out (k + 1)
          rw [HE.out, List.length_append] at hlen
          have HI := Lib.hid (IH.out x (List.mem_of_getElem? hx) s' wr hk1 (by omega) (fun b hb => Nat.lt_of_lt_of_le (HZ.out b hb) hW.size))
          obtain ⟨q4, qf⟩ : wr.cell? ⟨w.heap.size, 4, none⟩ = some (.slice (some ⟨b, o, none⟩) m cap) ∧ wr.frozen? ⟨w.heap.size, 4, none⟩ = false := ⟨hq.at_ (i := 4) rfl, hq.frozen 4⟩
          obtain ⟨l, hl1⟩ : ∃ l, l = allL (ks.take k) := ⟨_, rfl⟩
          obtain ⟨l', hl2⟩ : ∃ l', l' = all x := ⟨_, rfl⟩
          rw [← hl1] at HRO HE hlen ⊢
          rw [← hl2] at HI HE hlen
          obtain ⟨n, hn⟩ : ∃ n, n = l.length := ⟨_, rfl⟩
          obtain ⟨n', hn'⟩ : ∃ n', n' = l'.length := ⟨_, rfl⟩
          have HW := Lib.hid hW
          have HQ := Lib.hid hq
          clear hK1 hk1 hx hl1 hl2 hW hq
          rw [← hn] at hlen ⊢
          rw [← hn'] at hlen
          go_wp2_with fail
          refine HI.out.mono ?_
          rintro e w1 ⟨hb, v2, rfl, hr2⟩
          obtain ⟨pw, cw, rfl⟩ := hr2.slice
          have hW1 := HW.out.trans (hb.mono HW.out.size)
          have HW1 := Lib.hid hW1
          have HQ1 := Lib.hid (HQ.out.next hb)
          obtain ⟨vs, ho, hz, hno⟩ := HRO.out
          obtain ⟨vs2, ho2, hzz, hno2⟩ := hr2
          rw [← hn] at ho hno
          rw [← hn'] at ho2 hno2 ⊢
          have HO := Lib.hid (row_same' ho fun b hb' => hb.block b (ho.lt b hb').2)
          have HZ1 := Lib.hid (RZ.next (hb.mono HW.out.size) HZ.out hz)
          have HO2 := Lib.hid ho2
          have HZ2 := Lib.hid hzz
          have HNO := Lib.hid hno
          have HNO2 := Lib.hid hno2
          have HN := Lib.hid hn
          have HN' := Lib.hid hn'
          clear hb hW1 ho hz hno ho2 hzz hno2 c0 c1 c2 c3 c4 q4 qf HI HRO hn hn'
          by_cases h0 : l' = []
          · have hv2 := HNO2.out h0
            injection hv2 with e1 e2 e3
            subst e1 e2 e3
            go_wp2_with (at_builtin; go_loud (refine wpList_append_own_none rfl (.tmp 17) (.tmp 23) 22 rfl (w.heap.size + 1) 24 i0 5 Try.underlying22 hi0 _ n vs rfl HO.out rfl ?_))
            refine ⟨⟨k + 1, by omega, by go_num, HW1.out, HQ1.out, ?_⟩, by simp [intOf]; omega⟩
            rw [HE.out, h0, List.append_nil]
            refine ⟨vs, ?_, HZ1.out, HNO.out⟩
            rw [← HN.out]
            exact HO.out
          · have hn0 : 0 < n' := by have := List.length_pos_iff.2 h0; have := HN'.out; omega
            obtain ⟨g, cg, hgv, hg1, hg2⟩ := HO2.out.form hn0
            injection hgv with e1 e2 e3
            subst e1 e3
            have HNW : Hid (∀ j u, vs2[j]? = some u → w1.cell? ((⟨g, 0, none⟩ : Addr).add j) = some u) := fun j u hu => HO2.out.cells (g := g) rfl j u hu
            have hs1 : w.heap.size + 1 ≤ w1.heap.size := HQ1.out.lt
            have HSZ := Lib.hid hs1
            clear hg1 hg2 hs1
            go_wp2_with (at_builtin; go_loud (refine wpList_append_lies _ rfl (.tmp 17) (.tmp 23) 22 rfl (w.heap.size + 1) 24 i0 (.agg #[.int .i64 0, .int .i64 0, .int .i64 0, .int .i64 0, .slice none 0 0]) 5 56 Try.underlying22 hi0 hz0 hz1 hz2 rfl (by decide) _ n vs rfl HO.out ⟨g, 0, none⟩ n' cw vs2 rfl HO2.out.1 HNW.out HZ2.out.one hn0 (by unfold maxLen; omega) (by omega) HSZ.out _ rfl ?_; intro g7 cap7 w7 ho7 hg7 hh7 _; have HO7 := Lib.hid ho7; have HG7 := Lib.hid hg7; clear ho7 hg7 hh7))
            have hB7 : Below w.heap.size w1 w7 := ⟨HG7.out.os, HG7.out.tape, HG7.out.output, HG7.out.size, fun i hi => HG7.out.block i (Nat.lt_of_lt_of_le hi HW1.out.size) (fun e => by have := (HO.out.lt i e.symm).1; omega)⟩
            have hq7 : Blk w7 w.heap.size 24 #[.int .i64 a.k, .int .i64 a.w, .int .i64 a.c, .int .i64 a.s, .slice (some ⟨b, o, none⟩) m cap] := (HG7.out.block _ HQ1.out.lt (fun e => by have := (HO.out.lt _ e.symm).1; omega)).trans HQ1.out
            refine ⟨⟨k + 1, by omega, by go_num, HW1.out.trans hB7, hq7, ?_⟩, by simp [intOf]; omega⟩
            rw [HE.out]
            refine ⟨vs ++ vs2, ?_, (HZ1.out.next hB7 HZ.out).app (HZ2.out.next hB7 HZ.out), fun h => absurd (List.append_eq_nil_iff.1 h).2 h0⟩
            rw [List.length_append, ← HN.out, ← HN'.out]
            exact HO7.out
        · have HE : Hid (allL (ks.take k) = all (.mk a ks)) := by
            rw [List.take_of_length_le (by have := HM.out; omega)]; exact HA.out.symm
          obtain ⟨q4, qf⟩ : wr.cell? ⟨w.heap.size, 4, none⟩ = some (.slice p m cap) ∧ wr.frozen? ⟨w.heap.size, 4, none⟩ = false := ⟨hq.at_ (i := 4) rfl, hq.frozen 4⟩
          obtain ⟨l, hl2⟩ : ∃ l, l = allL (ks.take k) := ⟨_, rfl⟩
          rw [← hl2] at HRO HE ⊢
          clear hq hl2
          go_wp2_with fail
          refine (HR.out _ _).2 ⟨hW, _, rfl, ?_⟩
          rw [← HE.out]
          exact HRO.out.mono (by omega)
end Go.Proofs.Ytjeabkcbaielhaa.Co
