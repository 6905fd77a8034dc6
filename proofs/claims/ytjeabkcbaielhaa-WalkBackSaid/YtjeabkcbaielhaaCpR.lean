/- The document's Leaves. -/
import Derived.Test.YtjeabkcbaielhaaCpQ
namespace Go.Proofs.Ytjeabkcbaielhaa.Co
open Go.RowKit Go.Shelf
theorem row_mono {w : World} {B B' T k n : Nat} {v : Value} {xs : List Value} (h : w.ownsRow B T k v n xs) (hB : B' ≤ B) : w.ownsRow B' T k v n xs := by
  obtain ⟨h1, h2⟩ := h
  refine ⟨h1, h2.imp id ?_⟩
  rintro ⟨g, c, cur, e, h5, h6⟩
  exact ⟨g, c, cur, e, Nat.le_trans hB h5, h6⟩
theorem row_slice {w : World} {B T k n : Nat} {v : Value} {xs : List Value} (h : w.ownsRow B T k v n xs) : ∃ p c, v = .slice p n c := by
  rcases h.2 with ⟨rfl, rfl⟩ | ⟨g, c, cur, e, _⟩
  · exact ⟨_, _, rfl⟩
  · exact ⟨_, _, e⟩
theorem leaves_ct {x : Con} (h : treeB x = true) (j : Nat) (hj : j < (all x).length) : (leavesI x)[j]? = some (ctA (all x) j) := by
  unfold leavesI ctA
  rw [if_pos h]
  simp [hj]
set_option maxHeartbeats 1000000 in
theorem LeavesR_c (Z : Nat → Prop) (x : Con) (sv : Value) (w : World) (hK : KV w Z x.ks sv) (hd : (all x).length ≤ 1000000) (hZ : ∀ b, Z b → b < w.heap.size) :
    Calls Try.prog 28 #[conV x.a sv] w fun e w' => Below w.heap.size w w' ∧ ∃ v, e = .returned v ∧ w'.ownsRow w.heap.size 3 1 v (leavesI x).length ((leavesI x).map (Value.int .i64)) := by
  obtain ⟨p, cap, rfl, hl⟩ := hK.slice
  obtain ⟨m, hm⟩ : ∃ m, m = x.ks.length := ⟨_, rfl⟩
  rw [← hm] at hK ⊢
  obtain ⟨L, hL⟩ : ∃ L, L = leavesI x := ⟨_, rfl⟩
  rw [← hL]
  obtain ⟨R, hR⟩ : ∃ R, R = fun (e : Ending) (w' : World) => Below w.heap.size w w' ∧ ∃ v, e = .returned v ∧ w'.ownsRow w.heap.size 3 1 v L.length (L.map (Value.int .i64)) := ⟨_, rfl⟩
  have hRe : ∀ e w', R e w' ↔ (Below w.heap.size w w' ∧ ∃ v, e = .returned v ∧ w'.ownsRow w.heap.size 3 1 v L.length (L.map (Value.int .i64))) := by rw [hR]; exact fun _ _ => Iff.rfl
  rw [← hR]
  have HR := Lib.hid hRe
  obtain ⟨wB, hwB⟩ : ∃ wB, wB = w.alloc (.cells #[.int .i64 x.a.k, .int .i64 x.a.w, .int .i64 x.a.c, .int .i64 x.a.s, .slice p m cap] 24) := ⟨_, rfl⟩
  have hb0 : Below w.heap.size w wB := by rw [hwB]; exact (Below.refl w.heap.size w).alloc (Nat.le_refl _) _
  have hq0 : Blk wB w.heap.size 24 #[.int .i64 x.a.k, .int .i64 x.a.w, .int .i64 x.a.c, .int .i64 x.a.s, .slice p m cap] := by rw [hwB]; exact Blk.new _ _ _
  have HS := Lib.hid (CheckR_c Z x (.slice p m cap) wB (hK.next hb0) hd (fun b hb => Nat.lt_of_lt_of_le (hZ b hb) hb0.size))
  have HI := Lib.hid (fun (w1 : World) (h : Below wB.heap.size wB w1) => All_c Z x (.slice p m cap) w1 ((hK.next hb0).next h) hd (fun b hb => Nat.lt_of_lt_of_le (Nat.lt_of_lt_of_le (hZ b hb) hb0.size) h.size))
  have HB := Lib.hid hb0
  have HQ := Lib.hid hq0
  have HWB := Lib.hid hwB
  cases ht : treeB x
  · have HT : Hid (L = []) := by rw [hL]; unfold leavesI; rw [ht]; rfl
    rw [show checkI x = 110 by unfold checkI; rw [ht]; rfl] at HS
    clear hm hL hR hRe hb0 hK hZ hl hd ht hwB hq0 HI
    show Calls Try.prog 28 #[.agg #[.int .i64 x.a.k, .int .i64 x.a.w, .int .i64 x.a.c, .int .i64 x.a.s, .slice p m cap]] w R
    go_enter Try.func28, Try.ntmps28
    go_wp2_with fail
    rw [← HWB.out]
    refine HS.out.mono ?_
    rintro e w1 ⟨rfl, hb⟩
    have HB1 := Lib.hid (HB.out.trans (hb.mono HB.out.size))
    clear hb
    go_wp2_with fail
    refine (HR.out _ _).2 ⟨HB1.out, .slice none 0 0, rfl, ?_⟩
    rw [HT.out]
    exact World.ownsRow_nil _ _ _ _
  · rw [show checkI x = 0 by unfold checkI; rw [ht]; rfl] at HS
    obtain ⟨l, hl2⟩ : ∃ l, l = all x := ⟨_, rfl⟩
    have HLC : Hid (∀ j, j < l.length → L[j]? = some (ctA l j)) := by rw [hL, hl2]; exact fun j hj => leaves_ct ht j hj
    have HLL := Lib.hid (show L.length = l.length by rw [hL, hl2]; unfold leavesI; simp [ht])
    rw [← hl2] at HI hd
    obtain ⟨i0, hi0, hz0, hz1, hz2⟩ := int_info
    clear hm hL hR hRe hb0 hK hZ hl ht hwB hq0 hl2
    show Calls Try.prog 28 #[.agg #[.int .i64 x.a.k, .int .i64 x.a.w, .int .i64 x.a.c, .int .i64 x.a.s, .slice p m cap]] w R
    go_enter Try.func28, Try.ntmps28
    go_wp2_with fail
    rw [← HWB.out]
    refine HS.out.mono ?_
    rintro e w1 ⟨rfl, hb⟩
    have HB1 := Lib.hid (HB.out.trans (hb.mono HB.out.size))
    have HI1 := Lib.hid (HI.out w1 hb)
    have hq1 := HQ.out.next hb
    obtain ⟨q0, q1, q2, q3, q4⟩ := (show w1.cell? ⟨w.heap.size, 0, none⟩ = _ ∧ w1.cell? ⟨w.heap.size, 1, none⟩ = _ ∧ w1.cell? ⟨w.heap.size, 2, none⟩ = _ ∧ w1.cell? ⟨w.heap.size, 3, none⟩ = _ ∧ w1.cell? ⟨w.heap.size, 4, none⟩ = _ from ⟨hq1.at_ (i := 0) rfl, hq1.at_ (i := 1) rfl, hq1.at_ (i := 2) rfl, hq1.at_ (i := 3) rfl, hq1.at_ (i := 4) rfl⟩)
    clear hb hq1
    go_wp2_with fail
    refine HI1.out.mono ?_
    rintro e w2 ⟨hb, v, rfl, hrow⟩
    obtain ⟨pv, cv, rfl⟩ := hrow.slice
    have HB2 := Lib.hid (HB1.out.trans (hb.mono HB1.out.size))
    have hcl : CL l pv w2 := hrow.cl
    obtain ⟨vs0, hro, -, -⟩ := hrow
    have HPL : Hid (∀ g, pv = some ⟨g, 0, none⟩ → g < w2.heap.size) := fun g hg => (hro.lt g (by rw [hg]; rfl)).2
    obtain ⟨n, hn⟩ : ∃ n, n = l.length := ⟨_, rfl⟩
    rw [← hn] at hd hro ⊢
    have HN := Lib.hid hn
    have hs2 : w.heap.size ≤ w2.heap.size := HB2.out.size
    have HS2 := Lib.hid hs2
    clear hb hro HI HI1 hn q0 q1 q2 q3 q4 hs2
    go_wp2_with fail
    go_loopw [3, 5] (fun u z wr => ∃ i : Nat, i ≤ n ∧ z = .int .i64 i ∧ Below w2.heap.size w2 wr ∧ wr.ownsRow w2.heap.size 3 1 u i ((L.take i).map (Value.int .i64))) (fun _ z _ => n - (intOf z).toNat)
    case atStart => exact ⟨0, Nat.zero_le _, rfl, Below.refl _ _, World.ownsRow_nil _ _ _ _⟩
    case round =>
      obtain ⟨k, hk, rfl, hW, hrow⟩ := hrel
      obtain ⟨pu, cu, rfl⟩ := row_slice hrow
      by_cases hlt : k < n
      · obtain ⟨g, rfl, ck⟩ := hcl k (by have := HN.out; omega)
        have ck := (World.cell?_of_block (a := ⟨g, k * 5 + 2, none⟩) (hW.block g (HPL.out g rfl))).trans ck
        obtain ⟨wA, hwA⟩ : ∃ wA, wA = wr.alloc (.cells #[.int .i64 (ctA l k)] 3) := ⟨_, rfl⟩
        have hbA : Below wr.heap.size wr wA := by rw [hwA]; exact (Below.refl _ _).alloc (Nat.le_refl _) _
        have hnews : ∀ j u, [Value.int .i64 (ctA l k)][j]? = some u → wA.cell? ((⟨wr.heap.size, 0, none⟩ : Addr).add j) = some u := by
          rw [hwA]; exact World.news_of_block (Blk.new wr 3 #[.int .i64 (ctA l k)]).raw
        have HO := Lib.hid (row_same' hrow fun b hb' => hbA.block b (hrow.lt b hb').2)
        have HBA := Lib.hid (hW.trans (hbA.mono hW.size))
        have HNW := Lib.hid hnews
        have HWA := Lib.hid hwA
        have HLK := Lib.hid (HLC.out k (by have := HN.out; omega))
        have hsA := HBA.out.size
        have HSA := Lib.hid hsA
        clear hrow hW hbA hnews hwA hcl hsA
        go_wp2_with (at_builtin; rw [← HWA.out]; go_loud (refine wpList_append_lies _ rfl (.tmp 17) (.tmp 23) 34 rfl w2.heap.size 3 i0 (.int .i64 0) 1 8 Try.underlying34 hi0 hz0 hz1 hz2 rfl (by decide) _ k _ rfl HO.out ⟨_, 0, none⟩ 1 1 [.int .i64 (ctA l k)] rfl rfl HNW.out (by simp [Value.oneCell']) (by decide) (by unfold maxLen; omega) (by omega) HSA.out _ rfl ?_; intro g7 cap7 w7 ho7 hg7 hh7 _; have HO7 := Lib.hid ho7; have HG7 := Lib.hid hg7; clear ho7 hg7 hh7))
        have hB7 : Below w2.heap.size wA w7 := ⟨HG7.out.os, HG7.out.tape, HG7.out.output, HG7.out.size, fun i hi => HG7.out.block i (Nat.lt_of_lt_of_le hi HSA.out) (fun e => by have := (HO.out.lt i e.symm).1; omega)⟩
        refine ⟨⟨k + 1, by omega, by go_num, HBA.out.trans hB7, ?_⟩, by simp [intOf]; omega⟩
        have e : (L.take (k + 1)).map (Value.int .i64) = (L.take k).map (Value.int .i64) ++ [.int .i64 (ctA l k)] := by
          obtain ⟨h1, h2⟩ := List.getElem?_eq_some_iff.1 HLK.out
          rw [List.take_succ_eq_append_getElem h1, List.map_append, h2]; rfl
        rw [e]
        exact HO7.out
      · have hkn : k = L.length := by have := HN.out; have := HLL.out; omega
        have HKN := Lib.hid hkn
        have HRW := Lib.hid hrow
        have HWW := Lib.hid hW
        clear hrow hW hcl hkn
        go_wp2_with fail
        refine (HR.out _ _).2 ⟨HB2.out.trans (HWW.out.mono HS2.out), .slice pu k cu, rfl, ?_⟩
        have h := HRW.out
        rw [List.take_of_length_le (by have := HKN.out; omega)] at h
        rw [← HKN.out]
        exact row_mono h HS2.out
end Go.Proofs.Ytjeabkcbaielhaa.Co
