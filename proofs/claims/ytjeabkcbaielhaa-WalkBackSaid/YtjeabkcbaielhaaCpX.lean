/- The document's asked. -/
import Derived.Test.YtjeabkcbaielhaaCpW
namespace Go.Proofs.Ytjeabkcbaielhaa.Co
open Go.RowKit Go.Shelf Go.Maps
/-- Why a client may not be asked for. -/
def askedI (x : Con) (c : Int) : Int := if treeB x = false then 110 else if hasB x c = false then 6 else 0
theorem checkI_eq (x : Con) : checkI x = if treeB x = false then 110 else 0 := by unfold checkI; cases treeB x <;> rfl
set_option maxHeartbeats 1000000 in
theorem asked_c (Z : Nat → Prop) (x : Con) (sv : Value) (c : Int) (w : World) (hK : KV w Z x.ks sv) (hd : (all x).length ≤ 1000000) (hZ : ∀ b, Z b → b < w.heap.size) :
    Calls Try.prog 73 #[conV x.a sv, .int .i64 c] w fun e w' => e = .returned (.int .i64 (askedI x c)) ∧ Below w.heap.size w w' := by
  obtain ⟨p, cap, rfl, -⟩ := hK.slice
  obtain ⟨m, hm⟩ : ∃ m, m = x.ks.length := ⟨_, rfl⟩
  rw [← hm] at hK ⊢
  obtain ⟨r, hr⟩ : ∃ r, r = askedI x c := ⟨_, rfl⟩
  rw [← hr]
  obtain ⟨R, hR⟩ : ∃ R, R = fun (e : Ending) (w' : World) => e = .returned (.int .i64 r) ∧ Below w.heap.size w w' := ⟨_, rfl⟩
  have hRe : ∀ e w', R e w' ↔ (e = .returned (.int .i64 r) ∧ Below w.heap.size w w') := by rw [hR]; exact fun _ _ => Iff.rfl
  rw [← hR]
  have HR := Lib.hid hRe
  obtain ⟨wB, hwB⟩ : ∃ wB, wB = w.alloc (.cells #[.int .i64 x.a.k, .int .i64 x.a.w, .int .i64 x.a.c, .int .i64 x.a.s, .slice p m cap] 24) := ⟨_, rfl⟩
  have hb0 : Below w.heap.size w wB := by rw [hwB]; exact (Below.refl w.heap.size w).alloc (Nat.le_refl _) _
  have hq0 : Blk wB w.heap.size 24 #[.int .i64 x.a.k, .int .i64 x.a.w, .int .i64 x.a.c, .int .i64 x.a.s, .slice p m cap] := by rw [hwB]; exact Blk.new _ _ _
  have HS := Lib.hid (CheckR_c Z x (.slice p m cap) wB (hK.next hb0) hd (fun b hb => Nat.lt_of_lt_of_le (hZ b hb) hb0.size))
  have HI := Lib.hid (fun (w1 : World) (h : Below wB.heap.size wB w1) => Has_c Z x (.slice p m cap) c w1 ((hK.next hb0).next h) hd (fun b hb => Nat.lt_of_lt_of_le (Nat.lt_of_lt_of_le (hZ b hb) hb0.size) h.size))
  have HB := Lib.hid hb0
  have HQ := Lib.hid hq0
  have HWB := Lib.hid hwB
  cases ht : treeB x
  · have HT : Hid (r = 110) := by rw [hr]; unfold askedI; rw [if_pos ht]; exact rfl
    rw [checkI_eq, if_pos ht] at HS
    clear hm hr hR hRe hb0 hK hZ hd ht hwB hq0 HI
    show Calls Try.prog 73 #[.agg #[.int .i64 x.a.k, .int .i64 x.a.w, .int .i64 x.a.c, .int .i64 x.a.s, .slice p m cap], .int .i64 c] w R
    go_enter Try.func73, Try.ntmps73
    go_wp2_with fail
    rw [← HWB.out]
    refine HS.out.mono ?_
    rintro e w1 ⟨rfl, hb⟩
    have HB1 := Lib.hid (HB.out.trans (hb.mono HB.out.size))
    clear hb
    go_wp2_with fail
    refine (HR.out _ _).2 ⟨?_, HB1.out⟩
    rw [HT.out]; rfl
  · obtain ⟨hb9, hhb⟩ : ∃ q, q = hasB x c := ⟨_, rfl⟩
    have HT : Hid (r = if hb9 = false then 6 else 0) := by rw [hr]; unfold askedI; rw [if_neg (by rw [ht]; simp), hhb]; exact rfl
    rw [checkI_eq, if_neg (by rw [ht]; simp)] at HS
    rw [← hhb] at HI
    clear hm hr hR hRe hb0 hK hZ hd ht hwB hq0 hhb
    show Calls Try.prog 73 #[.agg #[.int .i64 x.a.k, .int .i64 x.a.w, .int .i64 x.a.c, .int .i64 x.a.s, .slice p m cap], .int .i64 c] w R
    go_enter Try.func73, Try.ntmps73
    go_wp2_with fail
    rw [← HWB.out]
    refine HS.out.mono ?_
    rintro e w1 ⟨rfl, hb⟩
    have HB1 := Lib.hid (HB.out.trans (hb.mono HB.out.size))
    have HI1 := Lib.hid (HI.out w1 hb)
    obtain ⟨⟨q0, q1, q2, q3, q4⟩, -⟩ := c5 (HQ.out.next hb)
    clear hb HI
    go_wp2_with fail
    refine HI1.out.mono ?_
    rintro e w2 ⟨rfl, hb⟩
    have HB2 := Lib.hid (HB1.out.trans (hb.mono HB1.out.size))
    clear hb q0 q1 q2 q3 q4
    cases hb9
    · go_wp2_with fail
      refine (HR.out _ _).2 ⟨?_, HB2.out⟩
      rw [HT.out]; rfl
    · go_wp2_with fail
      refine (HR.out _ _).2 ⟨?_, HB2.out⟩
      rw [HT.out]; rfl
end Go.Proofs.Ytjeabkcbaielhaa.Co
