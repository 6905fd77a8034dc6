/- Raise, Lower, walked. -/
import Derived.Test.YtlbbjinkblgfiaaWiJ
namespace Go.Proofs.Ytlbbjinkblgfiaa
open Go.RowKit Go.Shelf Go.Maps
theorem strike_len (k : Int) (xs : List Int) : (strike k xs).length ≤ xs.length := List.length_filter_le _ _
section
variable {w : World} {t : Nat} {l : Lay} {nd : Int → Option Nd} {made : Int} {cnt : Nat}
theorem TreeTo.trans {w1 w2 : World} {nb2 : Int → Option Nat} {nd2 : Int → Option Nd} {made2 : Int} {cnt2 : Nat} {l1 : Lay} (h : Turn (l.foot t) (l1.foot t) w w1) (k : TreeTo w1 t l1 nb2 nd2 made2 cnt2 w2) : TreeTo w t l nb2 nd2 made2 cnt2 w2 := by
  obtain ⟨l', h1, h2, h3⟩ := k
  exact ⟨l', h1, h2, h.trans h3⟩
set_option maxHeartbeats 1000000 in
theorem raise_c (h : TreeH w t l nd made cnt) {r : Nat} (h0 : l.nb 0 = some r) {i : Int} (hi : I64 i) {b bp : Nat} {d dp : Nd} (hb : l.nb i = some b) (hd : nd i = some d) (hz : i ≠ 0) (hbp : l.nb d.win.par = some bp) (hdp : nd d.win.par = some dp) (hne : d.win.par ≠ i) (hip : I64 d.win.par) (hk : dp.kids.length ≤ 4096) :
    Calls Try.prog 25 #[treeP t, .int .i64 i] w fun e w' => e = .returned (.int .i64 0) ∧ TreeTo w t l l.nb (upd nd d.win.par (some ⟨dp.win, strike d.win.id dp.kids ++ [d.win.id]⟩)) made cnt w' := by
  have HC := Lib.hid (changeable_some h h0 hi hb hz)
  have HL := Lib.hid (leave_c h hbp hb hdp hd rfl hip)
  have HE := Lib.hid (fun (W : World) (l1 : Lay) (hl1 : l1.nb = l.nb) (T1 : TreeH W t l1 (upd nd d.win.par (some ⟨dp.win, strike d.win.id dp.kids⟩)) made cnt) => And.intro
    (enter_c T1 (p := d.win.par) (c := i) (hl1 ▸ hbp) (hl1 ▸ hb) (upd_same _ _ _) ((upd_other _ _ hne.symm).trans hd) hne hip (Nat.le_trans (strike_len _ _) hk))
    (T1.cells (hl1 ▸ hb) ((upd_other _ _ hne.symm).trans hd)).1.2.1)
  have HF := Lib.hid (show upd (upd (upd nd d.win.par (some ⟨dp.win, strike d.win.id dp.kids⟩)) d.win.par (some ⟨dp.win, strike d.win.id dp.kids ++ [d.win.id]⟩)) i (some ⟨{ d.win with par := d.win.par }, d.kids⟩) = upd nd d.win.par (some ⟨dp.win, strike d.win.id dp.kids ++ [d.win.id]⟩) by
    rw [upd_twice, upd_self]
    rw [upd_other _ _ hne.symm, hd])
  clear h h0 hi hb hd hz hbp hdp hne hip hk
  go_enter Try.func25, Try.ntmps25
  go_wp2_with (first
    | (go_at_call 47; ((with_reducible refine (HC.out).mono ?_); rintro e w' ⟨rfl, rfl⟩))
    | (go_at_call 48; ((with_reducible refine (HL.out).mono ?_); rintro e w1 ⟨rfl, l1, hl1, T1, U1⟩); obtain ⟨E1, k1⟩ := HE.out w1 l1 hl1 T1; have HE1 := Lib.hid E1; have HU := Lib.hid U1; have HL1 := Lib.hid hl1; clear E1 U1 T1 hl1)
    | (go_at_call 52; ((with_reducible refine (HE1.out).mono ?_); rintro e w2 ⟨rfl, T2⟩); have HT2 := Lib.hid T2; clear T2))
  go_ret
  refine ⟨rfl, ?_⟩
  have k := TreeTo.trans HU.out HT2.out
  have hf := HF.out
  rw [hf, HL1.out] at k
  exact k
set_option maxRecDepth 100000 in
set_option maxHeartbeats 4000000 in
theorem lower_c (h : TreeH w t l nd made cnt) {r : Nat} (h0 : l.nb 0 = some r) {i : Int} (hi : I64 i) {b bp : Nat} {d dp : Nd} (hb : l.nb i = some b) (hd : nd i = some d) (hz : i ≠ 0) (hbp : l.nb d.win.par = some bp) (hdp : nd d.win.par = some dp) (hne : d.win.par ≠ i) (hip : I64 d.win.par) (hk : dp.kids.length ≤ 4096) :
    Calls Try.prog 28 #[treeP t, .int .i64 i] w fun e w' => e = .returned (.int .i64 0) ∧ TreeTo w t l l.nb (upd nd d.win.par (some ⟨dp.win, i :: strike d.win.id dp.kids⟩)) made cnt w' := by
  have HC := Lib.hid (changeable_some h h0 hi hb hz)
  have HL := Lib.hid (leave_c h hbp hb hdp hd rfl hip)
  obtain ⟨q, hq⟩ : ∃ q, q = d.win.par := ⟨_, rfl⟩
  obtain ⟨ks, hks⟩ : ∃ ks, ks = strike d.win.id dp.kids := ⟨_, rfl⟩
  have hkl : ks.length ≤ 4096 := by rw [hks]; exact Nat.le_trans (strike_len _ _) hk
  rw [← hks] at HL ⊢
  rw [← hq] at HL hbp hdp hne hip ⊢
  have HE := Lib.hid (fun (W : World) (l1 : Lay) (hl1 : l1.nb = l.nb) (T1 : TreeH W t l1 (upd nd q (some ⟨dp.win, ks⟩)) made cnt) =>
    (show (W.cell? ⟨t, 0, none⟩ = some (.map (some l1.bm)) ∧ (∀ n, (Instr.lookup 66 (.map (some l1.bm)) (.int .i64 q) false).run Try.prog (W.drewN n) = .ok (.pointer (some ⟨bp, 0, none⟩)) (W.drewN n)) ∧ W.cell? ⟨b, 1, none⟩ = some (.int .i64 q) ∧ W.cell? ⟨bp, 7, none⟩ = some (l1.kv q) ∧ bp < W.heap.size) from
      ⟨T1.tree.c2.1.1, fun n => (T1.drewN n).look_some hip (hl1 ▸ hbp), by rw [hq]; exact (T1.cells (hl1 ▸ hb) ((upd_other _ _ hne.symm).trans hd)).1.2.1, (T1.cells (hl1 ▸ hbp) (upd_same _ _ _)).1.2.2.2.2.2.2.2, (T1.node q bp _ (hl1 ▸ hbp) (upd_same _ _ _)).1.lt⟩))
  have HI := Lib.hid (fun (W : World) (l1 : Lay) (hl1 : l1.nb = l.nb) (T1 : TreeH W t l1 (upd nd q (some ⟨dp.win, ks⟩)) made cnt) (n : Nat) =>
    (show Calls Try.prog 53 #[l1.kv q, .int .i64 0, .slice (some ⟨W.heap.size, 0, none⟩) 1 1] ((W.drewN n).alloc (.cells #[.int .i64 i] 3)) (fun e w' => ∃ p c, e = .returned (.slice p (ks.length + 1) c) ∧ w'.cell? ⟨bp, 7, none⟩ = some (l1.kv q) ∧ w'.frozen? ⟨bp, 7, none⟩ = false ∧
        TreeTo W t l1 l.nb (upd nd q (some ⟨dp.win, i :: ks⟩)) made cnt (w'.setCell ⟨bp, 7, none⟩ (.slice p (ks.length + 1) c))) from by
      have T2 := (T1.drewN n).alloc (.cells #[.int .i64 i] 3)
      have hr2 := (T2.node q bp _ (hl1 ▸ hbp) (upd_same _ _ _)).2
      have hps : (l1.nb q).isSome = true := by rw [hl1, hbp]; rfl
      refine (insert0_c (l1.kv q) ks i W.heap.size _ hr2 (Blk.new (W.drewN n) _ _) (fun r hr => by
        have := T1.foot_lt (.inr (.inr (.inr ⟨q, hps, hr⟩))); omega) (by omega)).mono ?_
      rintro e w' ⟨v', rfl, ho, hg, hv⟩
      have hbel : Below W.heap.size W ((W.drewN n).alloc (.cells #[.int .i64 i] 3)) := (below_drewN (Below.refl _ _) n).alloc (Nat.le_refl _) _
      have k2 := T1.grow (p := q) (hl1 ▸ hbp) (upd_same _ _ _) hbel hg ho (fun r hr => (hv r hr).imp_right fun h1 => by simp at h1; omega)
      have k3 := past T2 (p := q) (c := q) (hl1 ▸ hbp) hg (hl1 ▸ hbp) (upd_same _ _ _)
      obtain ⟨p, c, rfl⟩ := row_slice ho
      have k4 := k2.1
      rw [upd_twice] at k4
      exact ⟨p, c, rfl, k3.at_ (i := 7) rfl, k3.frozen 7, ⟨{ l1 with kv := upd l1.kv q (.slice p (ks.length + 1) c) }, hl1, k4, k2.2⟩⟩))
  clear h h0 hi hb hd hz hbp hdp hne hip hk hq hks hkl
  go_enter Try.func28, Try.ntmps28
  go_upto_region 5 with (first
    | (go_at_call 47; ((with_reducible refine (HC.out).mono ?_); rintro e w' ⟨rfl, rfl⟩))
    | (go_at_call 48; ((with_reducible refine (HL.out).mono ?_); rintro e w1 ⟨rfl, l1, hl1, T1, U1⟩); obtain ⟨c0, e0, k1, k7, kb⟩ := HE.out w1 l1 hl1 T1; have HI1 := Lib.hid (HI.out w1 l1 hl1 T1); have HU := Lib.hid U1; clear U1 T1 hl1))
  go_quiet (fail)
  go_wp2_with (go_at_call 53; ((with_reducible refine (HI1.out _).mono ?_); rintro e w2 ⟨p, c, rfl, q7, f7, T2⟩); have HT2 := Lib.hid T2; clear T2)
  go_ret
  exact ⟨rfl, TreeTo.trans HU.out HT2.out⟩
end
end Go.Proofs.Ytlbbjinkblgfiaa
