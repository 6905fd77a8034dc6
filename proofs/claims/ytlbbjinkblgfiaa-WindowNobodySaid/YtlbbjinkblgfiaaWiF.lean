/- enter, walked. -/
import Derived.Test.YtlbbjinkblgfiaaWiE
import Derived.Test.YtlbbjinkblgfiaaRhU
import Derived.Deep.AppendLies
import Derived.Deep.RegionHeld3
import Derived.Deep.RegionLaw
import Derived.Deep.DeepCutAuto
namespace Go.Proofs.Ytlbbjinkblgfiaa
open Go.RowKit Go.Shelf Go.Maps
theorem intInfoW : (Try.prog.info? 3).map (fun i => (i.zero, i.size, i.bytes)) = some (some (.int .i64 0), 1, 8) := by kernel_rfl
section
variable {w : World} {t : Nat} {l : Lay} {nd : Int → Option Nd} {made : Int} {cnt : Nat}
/-- A node behind what turned another node's slice. -/
theorem past {w1 : World} (h : TreeH w t l nd made cnt) {p c : Int} {bp bc : Nat} {d : Nd} (hp : l.nb p = some bp) (hg : w.grownBy w1 (l.kv p).ownBlock) (hc : l.nb c = some bc) (hd : nd c = some d) : Blk w1 bc 77 (ndA d (l.kv c)) := by
  have h1 := (h.node c bc d hc hd).1
  exact (hg.block bc h1.lt (fun e => h.node_row hc (j := p) (by rw [hp]; rfl) e.symm rfl)).trans h1
set_option maxRecDepth 100000 in
set_option maxHeartbeats 4000000 in
theorem enter_c (h : TreeH w t l nd made cnt) {p c : Int} {bp bc : Nat} {dp dc : Nd} (hp : l.nb p = some bp) (hc : l.nb c = some bc) (hdp : nd p = some dp) (hdc : nd c = some dc) (hpc : p ≠ c) (hi : I64 p) (hk : dp.kids.length ≤ 4096) :
    Calls Try.prog 52 #[treeP t, .pointer (some ⟨bc, 0, none⟩), .int .i64 p] w fun e w' => e = .returned (.tuple #[]) ∧ TreeTo w t l l.nb (upd (upd nd p (some ⟨dp.win, dp.kids ++ [dc.win.id]⟩)) c (some ⟨{ dc.win with par := p }, dc.kids⟩)) made cnt w' := by
  obtain ⟨i0, hi0, hz0, hz1, hz2⟩ := info_parts intInfoW
  obtain ⟨⟨c0, _⟩, _⟩ := h.tree.c2
  have e0 := h.look_some hi hp
  have e1 : ∀ W : World, TreeH W t l nd made cnt → W.cell? ⟨bp, 7, none⟩ = some (l.kv p) ∧ W.cell? ⟨bc, 0, none⟩ = some (.int .i64 dc.win.id) := fun W hW => ⟨(hW.cells hp hdp).1.2.2.2.2.2.2.2, (hW.cells hc hdc).1.1⟩
  have e2 : ∀ W : World, TreeH W t l nd made cnt → W.ownsRow 0 3 1 (l.kv p) dp.kids.length (intsV dp.kids) := fun W hW => (hW.node p bp dp hp hdp).2
  have HC := Lib.hid e1
  have HR := Lib.hid e2
  have hF := (h.cells hp hdp).2
  clear e1 e2
  obtain ⟨kv, hkv⟩ : ∃ v, v = l.kv p := ⟨_, rfl⟩
  obtain ⟨ident, hid⟩ : ∃ v, v = dc.win.id := ⟨_, rfl⟩
  rw [← hkv] at HR
  rw [← hkv, ← hid] at HC
  rw [← hid]
  have HI := Lib.hid hid
  have HV := Lib.hid hkv
  have HK := Lib.hid (fun (W : World) (hg : (w.alloc (.cells #[.int .i64 ident] 3)).drew.grownBy W kv.ownBlock) => (show W.cell? ⟨bp, 7, none⟩ = some kv ∧ W.cell? ⟨bc, 0, none⟩ = some (.int .i64 ident) ∧ W.frozen? ⟨bp, 7, none⟩ = false from by
    have k1 := past (h.alloc (.cells #[.int .i64 ident] 3)).drew hp (hkv ▸ hg) hp hdp
    have k2 := past (h.alloc (.cells #[.int .i64 ident] 3)).drew hp (hkv ▸ hg) hc hdc
    rw [hkv, hid]
    exact ⟨k1.at_ (i := 7) rfl, k2.at_ (i := 0) rfl, k1.frozen 7⟩))
  have HG := Lib.hid (fun (W : World) (g' cap' : Nat) (ho : W.ownsRow 0 3 1 (.slice (some ⟨g', 0, none⟩) (dp.kids.length + 1) cap') (dp.kids.length + 1) (intsV dp.kids ++ [.int .i64 ident])) (hg : (w.alloc (.cells #[.int .i64 ident] 3)).drew.grownBy W kv.ownBlock)
      (hgg : kv.ownBlock = some g' ∨ g' = (w.alloc (.cells #[.int .i64 ident] 3)).drew.heap.size) => (show (TreeH (W.setCell ⟨bp, 7, none⟩ (.slice (some ⟨g', 0, none⟩) (dp.kids.length + 1) cap')) t { l with kv := upd l.kv p (.slice (some ⟨g', 0, none⟩) (dp.kids.length + 1) cap') } (upd nd p (some ⟨dp.win, dp.kids ++ [ident]⟩)) made cnt ∧
        Turn (l.foot t) (({ l with kv := upd l.kv p (.slice (some ⟨g', 0, none⟩) (dp.kids.length + 1) cap') } : Lay).foot t) w (W.setCell ⟨bp, 7, none⟩ (.slice (some ⟨g', 0, none⟩) (dp.kids.length + 1) cap'))) ∧
        (W.setCell ⟨bp, 7, none⟩ (.slice (some ⟨g', 0, none⟩) (dp.kids.length + 1) cap')).cell? ⟨bc, 1, none⟩ = some (.int .i64 dc.win.par) ∧ (W.setCell ⟨bp, 7, none⟩ (.slice (some ⟨g', 0, none⟩) (dp.kids.length + 1) cap')).frozen? ⟨bc, 1, none⟩ = false from by
    have k1 := h.grow hp hdp (wa := (w.alloc (.cells #[.int .i64 ident] 3)).drew) ((Below.refl _ w).alloc (Nat.le_refl _) _).drew (hkv ▸ hg) (v' := .slice (some ⟨g', 0, none⟩) (dp.kids.length + 1) cap') (ks := dp.kids ++ [ident]) (by
      unfold intsV at ho ⊢; rw [List.length_append, List.map_append]; exact ho) (fun r hr => by
      obtain rfl : g' = r := by simpa [Value.ownBlock] using hr
      rcases hgg with e | e
      · exact .inl (hkv ▸ e)
      · exact .inr (by rw [e]; simp))
    obtain ⟨⟨-, k2, -⟩, k3⟩ := k1.1.cells (p := c) hc (by rw [upd_other _ _ (Ne.symm hpc)]; exact hdc)
    exact ⟨k1, k2, k3 1⟩))
  clear hid hkv
  have h0 := h
  obtain ⟨⟨a0, -, -, -, -, -, -, a7⟩, af⟩ := h.cells hp hdp
  obtain ⟨⟨b0, -⟩, -⟩ := h.cells hc hdc
  rw [HV.out.symm] at a7
  rw [HI.out.symm] at b0
  clear a0
  have h1 : TreeH (w.alloc (.cells #[.int .i64 ident] 3)).drew t l nd made cnt := (h.alloc _).drew
  obtain ⟨a1, b1⟩ := HC.out _ h1
  have bl : bp < w.heap.size := World.block_lt_of_cell? _ _ a7
  go_enter Try.func52, Try.ntmps52
  go_upto_region 1 with fail
  go_region_law ((refine step_append_lies _ rfl (.tmp 17) (.tmp 23) 47 rfl 0 3 i0 (.int .i64 0) 1 8 Try.underlying47 hi0 hz0 hz1 hz2 rfl (by decide) _ _ _ rfl (HR.out _ h1) ⟨_, 0, none⟩ 1 1 [.int .i64 ident] rfl rfl (fun j' u' hu' => cell_list_at _ _ [.int .i64 ident] _ rfl j' u' hu') (oneCell_ints [ident]) (by decide) (by unfold maxLen; omega) (by omega) (Nat.zero_le _) _ rfl ?_; intro g' cap' w7 ho hg' hgg _; obtain ⟨q1, q2, q3⟩ := HK.out w7 hg'; obtain ⟨T8, q4, q5⟩ := HG.out w7 g' cap' ho hg' hgg; have HT := Lib.hid T8; clear T8))
  all_goals
    generalize w7.setCell ⟨bp, 7, none⟩ (.slice (some ⟨g', 0, none⟩) (dp.kids.length + 1) cap') = W8 at q4 q5 HT ⊢
    go_wp2_with fail
    go_end0
    obtain ⟨T1, U1⟩ := HT.out
    obtain ⟨T2, U2⟩ := T1.cell (p := c) hc (d := dc) (by rw [upd_other _ _ (Ne.symm hpc)]; exact hdc) 1 (.int .i64 p) { dc.win with par := p } rfl
    refine ⟨rfl, _, ?_, T2, U1.trans U2⟩
    rfl
end
end Go.Proofs.Ytlbbjinkblgfiaa
