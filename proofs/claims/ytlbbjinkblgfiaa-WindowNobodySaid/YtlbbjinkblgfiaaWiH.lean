/- leave, walked. -/
import Derived.Test.YtlbbjinkblgfiaaWiG
namespace Go.Proofs.Ytlbbjinkblgfiaa
open Go.RowKit Go.Shelf Go.Maps
section
variable {w : World} {t : Nat} {l : Lay} {nd : Int → Option Nd} {made : Int} {cnt : Nat}
theorem row_slice {v : Value} {n : Nat} {xs : List Value} (h : w.ownsRow 0 3 1 v n xs) : ∃ p c, v = .slice p n c := by
  obtain ⟨_, h1⟩ := h
  rcases h1 with ⟨rfl, rfl⟩ | ⟨g, cap, cur, rfl, _⟩
  · exact ⟨_, _, rfl⟩
  · exact ⟨_, _, rfl⟩
set_option maxRecDepth 100000 in
set_option maxHeartbeats 4000000 in
theorem leave_c (h : TreeH w t l nd made cnt) {p c : Int} {bp bc : Nat} {dp dc : Nd} (hp : l.nb p = some bp) (hc : l.nb c = some bc) (hdp : nd p = some dp) (hdc : nd c = some dc) (hpar : dc.win.par = p) (hi : I64 p) :
    Calls Try.prog 48 #[treeP t, .pointer (some ⟨bc, 0, none⟩)] w fun e w' => e = .returned (.tuple #[]) ∧ TreeTo w t l l.nb (upd nd p (some ⟨dp.win, strike dc.win.id dp.kids⟩)) made cnt w' := by
  have hps : (l.nb p).isSome = true := by rw [hp]; rfl
  obtain ⟨wb, hwb⟩ : ∃ wb, wb = w.alloc (.cells #[.pointer (some ⟨bc, 0, none⟩)] 75) := ⟨_, rfl⟩
  have hbel : Below w.heap.size w wb := by rw [hwb]; exact (Below.refl _ _).alloc (Nat.le_refl _) _
  have h1 : TreeH wb t l nd made cnt := h.next hbel
  have hbx : wb.cell? ⟨w.heap.size, 0, none⟩ = some (.pointer (some ⟨bc, 0, none⟩)) := by rw [hwb]; exact (Blk.new w _ _).at_ (i := 0) rfl
  obtain ⟨⟨c0, _⟩, _⟩ := h1.tree.c2
  have e0 : ∀ n, (Instr.lookup 66 (.map (some l.bm)) (.int .i64 p) false).run Try.prog (wb.drewN n) = .ok (.pointer (some ⟨bp, 0, none⟩)) (wb.drewN n) := fun n => (h1.drewN n).look_some hi hp
  obtain ⟨⟨k0, k1, -⟩, -⟩ := h1.cells hc hdc
  rw [hpar] at k1
  have hrow := (h1.node p bp dp hp hdp).2
  have k7 := (h1.cells hp hdp).1.2.2.2.2.2.2.2
  have HD := Lib.hid (fun (n : Nat) => delete_c (l.kv p) dp.kids dc.win.id w.heap.size bc (wb.drewN n) (row_same hrow fun _ _ => rfl) hbx k0 (fun r hr => by
      have := h.foot_lt (.inr (.inr (.inr ⟨p, hps, hr⟩))); omega) (fun r hr => h.node_row hc hps hr))
  have HG := Lib.hid (fun (n : Nat) (W : World) (v' : Value) (ho : W.ownsRow 0 3 1 v' (strike dc.win.id dp.kids).length (intsV (strike dc.win.id dp.kids))) (hg : (wb.drewN n).grownBy W (l.kv p).ownBlock) (hv : v'.ownBlock = (l.kv p).ownBlock) =>
    (show TreeTo w t l l.nb (upd nd p (some ⟨dp.win, strike dc.win.id dp.kids⟩)) made cnt (W.setCell ⟨bp, 7, none⟩ v') ∧ W.cell? ⟨bp, 7, none⟩ = some (l.kv p) ∧ W.frozen? ⟨bp, 7, none⟩ = false from by
      have k2 := h.grow hp hdp (wa := wb.drewN n) (below_drewN hbel n) hg ho (fun r hr => .inl (hv ▸ hr))
      have k3 := past (h1.drewN n) hp hg hp hdp
      exact ⟨⟨{ l with kv := upd l.kv p v' }, rfl, k2.1, k2.2⟩, k3.at_ (i := 7) rfl, k3.frozen 7⟩))
  obtain ⟨kv, hkv⟩ : ∃ v, v = l.kv p := ⟨_, rfl⟩
  rw [← hkv] at k7 HD HG
  have HW := Lib.hid hwb
  clear h h1 hrow hps hp hc hdp hdc hpar hbel hkv
  go_enter Try.func48, Try.ntmps48
  go_upto_region 1 with fail
  rw [← HW.out]
  clear hwb
  go_quiet (fail)
  go_wp2_with (go_at_call 64; ((with_reducible refine (HD.out _).mono ?_); rintro e w1 ⟨v', rfl, ho, hg, hv⟩); obtain ⟨p', c', rfl⟩ := row_slice ho; obtain ⟨T1, q1, q2⟩ := HG.out _ w1 _ ho hg hv; have HT := Lib.hid T1; clear T1 hg hv ho)
  go_end0
  exact ⟨rfl, HT.out⟩
end
end Go.Proofs.Ytlbbjinkblgfiaa
