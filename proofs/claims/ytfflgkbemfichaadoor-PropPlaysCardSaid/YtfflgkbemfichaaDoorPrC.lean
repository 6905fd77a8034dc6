/- Tables: New, of, has, copied, Get; Set of a window without properties. -/
import Derived.Test.YtfflgkbemfichaaDoorPrT
import Derived.Test.YtfflgkbemfichaaDoorPrW
import Derived.Test.YtfflgkbemfichaaDoorPrX
import Derived.Deep.RegionHeld3
namespace Go.Proofs.YtfflgkbemfichaaDoor
open Go.RowKit Go.Maps
set_option maxRecDepth 100000 in
set_option maxHeartbeats 2000000 in
theorem copied_c (p : Pr) (w : World) (hs : p.name.size ≤ 281474976710656 ∧ p.typ.size ≤ 281474976710656 ∧ p.data.size ≤ 281474976710656) : Calls Tryd.prog 35 #[prV p] w fun e w' => e = .returned (prV p) ∧ Below w.heap.size w w' := by
  obtain ⟨wb, hwb⟩ : ∃ wb, wb = (w.alloc (.cells #[.string p.name, .string p.typ, .string p.data] 27)).alloc (.cells #[.string ⟨#[]⟩, .string ⟨#[]⟩, .string ⟨#[]⟩] 27) := ⟨_, rfl⟩
  have hbel : Below w.heap.size w wb := by rw [hwb]; exact ((Below.refl _ _).alloc (Nat.le_refl _) _).alloc (by simp) _
  have hbA : Blk wb w.heap.size 27 #[.string p.name, .string p.typ, .string p.data] := by rw [hwb]; exact (Blk.new w _ _).alloc _
  have hbB : Blk wb (w.heap.size + 1) 27 #[.string ⟨#[]⟩, .string ⟨#[]⟩, .string ⟨#[]⟩] := by
    rw [hwb]
    have := Blk.new (w.alloc (.cells #[.string p.name, .string p.typ, .string p.data] 27)) 27 #[.string ⟨#[]⟩, .string ⟨#[]⟩, .string ⟨#[]⟩]
    rwa [World.size_alloc] at this
  have HX := Lib.hid hbA
  have HY := Lib.hid hbB
  have HS := Lib.hid hs
  have HB := Lib.hid hbel
  have HW := Lib.hid hwb
  have HC := Lib.hid (fun s W hh => strclone_c s W hh)
  clear hs hbA hbB hbel
  go_enter Tryd.func35, Tryd.ntmps35
  go_upto_region 1 with fail
  rw [← HW.out]
  clear hwb
  refine wp_region_noPanic ?_
  refine wp_region_held_drew (S := fun wx => wx.cell? ⟨w.heap.size, 0, none⟩ = some (.string p.name) ∧ wx.cell? ⟨w.heap.size, 1, none⟩ = some (.string p.typ) ∧ wx.cell? ⟨w.heap.size, 2, none⟩ = some (.string p.data)) (by kernel_rfl) (by exact (HX.out.next (Below.refl _ wb).drew).c3.1) (fun hHeld => ?_)
  refine wpAnyH_take (i := 0) (v := ?va0) rfl (by kernel_rfl) (by kernel_rfl) (by kernel_rfl) (fun _ _ _ h => h) (Or.inl ⟨by kernel_rfl, ?ya0⟩) (by assumption) ?ra0
  case ya0 => (intro wq hSw; (try dsimp only at hSw); go_simp; (try with_reducible rfl))
  (try simp only [Act.put, List.getElem_toArray, List.getElem_cons_zero, List.setIfInBounds_toArray, List.set_cons_zero, List.set_cons_succ])
  refine wpAnyH_take (i := 1) (v := ?va1) rfl (by kernel_rfl) (by kernel_rfl) (by kernel_rfl) (fun _ _ _ h => h) (Or.inl ⟨by kernel_rfl, ?ya1⟩) (by assumption) ?ra1
  case ya1 => (intro wq hSw; (try dsimp only at hSw); go_simp; (try with_reducible rfl))
  (try simp only [Act.put, List.getElem_toArray, List.getElem_cons_succ, List.getElem_cons_zero, List.setIfInBounds_toArray, List.set_cons_zero, List.set_cons_succ])
  refine wpAnyH_take (i := 3) (v := ?va3) rfl (by kernel_rfl) (by kernel_rfl) (by kernel_rfl) (fun _ _ _ h => h) (Or.inl ⟨by kernel_rfl, ?ya3⟩) (by assumption) ?ra3
  case ya3 => (intro wq hSw; (try dsimp only at hSw); go_simp; (try with_reducible rfl))
  (try simp only [Act.put, List.getElem_toArray, List.getElem_cons_succ, List.getElem_cons_zero, List.setIfInBounds_toArray, List.set_cons_zero, List.set_cons_succ])
  refine wpAnyH_take (i := 4) (v := ?va4) rfl (by kernel_rfl) (by kernel_rfl) (by kernel_rfl) (fun _ _ _ h => h) (Or.inl ⟨by kernel_rfl, ?ya4⟩) (by assumption) ?ra4
  case ya4 => (intro wq hSw; (try dsimp only at hSw); go_simp; (try with_reducible rfl))
  (try simp only [Act.put, List.getElem_toArray, List.getElem_cons_succ, List.getElem_cons_zero, List.setIfInBounds_toArray, List.set_cons_zero, List.set_cons_succ])
  refine wpAnyH_take (i := 6) (v := ?va6) rfl (by kernel_rfl) (by kernel_rfl) (by kernel_rfl) (fun _ _ _ h => h) (Or.inl ⟨by kernel_rfl, ?ya6⟩) (by assumption) ?ra6
  case ya6 => (intro wq hSw; (try dsimp only at hSw); go_simp; (try with_reducible rfl))
  (try simp only [Act.put, List.getElem_toArray, List.getElem_cons_succ, List.getElem_cons_zero, List.setIfInBounds_toArray, List.set_cons_zero, List.set_cons_succ])
  refine wpAnyH_take (i := 7) (v := ?va7) rfl (by kernel_rfl) (by kernel_rfl) (by kernel_rfl) (fun _ _ _ h => h) (Or.inl ⟨by kernel_rfl, ?ya7⟩) (by assumption) ?ra7
  case ya7 => (intro wq hSw; (try dsimp only at hSw); go_simp; (try with_reducible rfl))
  (try simp only [Act.put, List.getElem_toArray, List.getElem_cons_succ, List.getElem_cons_zero, List.setIfInBounds_toArray, List.set_cons_zero, List.set_cons_succ])
  refine wpAnyH_ready (rs := [2]) (by kernel_rfl) (by simp) ?_
  refine AllReadyH.cons rfl (fun K hK => ?_) AllReadyH.nil
  go_simp
  refine (HC.out p.name _ HS.out.1).mono ?_
  rintro e w1 ⟨rfl, hb0⟩; have B1 := Lib.hid (show Below wb.heap.size wb w1 from ((Below.refl _ wb).drew).trans hb0); clear hb0
  (try dsimp only)
  refine hK.out _ _ (by exact (HX.out.next B1.out).c3.1) (fun hHeld => ?_)
  clear hK K
  (try simp only [Act.put, List.getElem_toArray, List.getElem_cons_succ, List.getElem_cons_zero, List.setIfInBounds_toArray, List.set_cons_zero, List.set_cons_succ])
  refine wpAnyH_ready (rs := [5]) (by kernel_rfl) (by simp) ?_
  refine AllReadyH.cons rfl (fun K hK => ?_) AllReadyH.nil
  go_simp
  refine (HC.out p.typ _ HS.out.2.1).mono ?_
  rintro e w2 ⟨rfl, hb0⟩; have B2 := Lib.hid (hb0.on B1.out B1.out.size); clear hb0
  (try dsimp only)
  refine hK.out _ _ (by exact (HX.out.next B2.out).c3.1) (fun hHeld => ?_)
  clear hK K
  (try simp only [Act.put, List.getElem_toArray, List.getElem_cons_succ, List.getElem_cons_zero, List.setIfInBounds_toArray, List.set_cons_zero, List.set_cons_succ])
  refine wpAnyH_ready (rs := [8]) (by kernel_rfl) (by simp) ?_
  refine AllReadyH.cons rfl (fun K hK => ?_) AllReadyH.nil
  go_simp
  refine (HC.out p.data _ HS.out.2.2).mono ?_
  rintro e w3 ⟨rfl, hb0⟩; have B3 := Lib.hid (hb0.on B2.out B2.out.size); clear hb0; obtain ⟨⟨z0, z1, z2⟩, ⟨f0, f1, f2⟩⟩ := (HY.out.next B3.out).c3
  (try dsimp only)
  refine hK.out _ _ (by exact (HX.out.next B3.out).c3.1) (fun hHeld => ?_)
  clear hK K
  (try simp only [Act.put, List.getElem_toArray, List.getElem_cons_succ, List.getElem_cons_zero, List.setIfInBounds_toArray, List.set_cons_zero, List.set_cons_succ])
  refine wpAnyH_take (i := 9) (v := ?va9) rfl (by kernel_rfl) (by kernel_rfl) (by kernel_rfl) (fun _ _ _ h => h) (Or.inl ⟨by kernel_rfl, ?ya9⟩) (by assumption) ?ra9
  case ya9 => (intro wq hSw; (try dsimp only at hSw); go_simp; (try with_reducible rfl))
  (try simp only [Act.put, List.getElem_toArray, List.getElem_cons_succ, List.getElem_cons_zero, List.setIfInBounds_toArray, List.set_cons_zero, List.set_cons_succ])
  refine wpAnyH_ready (rs := [10]) (by kernel_rfl) (by simp) ?_
  refine AllReadyH.cons rfl (fun K hK => ?_) AllReadyH.nil
  go_simp
  refine hK.out _ _ (by exact (HX.out.next B3.out |>.far (show w.heap.size ≠ w.heap.size + 1 by omega) _ |>.far (show w.heap.size ≠ w.heap.size + 1 by omega) _ |>.far (show w.heap.size ≠ w.heap.size + 1 by omega) _).c3.1) (fun hHeld => ?_)
  clear hK K
  (try simp only [Act.put, List.getElem_toArray, List.getElem_cons_succ, List.getElem_cons_zero, List.setIfInBounds_toArray, List.set_cons_zero, List.set_cons_succ])
  refine wpAnyH_done (by kernel_rfl) ?_ _
  refine NoPanic.normal ?_
  go_wp2_with fail
  refine bodyPost_ret (v := prV p) (by simp [results, Tryd.results35, go_sem, z0, z1, z2]) rfl ?_
  exact ⟨rfl, (((B3.out.on HB.out HB.out.size).setCell (Nat.le_succ _) _).setCell (Nat.le_succ _) _).setCell (Nat.le_succ _) _⟩
/-- A table in memory: its map's block bm, its windows' maps in the blocks nb. -/
structure TabH (w : World) (t bm : Nat) (nb : Int → Option Nat) (cnt : Nat) (ms : Int → ByteArray → Option Pr) (ns : Int → Nat) : Prop where
  tab : Blk w t 65 #[.map (some bm)]
  map : MapI w bm nb cnt
  inner : ∀ i b, I64 i → nb i = some b → MapS w b (ms i) (ns i)
  apart : ∀ i j b, I64 i → I64 j → nb i = some b → nb j = some b → i = j
  far : ∀ i b, I64 i → nb i = some b → b ≠ bm
  bare : ∀ i s, nb i = none → ms i s = none
abbrev tabP (t : Nat) : Value := .pointer (some ⟨t, 0, none⟩)
section
variable {w w' : World} {t bm cnt : Nat} {nb : Int → Option Nat} {ms : Int → ByteArray → Option Pr} {ns : Int → Nat}
theorem TabH.next (h : TabH w t bm nb cnt ms ns) (hb : Below w.heap.size w w') : TabH w' t bm nb cnt ms ns :=
  ⟨h.tab.next hb, h.map.same (hb.block _ h.map.lt), fun i b hi hn => (h.inner i b hi hn).same (hb.block _ (h.inner i b hi hn).lt), h.apart, h.far, h.bare⟩
theorem of_c (h : TabH w t bm nb cnt ms ns) {i : Int} (hi : I64 i) : Calls Tryd.prog 33 #[tabP t, .int .i64 i] w fun e w' => e = .returned (mapOf (nb i)) ∧ w = w' := by
  obtain ⟨c0, -⟩ := h.tab.c1
  have e0 := h.map.look hi
  obtain ⟨v, hv⟩ : ∃ v, v = mapOf (nb i) := ⟨_, rfl⟩
  rw [← hv] at e0 ⊢
  clear hv h hi
  go_enter Tryd.func33, Tryd.ntmps33
  go_wp2_with fail
  go_ret
  exact ⟨rfl, rfl⟩
theorem new_c (w : World) : Calls Tryd.prog 9 #[] w fun e w' => ∃ t bm, e = .returned (tabP t) ∧ TabH w' t bm (fun _ => none) 0 (fun _ _ => none) (fun _ => 0) ∧ Below w.heap.size w w' ∧ w.heap.size ≤ t ∧ w.heap.size ≤ bm := by
  have hmm := @run_makeMap Tryd.prog
  go_enter Tryd.func9, Tryd.ntmps9
  go_wp2_with fail
  go_ret
  refine ⟨_, w.heap.size, rfl, ⟨by have h := Blk.new (w.alloc (.map #[] 0)) 65 #[.map (some w.heap.size)]; rwa [World.size_alloc] at h, ?_, (fun i b _ h => by cases h), (fun i j b _ _ h => by cases h), (fun i b _ h => by cases h), fun _ _ _ => rfl⟩, ((Below.refl _ _).alloc (Nat.le_refl _) _).alloc (by simp) _, by simp, Nat.le_refl _⟩
  exact (MapI.made w).same (Below.heap_alloc _ _ _ (by simp))
theorem has_nil {s : ByteArray} (hs : s.size ≤ maxLen) (w : World) : Calls Tryd.prog 34 #[.map none, .string s] w fun e w' => e = .returned (.bool false) ∧ Below w.heap.size w w' := by
  have e0 := look_nilS w hs
  clear hs
  go_enter Tryd.func34, Tryd.ntmps34
  go_wp2_with fail
  go_ret
  exact ⟨rfl, (Below.refl _ _).alloc (Nat.le_refl _) _⟩
theorem has_some {b n : Nat} {m : ByteArray → Option Pr} {s : ByteArray} (hs : s.size ≤ maxLen) (w : World) (h : MapS w b m n) : Calls Tryd.prog 34 #[.map (some b), .string s] w fun e w' => e = .returned (.bool (m s).isSome) ∧ Below w.heap.size w w' := by
  have e0 := h.look hs
  obtain ⟨bb, hbb⟩ : ∃ bb, bb = (m s).isSome := ⟨_, rfl⟩
  obtain ⟨pp, hpp⟩ : ∃ pp, pp = (m s).getD noP := ⟨_, rfl⟩
  rw [← hbb, ← hpp] at e0
  rw [← hbb]
  clear hs hbb hpp h
  go_enter Tryd.func34, Tryd.ntmps34
  go_wp2_with fail
  go_ret
  exact ⟨rfl, (Below.refl _ _).alloc (Nat.le_refl _) _⟩
theorem TabH.kept (h : TabH w t bm nb cnt ms ns) (hk : ∀ g, g < w.heap.size → (g = t ∨ g = bm ∨ ∃ i, I64 i ∧ nb i = some g) → w'.heap[g]? = w.heap[g]?) : TabH w' t bm nb cnt ms ns :=
  ⟨(hk t h.tab.lt (.inl rfl)).trans h.tab, h.map.same (hk bm h.map.lt (.inr (.inl rfl))), fun i b hi hn => (h.inner i b hi hn).same (hk b (h.inner i b hi hn).lt (.inr (.inr ⟨i, hi, hn⟩))), h.apart, h.far, h.bare⟩
theorem TabH.look (h : TabH w t bm nb cnt ms ns) {i : Int} (hi : I64 i) {s : ByteArray} (hs : s.size ≤ maxLen) : (Instr.lookup 71 (mapOf (nb i)) (.string s) true).run Tryd.prog w = .ok (.tuple #[prV ((ms i s).getD noP), .bool (ms i s).isSome]) w := by
  cases hn : nb i with
  | none =>
    rw [h.bare i s hn]
    exact look_nilS w hs
  | some b => exact (h.inner i b hi hn).look hs
set_option maxRecDepth 100000 in
set_option maxHeartbeats 2000000 in
theorem get_c (h : TabH w t bm nb cnt ms ns) {i : Int} (hi : I64 i) {s : ByteArray} (hs : s.size ≤ maxLen) (hq : ((ms i s).getD noP).name.size ≤ 281474976710656 ∧ ((ms i s).getD noP).typ.size ≤ 281474976710656 ∧ ((ms i s).getD noP).data.size ≤ 281474976710656) :
    Calls Tryd.prog 16 #[tabP t, .int .i64 i, .string s] w fun e w' => e = .returned (.tuple #[prV ((ms i s).getD noP), .bool (ms i s).isSome]) ∧ Below w.heap.size w w' := by
  obtain ⟨wb, hwb⟩ : ∃ wb, wb = w.alloc (.cells #[.string ⟨#[]⟩, .string ⟨#[]⟩, .string ⟨#[]⟩] 27) := ⟨_, rfl⟩
  have hbel : Below w.heap.size w wb := by rw [hwb]; exact (Below.refl _ _).alloc (Nat.le_refl _) _
  have hbx : Blk wb w.heap.size 27 #[.string ⟨#[]⟩, .string ⟨#[]⟩, .string ⟨#[]⟩] := by rw [hwb]; exact Blk.new w _ _
  have HOF := Lib.hid (of_c (h.next hbel) hi)
  have e0 := (h.next hbel).look hi hs
  obtain ⟨q, hqq⟩ : ∃ q, q = (ms i s).getD noP := ⟨_, rfl⟩
  obtain ⟨bb, hbb⟩ : ∃ bb, bb = (ms i s).isSome := ⟨_, rfl⟩
  obtain ⟨v, hv⟩ : ∃ v, v = mapOf (nb i) := ⟨_, rfl⟩
  rw [← hv] at HOF
  rw [← hqq] at hq
  rw [← hv, ← hqq, ← hbb] at e0
  rw [← hqq, ← hbb]
  have HCP := Lib.hid (fun W => copied_c q W hq)
  have HX := Lib.hid hbx
  have HB := Lib.hid hbel
  have HW := Lib.hid hwb
  clear h hq hqq hbb hv hbel hbx hi hs
  go_enter Tryd.func16, Tryd.ntmps16
  go_upto_region 1 with fail
  rw [← HW.out]
  clear hwb
  go_upto_region 2 with (go_at_call 33; ((with_reducible refine (HOF.out).mono ?_); rintro e w1 ⟨rfl, rfl⟩))
  have hb2 := (Below.refl _ wb).alloc (Nat.le_refl _) (.cells #[.string q.name, .string q.typ, .string q.data] 27)
  have hx2 := Blk.new wb 27 #[.string q.name, .string q.typ, .string q.data]
  obtain ⟨g2, hg2⟩ : ∃ g2, g2 = wb.heap.size := ⟨_, rfl⟩
  rw [← hg2] at hx2 ⊢
  clear hg2
  generalize wb.alloc (.cells #[.string q.name, .string q.typ, .string q.data] 27) = w2 at hb2 hx2 ⊢
  have HB2 := Lib.hid hb2
  obtain ⟨⟨x0, x1, x2⟩, -⟩ := hx2.c3
  clear hb2 hx2 e0
  go_wp2_with (go_at_call 35; ((with_reducible refine (HCP.out _).mono ?_); rintro e w3 ⟨rfl, hb3⟩); have HB3 := Lib.hid (hb3.on HB2.out HB2.out.size); obtain ⟨⟨z0, z1, z2⟩, ⟨f0, f1, f2⟩⟩ := (HX.out.next HB3.out).c3; clear hb3)
  refine bodyPost_ret (v := .tuple #[prV q, .bool bb]) (by simp [results, Tryd.results16, go_sem, z0, z1, z2]) rfl ?_
  exact ⟨rfl, (((HB3.out.on HB.out HB.out.size).setCell (Nat.le_refl _) _).setCell (Nat.le_refl _) _).setCell (Nat.le_refl _) _⟩
end
end Go.Proofs.YtfflgkbemfichaaDoor
