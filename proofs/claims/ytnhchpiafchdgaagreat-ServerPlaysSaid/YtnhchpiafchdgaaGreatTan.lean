/- Texts Sax Say Saz Sba. -/
import Derived.Test.YtnhchpiafchdgaaGreatTam
import Derived.Deep.RegionHeld3
import Derived.Test.YtnhchpiafchdgaaGreatProg
import Derived.WalkKit
import Derived.ProofKit
import Derived.Below
import Derived.ChangeSame
import Derived.ChangeSlices
import Derived.Test.YtnhchpiafchdgaaGreatTaa
section
namespace Go.Proofs.YtnhchpiafchdgaaGreat.Pp
open Go.RowKit Go.Maps
set_option maxRecDepth 100000 in
set_option maxHeartbeats 2000000 in
theorem copied_c (p : Pr) (w : World) (hs : p.name.size ≤ 281474976710656 ∧ p.typ.size ≤ 281474976710656 ∧ p.data.size ≤ 281474976710656) : Calls Tryz.prog 73 #[prV p] w fun e w' => e = .returned (prV p) ∧ Below w.heap.size w w' := by
 obtain ⟨wb, hwb⟩ : ∃ wb, wb = (w.alloc (.cells #[.string p.name, .string p.typ, .string p.data] 35)).alloc (.cells #[.string ⟨#[]⟩, .string ⟨#[]⟩, .string ⟨#[]⟩] 35) := ⟨_, rfl⟩
 have hbel : Below w.heap.size w wb := by rw [hwb]; exact ((Below.refl _ _).alloc (Nat.le_refl _) _).alloc (by simp) _
 have hbA : Blk wb w.heap.size 35 #[.string p.name, .string p.typ, .string p.data] := by rw [hwb]; exact (Blk.new w _ _).alloc _
 have hbB : Blk wb (w.heap.size + 1) 35 #[.string ⟨#[]⟩, .string ⟨#[]⟩, .string ⟨#[]⟩] := by
  rw [hwb]
  have := Blk.new (w.alloc (.cells #[.string p.name, .string p.typ, .string p.data] 35)) 35 #[.string ⟨#[]⟩, .string ⟨#[]⟩, .string ⟨#[]⟩]
  rwa [World.size_alloc] at this
 have HX := Lib.hid hbA
 have HY := Lib.hid hbB
 have HS := Lib.hid hs
 have HB := Lib.hid hbel
 have HW := Lib.hid hwb
 have HC := Lib.hid (fun s W hh => strclone_c s W hh)
 clear hs hbA hbB hbel
 go_enter Tryz.func73, Tryz.ntmps73
 go_upto_region 1 with fail
 rw [← HW.out]
 clear hwb
 refine wp_region_noPanic ?_
 refine wp_region_held_drew (S := fun wx => wx.cell? ⟨w.heap.size, 0, none⟩ = some (.string p.name) ∧ wx.cell? ⟨w.heap.size, 1, none⟩ = some (.string p.typ) ∧ wx.cell? ⟨w.heap.size, 2, none⟩ = some (.string p.data)) (by kernel_rfl) (by exact (HX.out.next (Below.refl _ wb).drew).c3.1) (fun hHeld => ?_)
 refine tk 0 ?va0 rfl ?ya0 ?ra0
 case ya0 => (intro q h; (try dsimp only at h); go_simp; (try with_reducible rfl))
 (try simp only [Act.put, p1, p3, p4, p5, p6])
 refine tk 1 ?va1 rfl ?ya1 ?ra1
 case ya1 => (intro q h; (try dsimp only at h); go_simp; (try with_reducible rfl))
 (try simp only [Act.put, p1, p2, p3, p4, p5, p6])
 refine tk 3 ?va3 rfl ?ya3 ?ra3
 case ya3 => (intro q h; (try dsimp only at h); go_simp; (try with_reducible rfl))
 (try simp only [Act.put, p1, p2, p3, p4, p5, p6])
 refine tk 4 ?va4 rfl ?ya4 ?ra4
 case ya4 => (intro q h; (try dsimp only at h); go_simp; (try with_reducible rfl))
 (try simp only [Act.put, p1, p2, p3, p4, p5, p6])
 refine tk 6 ?va6 rfl ?ya6 ?ra6
 case ya6 => (intro q h; (try dsimp only at h); go_simp; (try with_reducible rfl))
 (try simp only [Act.put, p1, p2, p3, p4, p5, p6])
 refine tk 7 ?va7 rfl ?ya7 ?ra7
 case ya7 => (intro q h; (try dsimp only at h); go_simp; (try with_reducible rfl))
 (try simp only [Act.put, p1, p2, p3, p4, p5, p6])
 refine wpAnyH_ready (rs := [2]) (by kernel_rfl) (by simp) ?_
 refine AllReadyH.cons rfl (fun K hK => ?_) AllReadyH.nil
 go_simp
 refine (HC.out p.name _ HS.out.1).mono ?_
 rintro e w1 ⟨rfl, hb0⟩; have B1 := Lib.hid (show Below wb.heap.size wb w1 from ((Below.refl _ wb).drew).trans hb0); clear hb0
 (try dsimp only)
 refine hK.out _ _ (by exact (HX.out.next B1.out).c3.1) (fun hHeld => ?_)
 clear hK K
 (try simp only [Act.put, p1, p2, p3, p4, p5, p6])
 refine wpAnyH_ready (rs := [5]) (by kernel_rfl) (by simp) ?_
 refine AllReadyH.cons rfl (fun K hK => ?_) AllReadyH.nil
 go_simp
 refine (HC.out p.typ _ HS.out.2.1).mono ?_
 rintro e w2 ⟨rfl, hb0⟩; have B2 := Lib.hid (hb0.on B1.out B1.out.size); clear hb0
 (try dsimp only)
 refine hK.out _ _ (by exact (HX.out.next B2.out).c3.1) (fun hHeld => ?_)
 clear hK K
 (try simp only [Act.put, p1, p2, p3, p4, p5, p6])
 refine wpAnyH_ready (rs := [8]) (by kernel_rfl) (by simp) ?_
 refine AllReadyH.cons rfl (fun K hK => ?_) AllReadyH.nil
 go_simp
 refine (HC.out p.data _ HS.out.2.2).mono ?_
 rintro e w3 ⟨rfl, hb0⟩; have B3 := Lib.hid (hb0.on B2.out B2.out.size); clear hb0; obtain ⟨⟨z0, z1, z2⟩, ⟨f0, f1, f2⟩⟩ := (HY.out.next B3.out).c3
 (try dsimp only)
 refine hK.out _ _ (by exact (HX.out.next B3.out).c3.1) (fun hHeld => ?_)
 clear hK K
 (try simp only [Act.put, p1, p2, p3, p4, p5, p6])
 refine tk 9 ?va9 rfl ?ya9 ?ra9
 case ya9 => (intro q h; (try dsimp only at h); go_simp; (try with_reducible rfl))
 (try simp only [Act.put, p1, p2, p3, p4, p5, p6])
 refine wpAnyH_ready (rs := [10]) (by kernel_rfl) (by simp) ?_
 refine AllReadyH.cons rfl (fun K hK => ?_) AllReadyH.nil
 go_simp
 refine hK.out _ _ (by exact (HX.out.next B3.out |>.far (show w.heap.size ≠ w.heap.size + 1 by omega) _ |>.far (show w.heap.size ≠ w.heap.size + 1 by omega) _ |>.far (show w.heap.size ≠ w.heap.size + 1 by omega) _).c3.1) (fun hHeld => ?_)
 clear hK K
 (try simp only [Act.put, p1, p2, p3, p4, p5, p6])
 refine wpAnyH_done (by kernel_rfl) ?_ _
 refine NoPanic.normal ?_
 go_wp2_with fail
 refine bodyPost_ret (v := prV p) (by simp [results, Tryz.results73, go_sem, z0, z1, z2]) rfl ?_
 exact ⟨rfl, (((B3.out.on HB.out HB.out.size).setCell (Nat.le_succ _) _).setCell (Nat.le_succ _) _).setCell (Nat.le_succ _) _⟩
structure TabH (w : World) (t bm : Nat) (nb : Int → Option Nat) (cnt : Nat) (ms : Int → ByteArray → Option Pr) (ns : Int → Nat) : Prop where
 tab : Blk w t 108 #[.map (some bm)]
 map : MapI w bm nb cnt
 inner : ∀ i b, I64 i → nb i = some b → MapS w b (ms i) (ns i)
 apart : ∀ i j b, I64 i → I64 j → nb i = some b → nb j = some b → i = j
 far : ∀ i b, I64 i → nb i = some b → b ≠ bm
 bare : ∀ i s, nb i = none → ms i s = none
abbrev tabP (t : Nat) : Value := .pointer (some ⟨t, 0, none⟩)
section
variable {w w' : World} {t bm cnt : Nat} {nb : Int → Option Nat} {ms : Int → ByteArray → Option Pr} {ns : Int → Nat}
theorem TabH.next (h : TabH w t bm nb cnt ms ns) (hb : Below w.heap.size w w') : TabH w' t bm nb cnt ms ns :=
 ⟨h.tab.next hb, h.map.same (hb.block _ h.map.lt), fun i b hi hn => (h.inner i b hi hn).same (hb.block _ (h.inner i b hi hn).lt), h.apart, h.far, h.bare⟩
theorem of_c (h : TabH w t bm nb cnt ms ns) {i : Int} (hi : I64 i) : Calls Tryz.prog 72 #[tabP t, .int .i64 i] w fun e w' => e = .returned (mapOf (nb i)) ∧ w = w' := by
 obtain ⟨c0, -⟩ := h.tab.c1
 have e0 := h.map.look hi
 obtain ⟨v, hv⟩ : ∃ v, v = mapOf (nb i) := ⟨_, rfl⟩
 rw [← hv] at e0 ⊢
 clear hv h hi
 go_enter Tryz.func72, Tryz.ntmps72
 go_wp2_with fail
 go_ret
 exact ⟨rfl, rfl⟩
theorem new_c (w : World) : Calls Tryz.prog 34 #[] w fun e w' => ∃ t bm, e = .returned (tabP t) ∧ TabH w' t bm (fun _ => none) 0 (fun _ _ => none) (fun _ => 0) ∧ Below w.heap.size w w' ∧ w.heap.size ≤ t ∧ w.heap.size ≤ bm := by
 have hmm := @run_makeMap Tryz.prog
 go_enter Tryz.func34, Tryz.ntmps34
 go_wp2_with fail
 go_ret
 refine ⟨_, w.heap.size, rfl, ⟨by have h := Blk.new (w.alloc (.map #[] 0)) 108 #[.map (some w.heap.size)]; rwa [World.size_alloc] at h, ?_, (fun i b _ h => by cases h), (fun i j b _ _ h => by cases h), (fun i b _ h => by cases h), fun _ _ _ => rfl⟩, ((Below.refl _ _).alloc (Nat.le_refl _) _).alloc (by simp) _, by simp, Nat.le_refl _⟩
 exact (MapI.made w).same (Below.heap_alloc _ _ _ (by simp))
theorem has_nil {s : ByteArray} (hs : s.size ≤ maxLen) (w : World) : Calls Tryz.prog 136 #[.map none, .string s] w fun e w' => e = .returned (.bool false) ∧ Below w.heap.size w w' := by
 have e0 := look_nilS w hs
 clear hs
 go_enter Tryz.func136, Tryz.ntmps136
 go_wp2_with fail
 go_ret
 exact ⟨rfl, (Below.refl _ _).alloc (Nat.le_refl _) _⟩
theorem has_some {b n : Nat} {m : ByteArray → Option Pr} {s : ByteArray} (hs : s.size ≤ maxLen) (w : World) (h : MapS w b m n) : Calls Tryz.prog 136 #[.map (some b), .string s] w fun e w' => e = .returned (.bool (m s).isSome) ∧ Below w.heap.size w w' := by
 have e0 := h.look hs
 obtain ⟨bb, hbb⟩ : ∃ bb, bb = (m s).isSome := ⟨_, rfl⟩
 obtain ⟨pp, hpp⟩ : ∃ pp, pp = (m s).getD noP := ⟨_, rfl⟩
 rw [← hbb, ← hpp] at e0
 rw [← hbb]
 clear hs hbb hpp h
 go_enter Tryz.func136, Tryz.ntmps136
 go_wp2_with fail
 go_ret
 exact ⟨rfl, (Below.refl _ _).alloc (Nat.le_refl _) _⟩
theorem TabH.kept (h : TabH w t bm nb cnt ms ns) (hk : ∀ g, g < w.heap.size → (g = t ∨ g = bm ∨ ∃ i, I64 i ∧ nb i = some g) → w'.heap[g]? = w.heap[g]?) : TabH w' t bm nb cnt ms ns :=
 ⟨(hk t h.tab.lt (.inl rfl)).trans h.tab, h.map.same (hk bm h.map.lt (.inr (.inl rfl))), fun i b hi hn => (h.inner i b hi hn).same (hk b (h.inner i b hi hn).lt (.inr (.inr ⟨i, hi, hn⟩))), h.apart, h.far, h.bare⟩
theorem TabH.look (h : TabH w t bm nb cnt ms ns) {i : Int} (hi : I64 i) {s : ByteArray} (hs : s.size ≤ maxLen) : (Instr.lookup 125 (mapOf (nb i)) (.string s) true).run Tryz.prog w = .ok (.tuple #[prV ((ms i s).getD noP), .bool (ms i s).isSome]) w := by
 cases hn : nb i with
 | none =>
  rw [h.bare i s hn]
  exact look_nilS w hs
 | some b => exact (h.inner i b hi hn).look hs
set_option maxRecDepth 100000 in
set_option maxHeartbeats 2000000 in
theorem get_c (h : TabH w t bm nb cnt ms ns) {i : Int} (hi : I64 i) {s : ByteArray} (hs : s.size ≤ maxLen) (hq : ((ms i s).getD noP).name.size ≤ 281474976710656 ∧ ((ms i s).getD noP).typ.size ≤ 281474976710656 ∧ ((ms i s).getD noP).data.size ≤ 281474976710656) :
  Calls Tryz.prog 50 #[tabP t, .int .i64 i, .string s] w fun e w' => e = .returned (.tuple #[prV ((ms i s).getD noP), .bool (ms i s).isSome]) ∧ Below w.heap.size w w' := by
 obtain ⟨wb, hwb⟩ : ∃ wb, wb = w.alloc (.cells #[.string ⟨#[]⟩, .string ⟨#[]⟩, .string ⟨#[]⟩] 35) := ⟨_, rfl⟩
 have hbel : Below w.heap.size w wb := by rw [hwb]; exact (Below.refl _ _).alloc (Nat.le_refl _) _
 have hbx : Blk wb w.heap.size 35 #[.string ⟨#[]⟩, .string ⟨#[]⟩, .string ⟨#[]⟩] := by rw [hwb]; exact Blk.new w _ _
 have HOF := Lib.hid (of_c (h.next hbel) hi)
 have e0 := (h.next hbel).look hi hs
 obtain ⟨q, hqq⟩ : ∃ q, q = (ms i s).getD noP := ⟨_, rfl⟩
 obtain ⟨bb, hbb⟩ : ∃ bb, bb = (ms i s).isSome := ⟨_, rfl⟩
 obtain ⟨v, hv⟩ : ∃ v, v = mapOf (nb i) := ⟨_, rfl⟩
 rw [← hv] at HOF
 rw [← hqq] at hq
 rw [← hv, ← hqq, ← hbb] at e0
 rw [← hqq, ← hbb]
 have HCP := Lib.hid (fun W => copied_c q W hq)
 have HX := Lib.hid hbx
 have HB := Lib.hid hbel
 have HW := Lib.hid hwb
 clear h hq hqq hbb hv hbel hbx hi hs
 go_enter Tryz.func50, Tryz.ntmps50
 go_upto_region 1 with fail
 rw [← HW.out]
 clear hwb
 go_upto_region 2 with (go_at_call 72; ((with_reducible refine (HOF.out).mono ?_); rintro e w1 ⟨rfl, rfl⟩))
 have hb2 := (Below.refl _ wb).alloc (Nat.le_refl _) (.cells #[.string q.name, .string q.typ, .string q.data] 35)
 have hx2 := Blk.new wb 35 #[.string q.name, .string q.typ, .string q.data]
 obtain ⟨g2, hg2⟩ : ∃ g2, g2 = wb.heap.size := ⟨_, rfl⟩
 rw [← hg2] at hx2 ⊢
 clear hg2
 generalize wb.alloc (.cells #[.string q.name, .string q.typ, .string q.data] 35) = w2 at hb2 hx2 ⊢
 have HB2 := Lib.hid hb2
 obtain ⟨⟨x0, x1, x2⟩, -⟩ := hx2.c3
 clear hb2 hx2 e0
 go_wp2_with (go_at_call 73; ((with_reducible refine (HCP.out _).mono ?_); rintro e w3 ⟨rfl, hb3⟩); have HB3 := Lib.hid (hb3.on HB2.out HB2.out.size); obtain ⟨⟨z0, z1, z2⟩, ⟨f0, f1, f2⟩⟩ := (HX.out.next HB3.out).c3; clear hb3)
 refine bodyPost_ret (v := .tuple #[prV q, .bool bb]) (by simp [results, Tryz.results50, go_sem, z0, z1, z2]) rfl ?_
 exact ⟨rfl, (((HB3.out.on HB.out HB.out.size).setCell (Nat.le_refl _) _).setCell (Nat.le_refl _) _).setCell (Nat.le_refl _) _⟩
end
end Go.Proofs.YtnhchpiafchdgaaGreat.Pp
end
section
namespace Go.Proofs.YtnhchpiafchdgaaGreat.Pp
open Go.RowKit Go.Maps
section
variable {w w' : World} {t bm cnt : Nat} {nb : Int → Option Nat} {ms : Int → ByteArray → Option Pr} {ns : Int → Nat}
theorem upI_twice {α : Type} (f : Int → α) (i : Int) (u v : α) : upI (upI f i u) i v = upI f i v := by
 funext j
 unfold upI
 split <;> simp_all
theorem blk_map_ne {g b n : Nat} {T : TypeId} {cs : Array Value} {m : Int → Option Nat} (h : Blk w g T cs) (hm : MapI w b m n) : g ≠ b := fun e => by
 obtain ⟨D, ⟨es, clock, h1, _⟩, _⟩ := hm
 subst e
 rw [h.raw] at h1
 cases h1
theorem blk_mapS_ne {g b n : Nat} {T : TypeId} {cs : Array Value} {m : ByteArray → Option Pr} (h : Blk w g T cs) (hm : MapS w b m n) : g ≠ b := fun e => by
 obtain ⟨D, ⟨es, clock, h1, _⟩, _⟩ := hm
 subst e
 rw [h.raw] at h1
 cases h1
theorem only_far {a : World} {row : Option Nat} {b : Nat} (h : a.grownBy w row) (k : w.grownBy w' (some b)) (hb : a.heap.size ≤ b) : a.grownBy w' row :=
 ⟨k.os.trans h.os, k.tape.trans h.tape, k.output.trans h.output, Nat.le_trans h.size k.size, fun i hi hr => (k.block i (Nat.lt_of_lt_of_le hi h.size) (fun e => by injection e with e; omega)).trans (h.block i hi hr)⟩
theorem _root_.Go.Proofs.YtnhchpiafchdgaaGreat.Blk.put3 {g : Nat} {T : TypeId} {a b c : Value} (h : Blk w g T #[a, b, c]) (u0 u1 u2 : Value) : Blk (((w.setCell ⟨g, 0, none⟩ u0).setCell ⟨g, 1, none⟩ u1).setCell ⟨g, 2, none⟩ u2) g T #[u0, u1, u2] := by
 have h1 := ((h.set_ 0 u0).set_ 1 u1).set_ 2 u2
 exact h1
theorem TabH.first (h : TabH w t bm nb cnt ms ns) {i : Int} (hi : I64 i) (hn : nb i = none) (hc : cnt < 1048576) {b : Nat} (hS : MapS w b (fun _ => none) 0) (hb : b ≠ bm) (hf : ∀ j, I64 j → nb j ≠ some b) :
   ∃ w', (Instr.mapUpdate 106 (.map (some bm)) (.int .i64 i) (.map (some b))).run Tryz.prog w = .ok () w' ∧ TabH w' t bm (upI nb i (some b)) (cnt + 1) (upI ms i (fun _ => none)) (upI ns i 0) ∧ w.grownBy w' (some bm) := by
 obtain ⟨w', h1, h2, h3⟩ := h.map.put hi (by omega) b
 rw [hn] at h2
 have htb := blk_map_ne h.tab h.map
 refine ⟨w', h1, ⟨h.tab.grown h3 (fun e => htb (Option.some.inj e)), h2, fun j c hj hc => ?_, fun j k c hj hk e1 e2 => ?_, fun j c hj hc => ?_, fun j s hj => ?_⟩, h3⟩
 · by_cases hji : j = i
   · subst hji
     rw [upI_same] at hc ⊢
     injection hc with hc
     subst hc
     rw [upI_same]
     exact hS.same (h3.block b hS.lt (fun e => hb (Option.some.inj e)))
   · rw [upI_other _ _ hji] at hc
     rw [upI_other _ _ hji, upI_other _ _ hji]
     have hin := h.inner j c hj hc
     exact hin.same (h3.block c hin.lt (fun e => h.far j c hj hc (Option.some.inj e)))
 · by_cases h4 : j = i
   · by_cases h5 : k = i
     · rw [h4, h5]
     · rw [h4, upI_same] at e1
       rw [upI_other _ _ h5] at e2
       rw [← Option.some.inj e1] at e2
       exact absurd e2 (hf k hk)
   · by_cases h5 : k = i
     · rw [h5, upI_same] at e2
       rw [upI_other _ _ h4] at e1
       rw [← Option.some.inj e2] at e1
       exact absurd e1 (hf j hj)
     · rw [upI_other _ _ h4] at e1
       rw [upI_other _ _ h5] at e2
       exact h.apart j k c hj hk e1 e2
 · by_cases hji : j = i
   · subst hji
     rw [upI_same] at hc
     injection hc with hc
     rw [← hc]; exact hb
   · rw [upI_other _ _ hji] at hc
     exact h.far j c hj hc
 · by_cases hji : j = i
   · subst hji
     rw [upI_same] at hj; cases hj
   · rw [upI_other _ _ hji] at hj ⊢
     exact h.bare j s hj
theorem TabH.putS (h : TabH w t bm nb cnt ms ns) {i : Int} (hi : I64 i) {b : Nat} (hb : nb i = some b) {s : ByteArray} (hs : s.size ≤ maxLen) (hn : ns i < 1048576) (p : Pr) :
   ∃ w', (Instr.mapUpdate 125 (.map (some b)) (.string s) (prV p)).run Tryz.prog w = .ok () w' ∧ TabH w' t bm nb cnt (upI ms i (upS (ms i) s (some p))) (upI ns i (if (ms i s).isSome then ns i else ns i + 1)) ∧ w.grownBy w' (some b) := by
 have hin := h.inner i b hi hb
 obtain ⟨w', h1, h2, h3⟩ := hin.put hs (by omega) p
 have htb := blk_mapS_ne h.tab hin
 refine ⟨w', h1, ⟨h.tab.grown h3 (fun e => htb (Option.some.inj e)), h.map.same (h3.block bm h.map.lt (fun e => h.far i b hi hb (Option.some.inj e).symm)), fun j c hj hc => ?_, h.apart, h.far, fun j s' hj => ?_⟩, h3⟩
 · by_cases hji : j = i
   · subst hji
     rw [hb] at hc
     injection hc with hc
     subst hc
     rw [upI_same, upI_same]
     exact h2
   · rw [upI_other _ _ hji, upI_other _ _ hji]
     have hin' := h.inner j c hj hc
     exact hin'.same (h3.block c hin'.lt (fun e => hji (h.apart j i b hj hi (Option.some.inj e ▸ hc) hb)))
 · by_cases hji : j = i
   · subst hji
     rw [hb] at hj; cases hj
   · rw [upI_other _ _ hji]
     exact h.bare j s' hj
def SetR (w : World) (t bm : Nat) (nb : Int → Option Nat) (cnt : Nat) (ms : Int → ByteArray → Option Pr) (ns : Int → Nat) (i : Int) (p : Pr) (e : Ending) (w' : World) : Prop :=
 e = .returned (.int .i64 0) ∧ ∃ b, TabH w' t bm (upI nb i (some b)) (cnt + 1) (upI ms i (upS (fun _ => none) p.name (some p))) (upI ns i 1) ∧ w.heap.size ≤ b ∧ w.grownBy w' (some bm)
set_option maxRecDepth 100000 in
set_option maxHeartbeats 4000000 in
theorem set_first (h : TabH w t bm nb cnt ms ns) {i : Int} (hi : I64 i) (hn : nb i = none) (hc : cnt < 1048576) (p : Pr) (h1 : nameB p.name = true) (h2 : nameB p.typ = true) (h3 : p.data.size ≤ 256) :
  Calls Tryz.prog 119 #[tabP t, .int .i64 i, prV p] w fun e w' => SetR w t bm nb cnt ms ns i p e w' := by
 have hmm := @run_makeMap Tryz.prog
 have hs1 : p.name.size ≤ 32 := by have := (of_decide_eq_true h1).1.2; exact this
 have hs2 : p.typ.size ≤ 32 := by have := (of_decide_eq_true h2).1.2; exact this
 obtain ⟨wb, hwb⟩ : ∃ wb, wb = w.alloc (.cells #[.string p.name, .string p.typ, .string p.data] 35) := ⟨_, rfl⟩
 have hbel : Below w.heap.size w wb := by rw [hwb]; exact (Below.refl _ _).alloc (Nat.le_refl _) _
 have hbx : Blk wb w.heap.size 35 #[.string p.name, .string p.typ, .string p.data] := by rw [hwb]; exact Blk.new w _ _
 have hof := of_c (h.next hbel) hi
 rw [hn, show mapOf none = Value.map none from rfl] at hof
 have em1 : ∀ W : World, (binOp .eql 106 (.map (some bm)) (.map none)).run Tryz.prog W = .ok (.bool false) W := fun W => by kernel_rfl
 have em2 : ∀ W : World, (binOp .eql 125 (.map none) (.map none)).run Tryz.prog W = .ok (.bool true) W := fun W => by kernel_rfl
 have HOF := Lib.hid hof
 have HN1 := Lib.hid (fun W => (show Calls Tryz.prog 135 #[.string p.name] W fun e w' => e = .returned (.bool true) ∧ Below W.heap.size W w' from h1 ▸ name_c p.name W (by omega)))
 have HN2 := Lib.hid (fun W => (show Calls Tryz.prog 135 #[.string p.typ] W fun e w' => e = .returned (.bool true) ∧ Below W.heap.size W w' from h2 ▸ name_c p.typ W (by omega)))
 have HNS := Lib.hid (show p.name.size ≤ maxLen by unfold maxLen; omega)
 have HHN := Lib.hid (fun W => has_nil (s := p.name) (by unfold maxLen; omega) W)
 have HCP := Lib.hid (fun W => copied_c p W ⟨by omega, by omega, by omega⟩)
 have HX := Lib.hid hbx
 have HT := Lib.hid (h.next hbel)
 have HB := Lib.hid hbel
 have HW := Lib.hid hwb
 have HI := Lib.hid (And.intro hi (And.intro hn hc))
 have HLT := Lib.hid (And.intro h.tab.lt (And.intro h.map.lt (fun i b hi hn => (h.inner i b hi hn).lt)))
 have h4 : ¬ (256 : Int) < (p.data.size : Int) := by omega
 have elen := fun (W : World) ty => Maps.len_nil (P := Tryz.prog) (w := W) Tryz.underlying125 ty
 obtain ⟨c0, -⟩ := HT.out.tab.c1
 obtain ⟨⟨x0, x1, x2⟩, -⟩ := hbx.c3
 clear h hi hn hc h1 h2 h3 hof hbel hbx hs1 hs2
 go_enter Tryz.func119, Tryz.ntmps119
 go_upto_region 1 with fail
 rw [← HW.out]
 clear hwb
 go_upto_region 4 with (go_at_call 72; ((with_reducible refine (HOF.out).mono ?_); rintro e w1 ⟨rfl, rfl⟩))
 go_upto_region 5 with (first
  | (go_at_call 135; ((with_reducible refine (HN1.out _).mono ?_); rintro e w2 ⟨rfl, hb2⟩); have HB2 := Lib.hid hb2; clear hb2; clear x0 x1 x2; obtain ⟨⟨x0, x1, x2⟩, -⟩ := (HX.out.next HB2.out).c3)
  | (go_at_call 135; ((with_reducible refine (HN2.out _).mono ?_); rintro e w3 ⟨rfl, hb3⟩); have HB3 := Lib.hid (hb3.on HB2.out HB2.out.size); clear hb3; clear x0 x1 x2; obtain ⟨⟨x0, x1, x2⟩, -⟩ := (HX.out.next HB3.out).c3))
 go_upto_region 12 with (go_at_call 136; ((with_reducible refine (HHN.out _).mono ?_); rintro e w4 ⟨rfl, hb4⟩); have HB4 := Lib.hid (hb4.on HB3.out HB3.out.size); clear hb4; clear x0 x1 x2)
 have hb5 := HB4.out.alloc HB4.out.size (.map #[] 0)
 have hS5 := MapS.made w4
 obtain ⟨b5, hb5e⟩ : ∃ b5, b5 = w4.heap.size := ⟨_, rfl⟩
 have hle5 : wb.heap.size ≤ b5 := by rw [hb5e]; exact HB4.out.size
 rw [← hb5e] at hS5 ⊢
 clear hb5e
 generalize w4.alloc (.map #[] 0) = w5 at hb5 hS5 ⊢
 have HT5 := Lib.hid (HT.out.next hb5)
 have HX5 := Lib.hid (HX.out.next hb5)
 have hsz : wb.heap.size = w.heap.size + 1 := by rw [HW.out]; simp
 have hbmlt := HLT.out.2.1
 obtain ⟨w6, hput, ht6, hg6⟩ := HT5.out.first HI.out.1 HI.out.2.1 HI.out.2.2 hS5 (by omega) (fun j hj e => by have := HLT.out.2.2 j b5 hj e; omega)
 have HT6 := Lib.hid ht6
 have HG6 := Lib.hid hg6
 have HSZ := Lib.hid (And.intro hsz hle5)
 have HX6 := Lib.hid (HX5.out.grown hg6 (fun e => by injection e with e; omega))
 have HB5 := Lib.hid hb5
 obtain ⟨c5, -⟩ := HT5.out.tab.c1
 clear hb5 hS5 hle5 ht6 hg6 hsz hbmlt c0
 go_upto_region 13 with fail
 clear c5 hput
 obtain ⟨⟨y0, y1, y2⟩, -⟩ := HX6.out.c3
 go_upto_region 14 with (go_at_call 73; ((with_reducible refine (HCP.out _).mono ?_); rintro e w7 ⟨rfl, hb7⟩); have HB7 := Lib.hid hb7; obtain ⟨⟨z0, z1, z2⟩, ⟨f0, f1, f2⟩⟩ := (HX6.out.next hb7).c3; clear hb7)
 have hx8 := (HX6.out.next HB7.out).put3 (.string p.name) (.string p.typ) (.string p.data)
 have ht7 := HT6.out.next HB7.out
 have h8 : ∀ g, g ≠ w.heap.size → ((((w7.setCell ⟨w.heap.size, 0, none⟩ (.string p.name)).setCell ⟨w.heap.size, 1, none⟩ (.string p.typ)).setCell ⟨w.heap.size, 2, none⟩ (.string p.data))).heap[g]? = w7.heap[g]? := fun g hg => by
  rw [Below.heap_setCell _ _ _ _ hg, Below.heap_setCell _ _ _ _ hg, Below.heap_setCell _ _ _ _ hg]
 have hor : ∀ j c, I64 j → upI nb i (some b5) j = some c → c ≠ w.heap.size := fun j c hj hc => by
  by_cases hji : j = i
  · subst hji
    rw [upI_same] at hc
    injection hc with hc
    have := HSZ.out; omega
  · rw [upI_other _ _ hji] at hc
    have := HLT.out.2.2 j c hj hc; omega
 have ht8 : TabH ((((w7.setCell ⟨w.heap.size, 0, none⟩ (.string p.name)).setCell ⟨w.heap.size, 1, none⟩ (.string p.typ)).setCell ⟨w.heap.size, 2, none⟩ (.string p.data))) t bm (upI nb i (some b5)) (cnt + 1) (upI ms i (fun _ => none)) (upI ns i 0) := ht7.kept fun g _ hg => h8 g (by
  have h1 := HLT.out.1
  have h2 := HLT.out.2.1
  rcases hg with rfl | rfl | ⟨j, hj, hc⟩
  · omega
  · omega
  · exact hor j g hj hc)
 have hg8 : w.grownBy ((((w7.setCell ⟨w.heap.size, 0, none⟩ (.string p.name)).setCell ⟨w.heap.size, 1, none⟩ (.string p.typ)).setCell ⟨w.heap.size, 2, none⟩ (.string p.data))) (some bm) := by
  have k1 : w.grownBy w5 (some bm) := only_of_below (HB5.out.on HB.out HB.out.size) _
  have k2 := only_next (only_trans k1 HG6.out) HB7.out
  exact only_setCell (only_setCell (only_setCell k2 (.inr (Nat.le_refl _)) _) (.inr (Nat.le_refl _)) _) (.inr (Nat.le_refl _)) _
 generalize (((w7.setCell ⟨w.heap.size, 0, none⟩ (.string p.name)).setCell ⟨w.heap.size, 1, none⟩ (.string p.typ)).setCell ⟨w.heap.size, 2, none⟩ (.string p.data)) = w8 at hx8 ht8 hg8 ⊢
 obtain ⟨w9, hput9, ht9, hg9⟩ := ht8.putS HI.out.1 (upI_same _ _ _) (s := p.name) HNS.out (by rw [upI_same]; decide) p
 have HT9 := Lib.hid ht9
 have HG9 := Lib.hid (only_far hg8 hg9 (by have := HSZ.out; omega))
 obtain ⟨⟨v0, v1, v2⟩, -⟩ := hx8.c3
 clear z0 z1 z2 f0 f1 f2 y0 y1 y2 ht7 h8 hor ht8 hg8 hx8 ht9 hg9
 go_wp2_with fail
 go_ret
 have ht := HT9.out
 rw [upI_same, upI_same] at ht
 refine ⟨rfl, b5, ?_, by have := HSZ.out; omega, HG9.out⟩
 rw [upI_twice, upI_twice] at ht
 exact ht
end
end Go.Proofs.YtnhchpiafchdgaaGreat.Pp
end
section
namespace Go.Proofs.YtnhchpiafchdgaaGreat.Pp
open Go.RowKit Go.Maps
theorem MapI.del {w : World} {b n : Nat} {nb : Int → Option Nat} (h : MapI w b nb n) {i : Int} (hi : I64 i) (ty : TypeId) :
   ∃ w', (Builtin.delete_ #[106, 3] ty #[.map (some b), .int .i64 i]).run Tryz.prog w = .ok (.tuple #[]) w' ∧ (∃ n', n' ≤ n ∧ MapI w' b (upI nb i none) n') ∧ w.grownBy w' (some b) := by
 obtain ⟨D, h, hs, r⟩ := h
 obtain ⟨w', h1, h2, h3⟩ := h.drop keyedI Tryz.underlying106 (keyI_of hi) ty
 have h4 := Maps.size_del (k := keyI i) (h.tidy keyedI)
 refine ⟨w', h1, ⟨Maps.size (D.del (keyI i)), by omega, _, ?_, rfl, fun j hj => ?_⟩, h3.grown⟩
 · exact tight h2
 · by_cases hij : j = i
   · subst hij
     rw [upI_same]
     exact ⟨Maps.atKey_del_same _, Maps.has_del_same⟩
   · rw [upI_other _ _ hij]
     exact ⟨(Maps.atKey_del_other (keyI_ne hij) _).trans (r j hj).1, (Maps.has_del_other (keyI_ne hij)).trans (r j hj).2⟩
theorem MapS.del {w : World} {b n : Nat} {m : ByteArray → Option Pr} (h : MapS w b m n) {s : ByteArray} (hs : s.size ≤ maxLen) (hin : (m s).isSome = true) (ty : TypeId) :
   ∃ w', (Builtin.delete_ #[125, 9] ty #[.map (some b), .string s]).run Tryz.prog w = .ok (.tuple #[]) w' ∧ MapS w' b (upS m s none) (n - 1) ∧ w.grownBy w' (some b) ∧ 1 ≤ n := by
 obtain ⟨D, h, hsz, r⟩ := h
 obtain ⟨w', h1, h2, h3⟩ := h.drop keyedS Tryz.underlying125 (keyS_of hs) ty
 have h4 := Maps.size_del (k := keyS s) (h.tidy keyedS)
 rw [(r s hs).2, hin, hsz] at h4
 simp only [if_true] at h4
 have h5 : Maps.size (D.del (keyS s)) = n - 1 := by omega
 refine ⟨w', h1, ⟨_, ?_, h5, fun j hj => ?_⟩, h3.grown, by omega⟩
 · have := tight h2; rwa [h5] at this
 · by_cases hij : j = s
   · subst hij
     rw [upS_same]
     exact ⟨Maps.atKey_del_same _, Maps.has_del_same⟩
   · rw [upS_other _ _ hij]
     exact ⟨(Maps.atKey_del_other (keyS_ne hij) _).trans (r j hj).1, (Maps.has_del_other (keyS_ne hij)).trans (r j hj).2⟩
theorem MapS.zero {w : World} {b : Nat} {m : ByteArray → Option Pr} (h : MapS w b m 0) {s : ByteArray} (hs : s.size ≤ maxLen) : m s = none := by
 obtain ⟨D, h, hsz, r⟩ := h
 have h4 := Maps.size_del (k := keyS s) (h.tidy keyedS)
 rw [hsz, (r s hs).2] at h4
 cases hm : m s with
 | none => rfl
 | some v => rw [hm] at h4; simp at h4
section
variable {w w' : World} {t bm cnt : Nat} {nb : Int → Option Nat} {ms : Int → ByteArray → Option Pr} {ns : Int → Nat}
theorem TabH.dropI (h : TabH w t bm nb cnt ms ns) {i : Int} (hi : I64 i) (ty : TypeId) :
   ∃ w', (Builtin.delete_ #[106, 3] ty #[.map (some bm), .int .i64 i]).run Tryz.prog w = .ok (.tuple #[]) w' ∧ (∃ c', c' ≤ cnt ∧ TabH w' t bm (upI nb i none) c' (upI ms i (fun _ => none)) (upI ns i 0)) ∧ w.grownBy w' (some bm) := by
 obtain ⟨w', h1, ⟨c', hc, h2⟩, h3⟩ := h.map.del hi ty
 have htb := blk_map_ne h.tab h.map
 refine ⟨w', h1, ⟨c', hc, ⟨h.tab.grown h3 (fun e => htb (Option.some.inj e)), h2, fun j c hj hc => ?_, fun j k c hj hk e1 e2 => ?_, fun j c hj hc => ?_, fun j s hj => ?_⟩⟩, h3⟩
 · by_cases hji : j = i
   · subst hji
     rw [upI_same] at hc; cases hc
   · rw [upI_other _ _ hji] at hc
     rw [upI_other _ _ hji, upI_other _ _ hji]
     have hin := h.inner j c hj hc
     exact hin.same (h3.block c hin.lt (fun e => h.far j c hj hc (Option.some.inj e)))
 · by_cases h4 : j = i
   · rw [h4, upI_same] at e1; cases e1
   · by_cases h5 : k = i
     · rw [h5, upI_same] at e2; cases e2
     · rw [upI_other _ _ h4] at e1
       rw [upI_other _ _ h5] at e2
       exact h.apart j k c hj hk e1 e2
 · by_cases hji : j = i
   · rw [hji, upI_same] at hc; cases hc
   · rw [upI_other _ _ hji] at hc
     exact h.far j c hj hc
 · by_cases hji : j = i
   · rw [hji, upI_same]
   · rw [upI_other _ _ hji] at hj ⊢
     exact h.bare j s hj
theorem wpList_delete_any {P : Program} (hP : P = Tryz.prog) {w : World} {ops : Array Oper} {rest : List Oper} {o : Oper} {a : Act} {Q : Exit → Act → World → Prop} (hg : o.guard = none) (m x : Operand) {tm tk : TypeId}
  (hop : o.op = Op.call { callee := Callee.builtin Builtin.delete, args := #[m, x], argTypes := #[tm, tk] }) {vm vx : Value}
  (hm : a.eval m = vm) (hx : a.eval x = vx) {R : World → Prop} (h : ∀ ty, ∃ w', (Builtin.delete_ #[tm, tk] ty #[vm, vx]).run Tryz.prog w = .ok (.tuple #[]) w' ∧ R w')
  (hK : ∀ w', R w' → wpList P ops Q rest (a.put o.dst (.tuple #[])) w') :
  wpList P ops Q (o :: rest) a w := by
 subst hP
 refine wpList_plain hg fun K' hK' => ?_
 obtain ⟨w', hrun, r1⟩ := h o.type
 unfold Oper.wp
 simp [execOp, hop, resolve, invoke, builtin, hm, hx, hrun, Result.andThen]
 exact hK' _ _ (hK w' r1)
theorem drop_c (h : TabH w t bm nb cnt ms ns) {i : Int} (hi : I64 i) : Calls Tryz.prog 111 #[tabP t, .int .i64 i] w fun e w' => e = .returned (.tuple #[]) ∧ (∃ c', c' ≤ cnt ∧ TabH w' t bm (upI nb i none) c' (upI ms i (fun _ => none)) (upI ns i 0)) ∧ w.grownBy w' (some bm) := by
 have HD := Lib.hid (fun ty => h.dropI hi ty)
 obtain ⟨c0, -⟩ := h.tab.c1
 clear h hi
 go_enter Tryz.func111, Tryz.ntmps111
 go_wp2_with (at_delete; refine wpList_delete_any rfl rfl _ _ rfl rfl rfl HD.out ?_; rintro w3 ⟨hM3, hg3⟩; have HM := Lib.hid hM3; have HG := Lib.hid hg3; clear hM3 hg3)
 go_end0
 exact ⟨rfl, HM.out, HG.out⟩
set_option maxRecDepth 100000 in
set_option maxHeartbeats 4000000 in
theorem set_badname (h : TabH w t bm nb cnt ms ns) {i : Int} (hi : I64 i) (p : Pr) (z1 : p.name.size ≤ 9223372036854775807) (z2 : p.typ.size ≤ 9223372036854775807) (h1 : nameB p.name = false) :
  Calls Tryz.prog 119 #[tabP t, .int .i64 i, prV p] w fun e w' => e = .returned (.int .i64 70) ∧ Below w.heap.size w w' := by
 obtain ⟨bt, h2⟩ : ∃ bt, nameB p.typ = bt := ⟨_, rfl⟩
 have hmm := @run_makeMap Tryz.prog
 obtain ⟨wb, hwb⟩ : ∃ wb, wb = w.alloc (.cells #[.string p.name, .string p.typ, .string p.data] 35) := ⟨_, rfl⟩
 have hbel : Below w.heap.size w wb := by rw [hwb]; exact (Below.refl _ _).alloc (Nat.le_refl _) _
 have hbx : Blk wb w.heap.size 35 #[.string p.name, .string p.typ, .string p.data] := by rw [hwb]; exact Blk.new w _ _
 have hof := of_c (h.next hbel) hi
 obtain ⟨v, hv⟩ : ∃ v, v = mapOf (nb i) := ⟨_, rfl⟩
 rw [← hv] at hof
 have em1 : ∀ W : World, (binOp .eql 106 (.map (some bm)) (.map none)).run Tryz.prog W = .ok (.bool false) W := fun W => by kernel_rfl
 have HOF := Lib.hid hof
 have HN1 := Lib.hid (fun W => (show Calls Tryz.prog 135 #[.string p.name] W fun e w' => e = .returned (.bool false) ∧ Below W.heap.size W w' from h1 ▸ name_c p.name W (by omega)))
 have HN2 := Lib.hid (fun W => (show Calls Tryz.prog 135 #[.string p.typ] W fun e w' => e = .returned (.bool bt) ∧ Below W.heap.size W w' from h2 ▸ name_c p.typ W (by omega)))
 have HX := Lib.hid hbx
 have HT := Lib.hid (h.next hbel)
 have HB := Lib.hid hbel
 have HW := Lib.hid hwb
 obtain ⟨c0, -⟩ := HT.out.tab.c1
 obtain ⟨⟨x0, x1, x2⟩, -⟩ := hbx.c3
 clear h hi h1 h2 hv hof hbel hbx z1 z2
 go_enter Tryz.func119, Tryz.ntmps119
 go_upto_region 1 with fail
 rw [← HW.out]
 clear hwb
 go_upto_region 4 with (go_at_call 72; ((with_reducible refine (HOF.out).mono ?_); rintro e w1 ⟨rfl, rfl⟩))
 go_wp2_with (go_at_call 135; ((with_reducible refine (HN1.out _).mono ?_); rintro e w2 ⟨rfl, hb2⟩); have HB2 := Lib.hid hb2; clear hb2; clear x0 x1 x2; obtain ⟨⟨x0, x1, x2⟩, -⟩ := (HX.out.next HB2.out).c3)
 go_ret
 exact ⟨rfl, HB2.out.on HB.out HB.out.size⟩
set_option maxRecDepth 100000 in
set_option maxHeartbeats 4000000 in
theorem set_badtype (h : TabH w t bm nb cnt ms ns) {i : Int} (hi : I64 i) (p : Pr) (z1 : p.name.size ≤ 9223372036854775807) (z2 : p.typ.size ≤ 9223372036854775807) (h1 : nameB p.name = true) (h2 : nameB p.typ = false) :
  Calls Tryz.prog 119 #[tabP t, .int .i64 i, prV p] w fun e w' => e = .returned (.int .i64 70) ∧ Below w.heap.size w w' := by
 have hmm := @run_makeMap Tryz.prog
 obtain ⟨wb, hwb⟩ : ∃ wb, wb = w.alloc (.cells #[.string p.name, .string p.typ, .string p.data] 35) := ⟨_, rfl⟩
 have hbel : Below w.heap.size w wb := by rw [hwb]; exact (Below.refl _ _).alloc (Nat.le_refl _) _
 have hbx : Blk wb w.heap.size 35 #[.string p.name, .string p.typ, .string p.data] := by rw [hwb]; exact Blk.new w _ _
 have hof := of_c (h.next hbel) hi
 obtain ⟨v, hv⟩ : ∃ v, v = mapOf (nb i) := ⟨_, rfl⟩
 rw [← hv] at hof
 have em1 : ∀ W : World, (binOp .eql 106 (.map (some bm)) (.map none)).run Tryz.prog W = .ok (.bool false) W := fun W => by kernel_rfl
 have HOF := Lib.hid hof
 have HN1 := Lib.hid (fun W => (show Calls Tryz.prog 135 #[.string p.name] W fun e w' => e = .returned (.bool true) ∧ Below W.heap.size W w' from h1 ▸ name_c p.name W (by omega)))
 have HN2 := Lib.hid (fun W => (show Calls Tryz.prog 135 #[.string p.typ] W fun e w' => e = .returned (.bool false) ∧ Below W.heap.size W w' from h2 ▸ name_c p.typ W (by omega)))
 have HX := Lib.hid hbx
 have HT := Lib.hid (h.next hbel)
 have HB := Lib.hid hbel
 have HW := Lib.hid hwb
 obtain ⟨c0, -⟩ := HT.out.tab.c1
 obtain ⟨⟨x0, x1, x2⟩, -⟩ := hbx.c3
 clear h hi h1 h2 hv hof hbel hbx z1 z2
 go_enter Tryz.func119, Tryz.ntmps119
 go_upto_region 1 with fail
 rw [← HW.out]
 clear hwb
 go_upto_region 4 with (go_at_call 72; ((with_reducible refine (HOF.out).mono ?_); rintro e w1 ⟨rfl, rfl⟩))
 go_wp2_with (first
  | (go_at_call 135; ((with_reducible refine (HN1.out _).mono ?_); rintro e w2 ⟨rfl, hb2⟩); have HB2 := Lib.hid hb2; clear hb2; clear x0 x1 x2; obtain ⟨⟨x0, x1, x2⟩, -⟩ := (HX.out.next HB2.out).c3)
  | (go_at_call 135; ((with_reducible refine (HN2.out _).mono ?_); rintro e w3 ⟨rfl, hb3⟩); have HB3 := Lib.hid (hb3.on HB2.out HB2.out.size); clear hb3; clear x0 x1 x2; obtain ⟨⟨x0, x1, x2⟩, -⟩ := (HX.out.next HB3.out).c3))
 go_ret
 exact ⟨rfl, HB3.out.on HB.out HB.out.size⟩
set_option maxRecDepth 100000 in
set_option maxHeartbeats 4000000 in
theorem set_long (h : TabH w t bm nb cnt ms ns) {i : Int} (hi : I64 i) (p : Pr) (z1 : p.name.size ≤ 9223372036854775807) (z2 : p.typ.size ≤ 9223372036854775807) (h1 : nameB p.name = true) (h2 : nameB p.typ = true) (h3 : 256 < p.data.size) :
  Calls Tryz.prog 119 #[tabP t, .int .i64 i, prV p] w fun e w' => e = .returned (.int .i64 71) ∧ Below w.heap.size w w' := by
 have h4 : (256 : Int) < (p.data.size : Int) := by omega
 have hmm := @run_makeMap Tryz.prog
 obtain ⟨wb, hwb⟩ : ∃ wb, wb = w.alloc (.cells #[.string p.name, .string p.typ, .string p.data] 35) := ⟨_, rfl⟩
 have hbel : Below w.heap.size w wb := by rw [hwb]; exact (Below.refl _ _).alloc (Nat.le_refl _) _
 have hbx : Blk wb w.heap.size 35 #[.string p.name, .string p.typ, .string p.data] := by rw [hwb]; exact Blk.new w _ _
 have hof := of_c (h.next hbel) hi
 obtain ⟨v, hv⟩ : ∃ v, v = mapOf (nb i) := ⟨_, rfl⟩
 rw [← hv] at hof
 have em1 : ∀ W : World, (binOp .eql 106 (.map (some bm)) (.map none)).run Tryz.prog W = .ok (.bool false) W := fun W => by kernel_rfl
 have HOF := Lib.hid hof
 have HN1 := Lib.hid (fun W => (show Calls Tryz.prog 135 #[.string p.name] W fun e w' => e = .returned (.bool true) ∧ Below W.heap.size W w' from h1 ▸ name_c p.name W (by omega)))
 have HN2 := Lib.hid (fun W => (show Calls Tryz.prog 135 #[.string p.typ] W fun e w' => e = .returned (.bool true) ∧ Below W.heap.size W w' from h2 ▸ name_c p.typ W (by omega)))
 have HX := Lib.hid hbx
 have HT := Lib.hid (h.next hbel)
 have HB := Lib.hid hbel
 have HW := Lib.hid hwb
 obtain ⟨c0, -⟩ := HT.out.tab.c1
 obtain ⟨⟨x0, x1, x2⟩, -⟩ := hbx.c3
 clear h hi h1 h2 h3 hv hof hbel hbx z1 z2
 go_enter Tryz.func119, Tryz.ntmps119
 go_upto_region 1 with fail
 rw [← HW.out]
 clear hwb
 go_upto_region 4 with (go_at_call 72; ((with_reducible refine (HOF.out).mono ?_); rintro e w1 ⟨rfl, rfl⟩))
 go_wp2_with (first
  | (go_at_call 135; ((with_reducible refine (HN1.out _).mono ?_); rintro e w2 ⟨rfl, hb2⟩); have HB2 := Lib.hid hb2; clear hb2; clear x0 x1 x2; obtain ⟨⟨x0, x1, x2⟩, -⟩ := (HX.out.next HB2.out).c3)
  | (go_at_call 135; ((with_reducible refine (HN2.out _).mono ?_); rintro e w3 ⟨rfl, hb3⟩); have HB3 := Lib.hid (hb3.on HB2.out HB2.out.size); clear hb3; clear x0 x1 x2; obtain ⟨⟨x0, x1, x2⟩, -⟩ := (HX.out.next HB3.out).c3))
 go_ret
 exact ⟨rfl, HB3.out.on HB.out HB.out.size⟩
set_option maxRecDepth 100000 in
set_option maxHeartbeats 4000000 in
theorem set_full (h : TabH w t bm nb cnt ms ns) {i : Int} (hi : I64 i) (p : Pr) {b : Nat} (hnb : nb i = some b) (h1 : nameB p.name = true) (h2 : nameB p.typ = true) (h3 : p.data.size ≤ 256) (hm : (ms i p.name).isSome = false) (hf : 32 ≤ ns i) :
  Calls Tryz.prog 119 #[tabP t, .int .i64 i, prV p] w fun e w' => e = .returned (.int .i64 2) ∧ Below w.heap.size w w' := by
 have hs1 : p.name.size ≤ 32 := by have := (of_decide_eq_true h1).1.2; exact this
 have hs2 : p.typ.size ≤ 32 := by have := (of_decide_eq_true h2).1.2; exact this
 have hmm := @run_makeMap Tryz.prog
 obtain ⟨wb, hwb⟩ : ∃ wb, wb = w.alloc (.cells #[.string p.name, .string p.typ, .string p.data] 35) := ⟨_, rfl⟩
 have hbel : Below w.heap.size w wb := by rw [hwb]; exact (Below.refl _ _).alloc (Nat.le_refl _) _
 have hbx : Blk wb w.heap.size 35 #[.string p.name, .string p.typ, .string p.data] := by rw [hwb]; exact Blk.new w _ _
 have hof := of_c (h.next hbel) hi
 rw [hnb, show mapOf (some b) = Value.map (some b) from rfl] at hof
 have em1 : ∀ W : World, (binOp .eql 106 (.map (some bm)) (.map none)).run Tryz.prog W = .ok (.bool false) W := fun W => by kernel_rfl
 have HOF := Lib.hid hof
 have HN1 := Lib.hid (fun W => (show Calls Tryz.prog 135 #[.string p.name] W fun e w' => e = .returned (.bool true) ∧ Below W.heap.size W w' from h1 ▸ name_c p.name W (by omega)))
 have HN2 := Lib.hid (fun W => (show Calls Tryz.prog 135 #[.string p.typ] W fun e w' => e = .returned (.bool true) ∧ Below W.heap.size W w' from h2 ▸ name_c p.typ W (by omega)))
 have HX := Lib.hid hbx
 have HT := Lib.hid (h.next hbel)
 have HB := Lib.hid hbel
 have HW := Lib.hid hwb
 obtain ⟨c0, -⟩ := HT.out.tab.c1
 obtain ⟨⟨x0, x1, x2⟩, -⟩ := hbx.c3
 have h4 : ¬ (256 : Int) < (p.data.size : Int) := by omega
 have HHS := Lib.hid (fun W (hW : Below wb.heap.size wb W) => (show Calls Tryz.prog 136 #[.map (some b), .string p.name] W fun e w' => e = .returned (.bool false) ∧ Below W.heap.size W w' from hm ▸ has_some (by unfold maxLen; omega) W (((h.next hbel).next hW).inner i b hi hnb)))
 obtain ⟨nn, hnn⟩ : ∃ nn, ns i = nn := ⟨_, rfl⟩
 rw [hnn] at hf
 have hf2 : (32 : Int) ≤ (nn : Int) := by omega
 have HNN := Lib.hid hnn
 have HI := Lib.hid (And.intro hi (And.intro hnb trivial))
 clear h hi hnb h1 h2 h3 hm hf hnn hof hbel hbx hs1 hs2
 go_enter Tryz.func119, Tryz.ntmps119
 go_upto_region 1 with fail
 rw [← HW.out]
 clear hwb
 go_upto_region 4 with (go_at_call 72; ((with_reducible refine (HOF.out).mono ?_); rintro e w1 ⟨rfl, rfl⟩))
 go_upto_region 8 with (first
  | (go_at_call 135; ((with_reducible refine (HN1.out _).mono ?_); rintro e w2 ⟨rfl, hb2⟩); have HB2 := Lib.hid hb2; clear hb2; clear x0 x1 x2; obtain ⟨⟨x0, x1, x2⟩, -⟩ := (HX.out.next HB2.out).c3)
  | (go_at_call 135; ((with_reducible refine (HN2.out _).mono ?_); rintro e w3 ⟨rfl, hb3⟩); have HB3 := Lib.hid (hb3.on HB2.out HB2.out.size); clear hb3; clear x0 x1 x2; obtain ⟨⟨x0, x1, x2⟩, -⟩ := (HX.out.next HB3.out).c3))
 go_wp2_with (go_at_call 136; ((with_reducible refine (HHS.out _ HB3.out).mono ?_); rintro e w4 ⟨rfl, hb4⟩); have HB4 := Lib.hid (hb4.on HB3.out HB3.out.size); clear hb4; clear x0 x1 x2; obtain ⟨⟨x0, x1, x2⟩, -⟩ := (HX.out.next HB4.out).c3; have elen := fun ty => ((HT.out.next HB4.out).inner i b HI.out.1 HI.out.2.1).len ty; rw [HNN.out] at elen)
 go_ret
 exact ⟨rfl, HB4.out.on HB.out HB.out.size⟩
set_option maxRecDepth 100000 in
set_option maxHeartbeats 4000000 in
theorem set_has (h : TabH w t bm nb cnt ms ns) {i : Int} (hi : I64 i) (p : Pr) {b : Nat} (hnb : nb i = some b) (h1 : nameB p.name = true) (h2 : nameB p.typ = true) (h3 : p.data.size ≤ 256) (hm : (ms i p.name).isSome = true) (hns : ns i < 1048576) :
  Calls Tryz.prog 119 #[tabP t, .int .i64 i, prV p] w fun e w' => e = .returned (.int .i64 0) ∧ TabH w' t bm nb cnt (upI ms i (upS (ms i) p.name (some p))) (upI ns i (ns i)) ∧ w.grownBy w' (some b) := by
 have hs1 : p.name.size ≤ 32 := by have := (of_decide_eq_true h1).1.2; exact this
 have hs2 : p.typ.size ≤ 32 := by have := (of_decide_eq_true h2).1.2; exact this
 have hmm := @run_makeMap Tryz.prog
 obtain ⟨wb, hwb⟩ : ∃ wb, wb = w.alloc (.cells #[.string p.name, .string p.typ, .string p.data] 35) := ⟨_, rfl⟩
 have hbel : Below w.heap.size w wb := by rw [hwb]; exact (Below.refl _ _).alloc (Nat.le_refl _) _
 have hbx : Blk wb w.heap.size 35 #[.string p.name, .string p.typ, .string p.data] := by rw [hwb]; exact Blk.new w _ _
 have hof := of_c (h.next hbel) hi
 rw [hnb, show mapOf (some b) = Value.map (some b) from rfl] at hof
 have em1 : ∀ W : World, (binOp .eql 106 (.map (some bm)) (.map none)).run Tryz.prog W = .ok (.bool false) W := fun W => by kernel_rfl
 have HOF := Lib.hid hof
 have HN1 := Lib.hid (fun W => (show Calls Tryz.prog 135 #[.string p.name] W fun e w' => e = .returned (.bool true) ∧ Below W.heap.size W w' from h1 ▸ name_c p.name W (by omega)))
 have HN2 := Lib.hid (fun W => (show Calls Tryz.prog 135 #[.string p.typ] W fun e w' => e = .returned (.bool true) ∧ Below W.heap.size W w' from h2 ▸ name_c p.typ W (by omega)))
 have HX := Lib.hid hbx
 have HT := Lib.hid (h.next hbel)
 have HB := Lib.hid hbel
 have HW := Lib.hid hwb
 obtain ⟨c0, -⟩ := HT.out.tab.c1
 obtain ⟨⟨x0, x1, x2⟩, -⟩ := hbx.c3
 have h4 : ¬ (256 : Int) < (p.data.size : Int) := by omega
 have HHS := Lib.hid (fun W (hW : Below wb.heap.size wb W) => (show Calls Tryz.prog 136 #[.map (some b), .string p.name] W fun e w' => e = .returned (.bool true) ∧ Below W.heap.size W w' from hm ▸ has_some (by unfold maxLen; omega) W (((h.next hbel).next hW).inner i b hi hnb)))
 have em2 : ∀ W : World, (binOp .eql 125 (.map (some b)) (.map none)).run Tryz.prog W = .ok (.bool false) W := fun W => by kernel_rfl
 have HNS := Lib.hid (show p.name.size ≤ maxLen by unfold maxLen; omega)
 have HCP := Lib.hid (fun W => copied_c p W ⟨by omega, by omega, by omega⟩)
 have HLT := Lib.hid (And.intro h.tab.lt (And.intro h.map.lt (fun i b hi hn => (h.inner i b hi hn).lt)))
 have HM := Lib.hid hm
 have HI := Lib.hid (And.intro hi (And.intro hnb hns))
 clear h hi hnb h1 h2 h3 hm hns hof hbel hbx hs1 hs2
 go_enter Tryz.func119, Tryz.ntmps119
 go_upto_region 1 with fail
 rw [← HW.out]
 clear hwb
 go_upto_region 4 with (go_at_call 72; ((with_reducible refine (HOF.out).mono ?_); rintro e w1 ⟨rfl, rfl⟩))
 go_upto_region 8 with (first
  | (go_at_call 135; ((with_reducible refine (HN1.out _).mono ?_); rintro e w2 ⟨rfl, hb2⟩); have HB2 := Lib.hid hb2; clear hb2; clear x0 x1 x2; obtain ⟨⟨x0, x1, x2⟩, -⟩ := (HX.out.next HB2.out).c3)
  | (go_at_call 135; ((with_reducible refine (HN2.out _).mono ?_); rintro e w3 ⟨rfl, hb3⟩); have HB3 := Lib.hid (hb3.on HB2.out HB2.out.size); clear hb3; clear x0 x1 x2; obtain ⟨⟨x0, x1, x2⟩, -⟩ := (HX.out.next HB3.out).c3))
 go_upto_region 13 with (go_at_call 136; ((with_reducible refine (HHS.out _ HB3.out).mono ?_); rintro e w4 ⟨rfl, hb4⟩); have HB4 := Lib.hid (hb4.on HB3.out HB3.out.size); clear hb4; clear x0 x1 x2; obtain ⟨⟨x0, x1, x2⟩, -⟩ := (HX.out.next HB4.out).c3)
 go_upto_region 14 with (go_at_call 73; ((with_reducible refine (HCP.out _).mono ?_); rintro e w7 ⟨rfl, hb7⟩); have HB7 := Lib.hid (hb7.on HB4.out HB4.out.size); obtain ⟨⟨z0, z1, z2⟩, ⟨f0, f1, f2⟩⟩ := (HX.out.next HB7.out).c3; clear hb7)
 have hx8 := (HX.out.next HB7.out).put3 (.string p.name) (.string p.typ) (.string p.data)
 have ht7 := HT.out.next HB7.out
 have h8 : ∀ g, g ≠ w.heap.size → ((((w7.setCell ⟨w.heap.size, 0, none⟩ (.string p.name)).setCell ⟨w.heap.size, 1, none⟩ (.string p.typ)).setCell ⟨w.heap.size, 2, none⟩ (.string p.data))).heap[g]? = w7.heap[g]? := fun g hg => by
  rw [Below.heap_setCell _ _ _ _ hg, Below.heap_setCell _ _ _ _ hg, Below.heap_setCell _ _ _ _ hg]
 have ht8 : TabH ((((w7.setCell ⟨w.heap.size, 0, none⟩ (.string p.name)).setCell ⟨w.heap.size, 1, none⟩ (.string p.typ)).setCell ⟨w.heap.size, 2, none⟩ (.string p.data))) t bm nb cnt ms ns := ht7.kept fun g _ hg => h8 g (by
  have h1 := HLT.out.1
  have h2 := HLT.out.2.1
  rcases hg with rfl | rfl | ⟨j, hj, hc⟩
  · omega
  · omega
  · have := HLT.out.2.2 j g hj hc; omega)
 have hg8 : w.grownBy ((((w7.setCell ⟨w.heap.size, 0, none⟩ (.string p.name)).setCell ⟨w.heap.size, 1, none⟩ (.string p.typ)).setCell ⟨w.heap.size, 2, none⟩ (.string p.data))) (some b) := by
  have k1 : w.grownBy w7 (some b) := only_of_below (HB7.out.on HB.out HB.out.size) _
  exact only_setCell (only_setCell (only_setCell k1 (.inr (Nat.le_refl _)) _) (.inr (Nat.le_refl _)) _) (.inr (Nat.le_refl _)) _
 generalize (((w7.setCell ⟨w.heap.size, 0, none⟩ (.string p.name)).setCell ⟨w.heap.size, 1, none⟩ (.string p.typ)).setCell ⟨w.heap.size, 2, none⟩ (.string p.data)) = w8 at hx8 ht8 hg8 ⊢
 obtain ⟨w9, hput9, ht9, hg9⟩ := ht8.putS HI.out.1 HI.out.2.1 (s := p.name) HNS.out HI.out.2.2 p
 rw [HM.out] at ht9
 have HT9 := Lib.hid ht9
 have HG9 := Lib.hid (only_trans hg8 hg9)
 obtain ⟨⟨v0, v1, v2⟩, -⟩ := hx8.c3
 clear z0 z1 z2 f0 f1 f2 x0 x1 x2 ht7 h8 ht8 hg8 hx8 ht9 hg9 c0
 go_wp2_with fail
 go_ret
 exact ⟨rfl, HT9.out, HG9.out⟩
set_option maxRecDepth 100000 in
set_option maxHeartbeats 4000000 in
theorem set_more (h : TabH w t bm nb cnt ms ns) {i : Int} (hi : I64 i) (p : Pr) {b : Nat} (hnb : nb i = some b) (h1 : nameB p.name = true) (h2 : nameB p.typ = true) (h3 : p.data.size ≤ 256) (hm : (ms i p.name).isSome = false) (hf : ns i < 32) (hns : ns i < 1048576) :
  Calls Tryz.prog 119 #[tabP t, .int .i64 i, prV p] w fun e w' => e = .returned (.int .i64 0) ∧ TabH w' t bm nb cnt (upI ms i (upS (ms i) p.name (some p))) (upI ns i (ns i + 1)) ∧ w.grownBy w' (some b) := by
 have hs1 : p.name.size ≤ 32 := by have := (of_decide_eq_true h1).1.2; exact this
 have hs2 : p.typ.size ≤ 32 := by have := (of_decide_eq_true h2).1.2; exact this
 have hmm := @run_makeMap Tryz.prog
 obtain ⟨wb, hwb⟩ : ∃ wb, wb = w.alloc (.cells #[.string p.name, .string p.typ, .string p.data] 35) := ⟨_, rfl⟩
 have hbel : Below w.heap.size w wb := by rw [hwb]; exact (Below.refl _ _).alloc (Nat.le_refl _) _
 have hbx : Blk wb w.heap.size 35 #[.string p.name, .string p.typ, .string p.data] := by rw [hwb]; exact Blk.new w _ _
 have hof := of_c (h.next hbel) hi
 rw [hnb, show mapOf (some b) = Value.map (some b) from rfl] at hof
 have em1 : ∀ W : World, (binOp .eql 106 (.map (some bm)) (.map none)).run Tryz.prog W = .ok (.bool false) W := fun W => by kernel_rfl
 have HOF := Lib.hid hof
 have HN1 := Lib.hid (fun W => (show Calls Tryz.prog 135 #[.string p.name] W fun e w' => e = .returned (.bool true) ∧ Below W.heap.size W w' from h1 ▸ name_c p.name W (by omega)))
 have HN2 := Lib.hid (fun W => (show Calls Tryz.prog 135 #[.string p.typ] W fun e w' => e = .returned (.bool true) ∧ Below W.heap.size W w' from h2 ▸ name_c p.typ W (by omega)))
 have HX := Lib.hid hbx
 have HT := Lib.hid (h.next hbel)
 have HB := Lib.hid hbel
 have HW := Lib.hid hwb
 obtain ⟨c0, -⟩ := HT.out.tab.c1
 obtain ⟨⟨x0, x1, x2⟩, -⟩ := hbx.c3
 have h4 : ¬ (256 : Int) < (p.data.size : Int) := by omega
 have HHS := Lib.hid (fun W (hW : Below wb.heap.size wb W) => (show Calls Tryz.prog 136 #[.map (some b), .string p.name] W fun e w' => e = .returned (.bool false) ∧ Below W.heap.size W w' from hm ▸ has_some (by unfold maxLen; omega) W (((h.next hbel).next hW).inner i b hi hnb)))
 have em2 : ∀ W : World, (binOp .eql 125 (.map (some b)) (.map none)).run Tryz.prog W = .ok (.bool false) W := fun W => by kernel_rfl
 have HNS := Lib.hid (show p.name.size ≤ maxLen by unfold maxLen; omega)
 have HCP := Lib.hid (fun W => copied_c p W ⟨by omega, by omega, by omega⟩)
 have HLT := Lib.hid (And.intro h.tab.lt (And.intro h.map.lt (fun i b hi hn => (h.inner i b hi hn).lt)))
 have HM := Lib.hid hm
 obtain ⟨nn, hnn⟩ : ∃ nn, ns i = nn := ⟨_, rfl⟩
 rw [hnn] at hf
 have hf2 : ¬ (32 : Int) ≤ (nn : Int) := by omega
 have HNN := Lib.hid hnn
 have HI := Lib.hid (And.intro hi (And.intro hnb hns))
 clear h hi hnb h1 h2 h3 hm hns hof hbel hbx hs1 hs2 hf hnn
 go_enter Tryz.func119, Tryz.ntmps119
 go_upto_region 1 with fail
 rw [← HW.out]
 clear hwb
 go_upto_region 4 with (go_at_call 72; ((with_reducible refine (HOF.out).mono ?_); rintro e w1 ⟨rfl, rfl⟩))
 go_upto_region 8 with (first
  | (go_at_call 135; ((with_reducible refine (HN1.out _).mono ?_); rintro e w2 ⟨rfl, hb2⟩); have HB2 := Lib.hid hb2; clear hb2; clear x0 x1 x2; obtain ⟨⟨x0, x1, x2⟩, -⟩ := (HX.out.next HB2.out).c3)
  | (go_at_call 135; ((with_reducible refine (HN2.out _).mono ?_); rintro e w3 ⟨rfl, hb3⟩); have HB3 := Lib.hid (hb3.on HB2.out HB2.out.size); clear hb3; clear x0 x1 x2; obtain ⟨⟨x0, x1, x2⟩, -⟩ := (HX.out.next HB3.out).c3))
 go_upto_region 13 with (go_at_call 136; ((with_reducible refine (HHS.out _ HB3.out).mono ?_); rintro e w4 ⟨rfl, hb4⟩); have HB4 := Lib.hid (hb4.on HB3.out HB3.out.size); clear hb4; clear x0 x1 x2; obtain ⟨⟨x0, x1, x2⟩, -⟩ := (HX.out.next HB4.out).c3; have elen := fun ty => ((HT.out.next HB4.out).inner i b HI.out.1 HI.out.2.1).len ty; rw [HNN.out] at elen)
 go_upto_region 14 with (go_at_call 73; ((with_reducible refine (HCP.out _).mono ?_); rintro e w7 ⟨rfl, hb7⟩); have HB7 := Lib.hid (hb7.on HB4.out HB4.out.size); obtain ⟨⟨z0, z1, z2⟩, ⟨f0, f1, f2⟩⟩ := (HX.out.next HB7.out).c3; clear hb7)
 have hx8 := (HX.out.next HB7.out).put3 (.string p.name) (.string p.typ) (.string p.data)
 have ht7 := HT.out.next HB7.out
 have h8 : ∀ g, g ≠ w.heap.size → ((((w7.setCell ⟨w.heap.size, 0, none⟩ (.string p.name)).setCell ⟨w.heap.size, 1, none⟩ (.string p.typ)).setCell ⟨w.heap.size, 2, none⟩ (.string p.data))).heap[g]? = w7.heap[g]? := fun g hg => by
  rw [Below.heap_setCell _ _ _ _ hg, Below.heap_setCell _ _ _ _ hg, Below.heap_setCell _ _ _ _ hg]
 have ht8 : TabH ((((w7.setCell ⟨w.heap.size, 0, none⟩ (.string p.name)).setCell ⟨w.heap.size, 1, none⟩ (.string p.typ)).setCell ⟨w.heap.size, 2, none⟩ (.string p.data))) t bm nb cnt ms ns := ht7.kept fun g _ hg => h8 g (by
  have h1 := HLT.out.1
  have h2 := HLT.out.2.1
  rcases hg with rfl | rfl | ⟨j, hj, hc⟩
  · omega
  · omega
  · have := HLT.out.2.2 j g hj hc; omega)
 have hg8 : w.grownBy ((((w7.setCell ⟨w.heap.size, 0, none⟩ (.string p.name)).setCell ⟨w.heap.size, 1, none⟩ (.string p.typ)).setCell ⟨w.heap.size, 2, none⟩ (.string p.data))) (some b) := by
  have k1 : w.grownBy w7 (some b) := only_of_below (HB7.out.on HB.out HB.out.size) _
  exact only_setCell (only_setCell (only_setCell k1 (.inr (Nat.le_refl _)) _) (.inr (Nat.le_refl _)) _) (.inr (Nat.le_refl _)) _
 generalize (((w7.setCell ⟨w.heap.size, 0, none⟩ (.string p.name)).setCell ⟨w.heap.size, 1, none⟩ (.string p.typ)).setCell ⟨w.heap.size, 2, none⟩ (.string p.data)) = w8 at hx8 ht8 hg8 ⊢
 obtain ⟨w9, hput9, ht9, hg9⟩ := ht8.putS HI.out.1 HI.out.2.1 (s := p.name) HNS.out HI.out.2.2 p
 rw [HM.out] at ht9
 have HT9 := Lib.hid ht9
 have HG9 := Lib.hid (only_trans hg8 hg9)
 obtain ⟨⟨v0, v1, v2⟩, -⟩ := hx8.c3
 clear z0 z1 z2 f0 f1 f2 x0 x1 x2 ht7 h8 ht8 hg8 hx8 ht9 hg9 c0
 go_wp2_with fail
 go_ret
 exact ⟨rfl, HT9.out, HG9.out⟩
end
end Go.Proofs.YtnhchpiafchdgaaGreat.Pp
end
section
namespace Go.Proofs.YtnhchpiafchdgaaGreat.Pp
open Go.RowKit Go.Maps
def setE (p : Pr) (f : ByteArray → Option Pr) (n : Nat) : Int :=
 if nameB p.name = true ∧ nameB p.typ = true then (if 256 < p.data.size then 71 else if (f p.name).isSome = false ∧ 32 ≤ n then 2 else 0) else 70
def setM (ms : Int → ByteArray → Option Pr) (ns : Int → Nat) (i : Int) (p : Pr) : Int → ByteArray → Option Pr :=
 if setE p (ms i) (ns i) = 0 then upI ms i (upS (ms i) p.name (some p)) else ms
def setN (ms : Int → ByteArray → Option Pr) (ns : Int → Nat) (i : Int) (p : Pr) : Int → Nat :=
 if setE p (ms i) (ns i) = 0 then upI ns i (if (ms i p.name).isSome then ns i else ns i + 1) else ns
def Tb (n0 : Nat) (w0 w : World) (t : Nat) (ms : Int → ByteArray → Option Pr) (ns : Int → Nat) (k : Nat) : Prop :=
 ∃ bm nb cnt, TabH w t bm nb cnt ms ns ∧ cnt ≤ k ∧ (∀ i, I64 i → ns i ≤ 32) ∧ (∀ i s p, ms i s = some p → p.name = s ∧ nameB p.name = true ∧ nameB p.typ = true ∧ p.data.size ≤ 256) ∧
  (∀ i, I64 i → nb i = none → ns i = 0) ∧ Below n0 w0 w ∧ n0 ≤ w.heap.size ∧ n0 ≤ bm ∧ ∀ i b, I64 i → nb i = some b → n0 ≤ b
def Keep (w w' : World) : Prop := ∀ g T cs, Blk w g T cs → Blk w' g T cs
theorem Keep.of (w w' : World) (hb : Below w.heap.size w w') : Keep w w' := fun _ _ _ h => h.next hb
theorem nameB_size {s : ByteArray} (h : nameB s = true) : s.size ≤ 32 := (of_decide_eq_true h).1.2
theorem upI_self {α : Type} (f : Int → α) (i : Int) : upI f i (f i) = f := by
 funext j; unfold upI; split
 · next h => rw [h]
 · rfl
section
variable {n0 k t : Nat} {w0 w w' : World} {ms : Int → ByteArray → Option Pr} {ns : Int → Nat}
theorem Tb.next (H : Tb n0 w0 w t ms ns k) (hb : Below w.heap.size w w') : Tb n0 w0 w' t ms ns k := by
 obtain ⟨bm, nb, cnt, h, h1, h2, h3, h4, h5, h6, h7⟩ := H
 exact ⟨bm, nb, cnt, h.next hb, h1, h2, h3, h4, hb.on h5 h6, Nat.le_trans h6 hb.size, h7⟩
theorem Tb.below (H : Tb n0 w0 w t ms ns k) : Below n0 w0 w := by
 obtain ⟨bm, nb, cnt, h, h1, h2, h3, h4, h5, h6, h7⟩ := H
 exact h5
theorem Tb.size (H : Tb n0 w0 w t ms ns k) : n0 ≤ w.heap.size := by
 obtain ⟨bm, nb, cnt, h, h1, h2, h3, h4, h5, h6, h7⟩ := H
 exact h6
theorem Tb.more (H : Tb n0 w0 w t ms ns k) {k' : Nat} (hk : k ≤ k') : Tb n0 w0 w t ms ns k' := by
 obtain ⟨bm, nb, cnt, h, h1, h2⟩ := H
 exact ⟨bm, nb, cnt, h, Nat.le_trans h1 hk, h2⟩
theorem Tb.small (H : Tb n0 w0 w t ms ns k) (i : Int) (s : ByteArray) : ((ms i s).getD noP).name.size ≤ 32 ∧ ((ms i s).getD noP).typ.size ≤ 32 ∧ ((ms i s).getD noP).data.size ≤ 256 := by
 obtain ⟨bm, nb, cnt, h, h1, h2, h3, h4, h5, h6, h7⟩ := H
 cases hm : ms i s with
 | none => decide +kernel
 | some p =>
  obtain ⟨-, a, b, c⟩ := h3 i s p hm
  exact ⟨nameB_size a, nameB_size b, c⟩
end
end Go.Proofs.YtnhchpiafchdgaaGreat.Pp
end
section
namespace Go.Proofs.YtnhchpiafchdgaaGreat
open Go.RowKit Go.WideShapes Go.ChangeShapes Go.ChangeAt

section
variable {H : Type} {enc : TypeId × Value → H} {P : Program}
theorem block_of_cell {w : World} {a : Addr} {u : Value} (h : w.cell? a = some u) : a.block < w.heap.size := by
 unfold World.cell? at h
 cases hh : w.heap[a.block]? with
 | none => rw [hh] at h; simp at h
 | some o => exact (Array.getElem?_eq_some_iff.1 hh).1
theorem post_args {f : Func} {s : ChangeSpec} {apart fresh handsOn : Bool} {W W' : World} {args : Array Value} {v : Value} {ds gs : List (DataW H)} {places : List MemPlace}
  (hW : DataW.Whole enc P f.params.toList s.vars apart W args.toList ds gs places)
  (hres : ∀ (b : Nat) (sp : Nat → Bool) (hd : Bool), DataW.TrodAll enc P W' b sp hd f.resultTypes.toList (v.resultList f.resultTypes.size) (s.fn H (ds ++ gs)).results [])
  (hargs : DataW.TrodAll enc P W' 0 (fun b => decide (b < W.heap.size)) true f.params.toList args.toList (s.fn H (ds ++ gs)).args places)
  (hvars : DataW.TrodVars enc P W' (fun b => decide (b < W.heap.size)) s.vars (s.fn H (ds ++ gs)).vars []) (hb : Below W.heap.size W W') :
  s.post enc P f apart fresh handsOn false W args v W' := by
 exact ⟨ds, gs, _, [], _, [], hW, hres _ _ _, hargs, hvars, World.keptBut_mono (fun p hp => ⟨hp, .inr (.inl hp)⟩) (hb.frame (· ∈ places)), fun h => by cases h⟩
end
end Go.Proofs.YtnhchpiafchdgaaGreat
end
