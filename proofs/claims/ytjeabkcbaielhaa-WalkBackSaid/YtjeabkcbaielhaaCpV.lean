/- The document's With. -/
import Derived.Test.YtjeabkcbaielhaaCpU
namespace Go.Proofs.Ytjeabkcbaielhaa.Co
open Go.RowKit Go.Shelf Go.Maps
theorem KV.wide_kids {w : World} {Z : Nat → Prop} {ks : List Con} {v : Value} (h : KV w Z ks v) : ∀ y ∈ ks, y.a.wide := fun y hy => by
  obtain ⟨p, cap, sv, _, _, h1, _⟩ := h.out
  obtain ⟨j, hj⟩ := List.getElem?_of_mem hy
  obtain ⟨_, _, _, _, _, h2, _⟩ := h1 j y hj
  exact h2
/-- One container in a block of its own. -/
theorem KV.single {w : World} {g : Nat} {y : Con} {s : Value} (hb : Blk w g 24 #[.int .i64 y.a.k, .int .i64 y.a.w, .int .i64 y.a.c, .int .i64 y.a.s, s]) {Z : Nat → Prop} (hz : Z g) (hk : KV w Z y.ks s) (hw : y.a.wide) : KV w Z [y] (.slice (some ⟨g, 0, none⟩) 1 1) := by
  refine .mk [y] _ 1 (fun _ => s) (by simp) (by simp) (fun j x hx => ?_) (fun j x hx => ?_)
  · have hj := (List.getElem?_eq_some_iff.1 hx).1
    simp at hj
    subst hj
    simp at hx
    subst hx
    refine ⟨g, 0, rfl, hz, hb.lt, hw, fun i u hu => ?_⟩
    have := hb.at_ (i := i) (v := u) (by simpa [encC] using hu)
    simpa using this
  · have hj := (List.getElem?_eq_some_iff.1 hx).1
    simp at hj
    subst hj
    simp at hx
    subst hx
    exact hk
set_option maxHeartbeats 1000000 in
theorem With_c (Z : Nat → Prop) (x : Con) (sv kv : Value) (ls : List Con) (fr n : Nat) (w : World) (hZ : ∀ b, Z b → b < w.heap.size) (hK : KV w Z x.ks sv) (hL : KV w Z ls kv) (hf : fr + n ≤ x.ks.length) (hm : x.ks.length + ls.length ≤ 1000000) :
    Calls Try.prog 68 #[conV x.a sv, .int .i64 (fr : Int), .int .i64 (n : Int), kv] w fun e w' => Below w.heap.size w w' ∧ ∃ s', e = .returned (conV x.a s') ∧ KV w' (fun b => Z b ∨ w.heap.size ≤ b) (x.ks.take fr ++ ls ++ x.ks.drop (fr + n)) s' := by
  have hwd := hK.wide_kids
  have hwl := hL.wide_kids
  obtain ⟨p, cap, rfl, -⟩ := hK.slice
  obtain ⟨pl, cl, rfl, -⟩ := hL.slice
  have hcap := hK.cap.2
  obtain ⟨R, hR⟩ : ∃ R, R = fun (e : Ending) (w' : World) => Below w.heap.size w w' ∧ ∃ s', e = .returned (conV x.a s') ∧ KV w' (fun b => Z b ∨ w.heap.size ≤ b) (x.ks.take fr ++ ls ++ x.ks.drop (fr + n)) s' := ⟨_, rfl⟩
  have hRe : ∀ e w', R e w' ↔ (Below w.heap.size w w' ∧ ∃ s', e = .returned (conV x.a s') ∧ KV w' (fun b => Z b ∨ w.heap.size ≤ b) (x.ks.take fr ++ ls ++ x.ks.drop (fr + n)) s') := by rw [hR]; exact fun _ _ => Iff.rfl
  rw [← hR]
  have HR := Lib.hid hRe
  have HK1 := Lib.hid (hK.take (k := fr) (by omega))
  have HK3 := hK.drop (k := fr + n) hf
  have HL := Lib.hid hL
  obtain ⟨m, hme⟩ : ∃ m, m = x.ks.length := ⟨_, rfl⟩
  obtain ⟨ml, hml⟩ : ∃ m, m = ls.length := ⟨_, rfl⟩
  have HM := Lib.hid hme
  have HML := Lib.hid hml
  rw [← hme] at hf hm hcap HK3 ⊢
  rw [← hml] at hm HL ⊢
  by_cases hcf : cap = fr + n
  · subst hcf
    rw [if_pos rfl] at HK3
    have HKD := Lib.hid HK3
    obtain ⟨wA, hwA⟩ : ∃ wA, wA = ((w.alloc (.cells #[.int .i64 x.a.k, .int .i64 x.a.w, .int .i64 x.a.c, .int .i64 x.a.s, .slice p m (fr + n)] 24)).alloc (.cells #[.int .i64 0, .int .i64 0, .int .i64 0, .int .i64 0, .slice none 0 0] 24)).alloc (.cells #[] 24) := ⟨_, rfl⟩
    have hbA : Below w.heap.size w wA := by rw [hwA]; exact (((Below.refl _ _).alloc (Nat.le_refl _) _).alloc (by simp) _).alloc (by simp; omega) _
    have hrow : RowE Z (w.heap.size + 1 + 1) [] (.slice (some ⟨w.heap.size + 1 + 1, 0, none⟩) 0 0) wA := by
      refine ⟨[], ?_, rfl⟩
      rw [hwA]
      have := World.ownsRow_made (base := w.heap.size + 1 + 1) (e := 24) (size := 5) ((w.alloc (.cells #[.int .i64 x.a.k, .int .i64 x.a.w, .int .i64 x.a.c, .int .i64 x.a.s, .slice p m (fr + n)] 24)).alloc (.cells #[.int .i64 0, .int .i64 0, .int .i64 0, .int .i64 0, .slice none 0 0] 24)) #[] 0 (by simp) (by decide) rfl
      simpa using this
    have hqA : Blk wA w.heap.size 24 #[.int .i64 x.a.k, .int .i64 x.a.w, .int .i64 x.a.c, .int .i64 x.a.s, .slice p m (fr + n)] := by
      rw [hwA]; exact ((Blk.new w 24 _).alloc _).alloc _
    have hqB : Blk wA (w.heap.size + 1) 24 #[.int .i64 0, .int .i64 0, .int .i64 0, .int .i64 0, .slice none 0 0] := by
      rw [hwA]
      have := (Blk.new (w.alloc (.cells #[.int .i64 x.a.k, .int .i64 x.a.w, .int .i64 x.a.c, .int .i64 x.a.s, .slice p m (fr + n)] 24)) 24 #[.int .i64 0, .int .i64 0, .int .i64 0, .int .i64 0, .slice none 0 0]).alloc (.cells #[] 24)
      rwa [World.size_alloc] at this
    have HWA := Lib.hid hwA
    have HBA := Lib.hid hbA
    have HROW := Lib.hid hrow
    have HQA := Lib.hid hqA
    have HQB := Lib.hid hqB
    have HWD := Lib.hid hwd
    have HWL := Lib.hid hwl
    have hf1 : (fr : Int) + (n : Int) ≤ (m : Int) := by omega
    have hf2 : (fr : Int) ≤ ((fr + n) : Int) := by omega
    clear hK hL hR hRe HK3 hwA hbA hrow hqA hqB hme hml hwd hwl
    show Calls Try.prog 68 #[.agg #[.int .i64 x.a.k, .int .i64 x.a.w, .int .i64 x.a.c, .int .i64 x.a.s, .slice p m (fr + n)], .int .i64 (fr : Int), .int .i64 (n : Int), .slice pl ml cl] w R
    go_enter Try.func68, Try.ntmps68
    have HLA : Hid (([] : List Con).length + (x.ks.take fr).length ≤ 1000000) := by show _ ≤ _; rw [List.length_take, ← HM.out]; simp; omega
    have HLB : Hid (([] ++ x.ks.take fr).length = fr) := by show _ = _; rw [List.nil_append, List.length_take, ← HM.out]; omega
    have HLC : Hid (([] ++ x.ks.take fr).length + ls.length ≤ 1000000) := by show _ ≤ _; rw [HLB.out, ← HML.out]; omega
    have HLD : Hid (([] ++ x.ks.take fr ++ ls).length = fr + ml) := by show _ = _; rw [List.length_append, HLB.out, ← HML.out]
    have HLE : Hid (([] ++ x.ks.take fr ++ ls).length + (x.ks.drop (fr + n)).length ≤ 1000000) := by show _ ≤ _; rw [HLD.out, List.length_drop, ← HM.out]; omega
    have HLF : Hid (([] ++ x.ks.take fr ++ ls ++ x.ks.drop (fr + n)).length = fr + ml + (m - (fr + n))) := by show _ = _; rw [List.length_append, HLD.out, List.length_drop, ← HM.out]
    have HSA : Hid (w.heap.size + 1 + 1 ≤ wA.heap.size) := by show _ ≤ _; rw [HWA.out]; simp
    have HZA : Hid (∀ b, Z b → b < w.heap.size + 1 + 1) := fun b h => Nat.lt_of_lt_of_le (hZ b h) (by omega)
    go_wp2_with (first
      | (at_builtin; rw [← HWA.out]; (refine list_appK rfl (.tmp 10) (.tmp 14) rfl Z (w.heap.size + 1 + 1) (.slice (some ⟨w.heap.size + 1 + 1, 0, none⟩) 0 0) (.slice p fr (fr + n)) [] (x.ks.take fr) rfl rfl HROW.out (HK1.out.next HBA.out) HLA.out HSA.out HZA.out ?_; intro v1 w1 hr1 hb1; obtain ⟨p1, c1, rfl⟩ := hr1.slice' HLB.out; have HR1 := Lib.hid hr1; have HB1 := Lib.hid hb1; have HT1 := Lib.hid (HBA.out.trans (hb1.mono (Nat.le_add_right _ 2))); have HS1 := Lib.hid (Nat.le_trans HSA.out hb1.size); obtain ⟨⟨q0, q1, q2, q3, q4⟩, ⟨f0, f1, f2, f3, f4⟩⟩ := c5 (HQA.out.below hb1 (by omega)); clear hr1 hb1))
      | (at_builtin; (refine list_appK rfl (.tmp 16) (.tmp 17) rfl Z (w.heap.size + 1 + 1) (.slice p1 fr c1) (.slice pl ml cl) ([] ++ x.ks.take fr) ls rfl rfl HR1.out (HL.out.next HT1.out) HLC.out HS1.out HZA.out ?_; intro v2 w2 hr2 hb2; obtain ⟨p2, c2, rfl⟩ := hr2.slice' HLD.out; have HR2 := Lib.hid hr2; have HB2 := Lib.hid (HB1.out.trans hb2); have HT2 := Lib.hid (HT1.out.trans (hb2.mono (Nat.le_add_right _ 2))); have HS2 := Lib.hid (Nat.le_trans HS1.out hb2.size); clear q0 q1 q2 q3 q4 f0 f1 f2 f3 f4; obtain ⟨⟨q0, q1, q2, q3, q4⟩, ⟨f0, f1, f2, f3, f4⟩⟩ := c5 (HQA.out.below HB2.out (by omega)); clear hr2 hb2))
      | (at_builtin; (refine list_appK rfl (.tmp 19) (.tmp 25) rfl Z (w.heap.size + 1 + 1) (.slice p2 (fr + ml) c2) (.slice p (m - (fr + n)) ((fr + n) - (fr + n))) ([] ++ x.ks.take fr ++ ls) (x.ks.drop (fr + n)) rfl rfl HR2.out (HKD.out.next HT2.out) HLE.out HS2.out HZA.out ?_; intro v3 w3 hr3 hb3; obtain ⟨p3, c3, rfl⟩ := hr3.slice' HLF.out; have HR3 := Lib.hid hr3; have HB3 := Lib.hid (HB2.out.trans hb3); have HT3 := Lib.hid (HT2.out.trans (hb3.mono (Nat.le_add_right _ 2))); have HS3 := Lib.hid (Nat.le_trans HS2.out hb3.size); clear q0 q1 q2 q3 q4 f0 f1 f2 f3 f4; obtain ⟨⟨q0, q1, q2, q3, q4⟩, ⟨f0, f1, f2, f3, f4⟩⟩ := c5 (HQA.out.below HB3.out (by omega)); obtain ⟨⟨r0, r1, r2, r3, r4⟩, ⟨g0, g1, g2, g3, g4⟩⟩ := c5 (HQB.out.below HB3.out (by omega)); clear hr3 hb3)))
    have hr3 := HR3.out
    have hx : fr + ml + (m - (fr + n)) = fr + ml := by omega
    rw [hx] at hr3
    have hw3 := HQB.out.below HB3.out (by omega)
    have hb3' := (Below.refl w.heap.size w3).setCell (p := ⟨w.heap.size, 4, none⟩) (Nat.le_refl _) (.slice p3 (fr + ml) c3)
    obtain ⟨hb5, hq5, -⟩ := st5_next hb3' (Nat.le_succ _) (hw3.far (p := ⟨w.heap.size, 4, none⟩) (by simp) (.slice p3 (fr + ml) c3)) (.int .i64 x.a.k) (.int .i64 x.a.w) (.int .i64 x.a.c) (.int .i64 x.a.s) (.slice p3 (fr + ml) c3)
    have hfar : ∀ b, w.heap.size + 1 + 1 ≤ b → (st5 (w3.setCell ⟨w.heap.size, 4, none⟩ (.slice p3 (fr + ml) c3)) (w.heap.size + 1) (.int .i64 x.a.k) (.int .i64 x.a.w) (.int .i64 x.a.c) (.int .i64 x.a.s) (.slice p3 (fr + ml) c3)).heap[b]? = w3.heap[b]? := fun b hb =>
      (far_st5 _ (w.heap.size + 1) _ _ _ _ _ b (by omega)).trans (Below.heap_setCell w3 ⟨w.heap.size, 4, none⟩ _ b (by show b ≠ w.heap.size; omega))
    obtain ⟨w5, hw5⟩ : ∃ w5, w5 = st5 (w3.setCell ⟨w.heap.size, 4, none⟩ (.slice p3 (fr + ml) c3)) (w.heap.size + 1) (.int .i64 x.a.k) (.int .i64 x.a.w) (.int .i64 x.a.c) (.int .i64 x.a.s) (.slice p3 (fr + ml) c3) := ⟨_, rfl⟩
    rw [← hw5] at hb5 hq5 hfar
    unfold st5 at hw5
    rw [← hw5]
    obtain ⟨vs3, ho3, hz3⟩ := hr3
    have hr5 : RowE Z (w.heap.size + 1 + 1) ([] ++ x.ks.take fr ++ ls ++ x.ks.drop (fr + n)) (.slice p3 (fr + ml) c3) w5 :=
      ⟨vs3, row_same' ho3 fun b hb => hfar b (ho3.lt b hb).1, RZ.next hb5 hZ hz3⟩
    have hk5 := KV.of_row hr5 (fun y hy => by
      simp only [List.nil_append, List.mem_append] at hy
      rcases hy with (hy | hy) | hy
      · exact HWD.out y (List.mem_of_mem_take hy)
      · exact HWL.out y hy
      · exact HWD.out y (List.mem_of_mem_drop hy)) (by rw [HLF.out]; omega)
    rw [List.nil_append] at hk5
    have hk5 := hk5.weak (Z' := fun b => Z b ∨ w.heap.size ≤ b) (fun b h => h.imp id fun h => by omega)
    obtain ⟨⟨b0, b1, b2, b3, b4⟩, -⟩ := c5 hq5
    exact bodyPost_ret (v := .agg #[.int .i64 x.a.k, .int .i64 x.a.w, .int .i64 x.a.c, .int .i64 x.a.s, .slice p3 (fr + ml) c3]) (by simp [results, Try.results68, go_sem, b0, b1, b2, b3, b4]) rfl ((HR.out _ _).2 ⟨HT3.out.trans (hb5.mono (Nat.le_refl _)), .slice p3 (fr + ml) c3, rfl, hk5⟩)
  · rw [if_neg hcf] at HK3
    have HKD := Lib.hid HK3
    obtain ⟨wA, hwA⟩ : ∃ wA, wA = ((w.alloc (.cells #[.int .i64 x.a.k, .int .i64 x.a.w, .int .i64 x.a.c, .int .i64 x.a.s, .slice p m cap] 24)).alloc (.cells #[.int .i64 0, .int .i64 0, .int .i64 0, .int .i64 0, .slice none 0 0] 24)).alloc (.cells #[] 24) := ⟨_, rfl⟩
    have hbA : Below w.heap.size w wA := by rw [hwA]; exact (((Below.refl _ _).alloc (Nat.le_refl _) _).alloc (by simp) _).alloc (by simp; omega) _
    have hrow : RowE Z (w.heap.size + 1 + 1) [] (.slice (some ⟨w.heap.size + 1 + 1, 0, none⟩) 0 0) wA := by
      refine ⟨[], ?_, rfl⟩
      rw [hwA]
      have := World.ownsRow_made (base := w.heap.size + 1 + 1) (e := 24) (size := 5) ((w.alloc (.cells #[.int .i64 x.a.k, .int .i64 x.a.w, .int .i64 x.a.c, .int .i64 x.a.s, .slice p m cap] 24)).alloc (.cells #[.int .i64 0, .int .i64 0, .int .i64 0, .int .i64 0, .slice none 0 0] 24)) #[] 0 (by simp) (by decide) rfl
      simpa using this
    have hqA : Blk wA w.heap.size 24 #[.int .i64 x.a.k, .int .i64 x.a.w, .int .i64 x.a.c, .int .i64 x.a.s, .slice p m cap] := by
      rw [hwA]; exact ((Blk.new w 24 _).alloc _).alloc _
    have hqB : Blk wA (w.heap.size + 1) 24 #[.int .i64 0, .int .i64 0, .int .i64 0, .int .i64 0, .slice none 0 0] := by
      rw [hwA]
      have := (Blk.new (w.alloc (.cells #[.int .i64 x.a.k, .int .i64 x.a.w, .int .i64 x.a.c, .int .i64 x.a.s, .slice p m cap] 24)) 24 #[.int .i64 0, .int .i64 0, .int .i64 0, .int .i64 0, .slice none 0 0]).alloc (.cells #[] 24)
      rwa [World.size_alloc] at this
    have HWA := Lib.hid hwA
    have HBA := Lib.hid hbA
    have HROW := Lib.hid hrow
    have HQA := Lib.hid hqA
    have HQB := Lib.hid hqB
    have HWD := Lib.hid hwd
    have HWL := Lib.hid hwl
    have hf1 : (fr : Int) + (n : Int) ≤ (m : Int) := by omega
    have hf2 : (fr : Int) ≤ (cap : Int) := by omega
    clear hK hL hR hRe HK3 hwA hbA hrow hqA hqB hme hml hwd hwl
    show Calls Try.prog 68 #[.agg #[.int .i64 x.a.k, .int .i64 x.a.w, .int .i64 x.a.c, .int .i64 x.a.s, .slice p m cap], .int .i64 (fr : Int), .int .i64 (n : Int), .slice pl ml cl] w R
    go_enter Try.func68, Try.ntmps68
    have HLA : Hid (([] : List Con).length + (x.ks.take fr).length ≤ 1000000) := by show _ ≤ _; rw [List.length_take, ← HM.out]; simp; omega
    have HLB : Hid (([] ++ x.ks.take fr).length = fr) := by show _ = _; rw [List.nil_append, List.length_take, ← HM.out]; omega
    have HLC : Hid (([] ++ x.ks.take fr).length + ls.length ≤ 1000000) := by show _ ≤ _; rw [HLB.out, ← HML.out]; omega
    have HLD : Hid (([] ++ x.ks.take fr ++ ls).length = fr + ml) := by show _ = _; rw [List.length_append, HLB.out, ← HML.out]
    have HLE : Hid (([] ++ x.ks.take fr ++ ls).length + (x.ks.drop (fr + n)).length ≤ 1000000) := by show _ ≤ _; rw [HLD.out, List.length_drop, ← HM.out]; omega
    have HLF : Hid (([] ++ x.ks.take fr ++ ls ++ x.ks.drop (fr + n)).length = fr + ml + (m - (fr + n))) := by show _ = _; rw [List.length_append, HLD.out, List.length_drop, ← HM.out]
    have HSA : Hid (w.heap.size + 1 + 1 ≤ wA.heap.size) := by show _ ≤ _; rw [HWA.out]; simp
    have HZA : Hid (∀ b, Z b → b < w.heap.size + 1 + 1) := fun b h => Nat.lt_of_lt_of_le (hZ b h) (by omega)
    go_wp2_with (first
      | (at_builtin; rw [← HWA.out]; (refine list_appK rfl (.tmp 10) (.tmp 14) rfl Z (w.heap.size + 1 + 1) (.slice (some ⟨w.heap.size + 1 + 1, 0, none⟩) 0 0) (.slice p fr cap) [] (x.ks.take fr) rfl rfl HROW.out (HK1.out.next HBA.out) HLA.out HSA.out HZA.out ?_; intro v1 w1 hr1 hb1; obtain ⟨p1, c1, rfl⟩ := hr1.slice' HLB.out; have HR1 := Lib.hid hr1; have HB1 := Lib.hid hb1; have HT1 := Lib.hid (HBA.out.trans (hb1.mono (Nat.le_add_right _ 2))); have HS1 := Lib.hid (Nat.le_trans HSA.out hb1.size); obtain ⟨⟨q0, q1, q2, q3, q4⟩, ⟨f0, f1, f2, f3, f4⟩⟩ := c5 (HQA.out.below hb1 (by omega)); clear hr1 hb1))
      | (at_builtin; (refine list_appK rfl (.tmp 16) (.tmp 17) rfl Z (w.heap.size + 1 + 1) (.slice p1 fr c1) (.slice pl ml cl) ([] ++ x.ks.take fr) ls rfl rfl HR1.out (HL.out.next HT1.out) HLC.out HS1.out HZA.out ?_; intro v2 w2 hr2 hb2; obtain ⟨p2, c2, rfl⟩ := hr2.slice' HLD.out; have HR2 := Lib.hid hr2; have HB2 := Lib.hid (HB1.out.trans hb2); have HT2 := Lib.hid (HT1.out.trans (hb2.mono (Nat.le_add_right _ 2))); have HS2 := Lib.hid (Nat.le_trans HS1.out hb2.size); clear q0 q1 q2 q3 q4 f0 f1 f2 f3 f4; obtain ⟨⟨q0, q1, q2, q3, q4⟩, ⟨f0, f1, f2, f3, f4⟩⟩ := c5 (HQA.out.below HB2.out (by omega)); clear hr2 hb2))
      | (at_builtin; (refine list_appK rfl (.tmp 19) (.tmp 25) rfl Z (w.heap.size + 1 + 1) (.slice p2 (fr + ml) c2) (.slice (Option.map (fun a => a.add ((fr + n) * 5)) p) (m - (fr + n)) (cap - (fr + n))) ([] ++ x.ks.take fr ++ ls) (x.ks.drop (fr + n)) rfl rfl HR2.out (HKD.out.next HT2.out) HLE.out HS2.out HZA.out ?_; intro v3 w3 hr3 hb3; obtain ⟨p3, c3, rfl⟩ := hr3.slice' HLF.out; have HR3 := Lib.hid hr3; have HB3 := Lib.hid (HB2.out.trans hb3); have HT3 := Lib.hid (HT2.out.trans (hb3.mono (Nat.le_add_right _ 2))); have HS3 := Lib.hid (Nat.le_trans HS2.out hb3.size); clear q0 q1 q2 q3 q4 f0 f1 f2 f3 f4; obtain ⟨⟨q0, q1, q2, q3, q4⟩, ⟨f0, f1, f2, f3, f4⟩⟩ := c5 (HQA.out.below HB3.out (by omega)); obtain ⟨⟨r0, r1, r2, r3, r4⟩, ⟨g0, g1, g2, g3, g4⟩⟩ := c5 (HQB.out.below HB3.out (by omega)); clear hr3 hb3)))
    have hr3 := HR3.out
    have hx : fr + ml + (m - (fr + n)) = fr + ml + (m - (fr + n)) := by omega
    rw [hx] at hr3
    have hw3 := HQB.out.below HB3.out (by omega)
    have hb3' := (Below.refl w.heap.size w3).setCell (p := ⟨w.heap.size, 4, none⟩) (Nat.le_refl _) (.slice p3 (fr + ml + (m - (fr + n))) c3)
    obtain ⟨hb5, hq5, -⟩ := st5_next hb3' (Nat.le_succ _) (hw3.far (p := ⟨w.heap.size, 4, none⟩) (by simp) (.slice p3 (fr + ml + (m - (fr + n))) c3)) (.int .i64 x.a.k) (.int .i64 x.a.w) (.int .i64 x.a.c) (.int .i64 x.a.s) (.slice p3 (fr + ml + (m - (fr + n))) c3)
    have hfar : ∀ b, w.heap.size + 1 + 1 ≤ b → (st5 (w3.setCell ⟨w.heap.size, 4, none⟩ (.slice p3 (fr + ml + (m - (fr + n))) c3)) (w.heap.size + 1) (.int .i64 x.a.k) (.int .i64 x.a.w) (.int .i64 x.a.c) (.int .i64 x.a.s) (.slice p3 (fr + ml + (m - (fr + n))) c3)).heap[b]? = w3.heap[b]? := fun b hb =>
      (far_st5 _ (w.heap.size + 1) _ _ _ _ _ b (by omega)).trans (Below.heap_setCell w3 ⟨w.heap.size, 4, none⟩ _ b (by show b ≠ w.heap.size; omega))
    obtain ⟨w5, hw5⟩ : ∃ w5, w5 = st5 (w3.setCell ⟨w.heap.size, 4, none⟩ (.slice p3 (fr + ml + (m - (fr + n))) c3)) (w.heap.size + 1) (.int .i64 x.a.k) (.int .i64 x.a.w) (.int .i64 x.a.c) (.int .i64 x.a.s) (.slice p3 (fr + ml + (m - (fr + n))) c3) := ⟨_, rfl⟩
    rw [← hw5] at hb5 hq5 hfar
    unfold st5 at hw5
    rw [← hw5]
    obtain ⟨vs3, ho3, hz3⟩ := hr3
    have hr5 : RowE Z (w.heap.size + 1 + 1) ([] ++ x.ks.take fr ++ ls ++ x.ks.drop (fr + n)) (.slice p3 (fr + ml + (m - (fr + n))) c3) w5 :=
      ⟨vs3, row_same' ho3 fun b hb => hfar b (ho3.lt b hb).1, RZ.next hb5 hZ hz3⟩
    have hk5 := KV.of_row hr5 (fun y hy => by
      simp only [List.nil_append, List.mem_append] at hy
      rcases hy with (hy | hy) | hy
      · exact HWD.out y (List.mem_of_mem_take hy)
      · exact HWL.out y hy
      · exact HWD.out y (List.mem_of_mem_drop hy)) (by rw [HLF.out]; omega)
    rw [List.nil_append] at hk5
    have hk5 := hk5.weak (Z' := fun b => Z b ∨ w.heap.size ≤ b) (fun b h => h.imp id fun h => by omega)
    obtain ⟨⟨b0, b1, b2, b3, b4⟩, -⟩ := c5 hq5
    exact bodyPost_ret (v := .agg #[.int .i64 x.a.k, .int .i64 x.a.w, .int .i64 x.a.c, .int .i64 x.a.s, .slice p3 (fr + ml + (m - (fr + n))) c3]) (by simp [results, Try.results68, go_sem, b0, b1, b2, b3, b4]) rfl ((HR.out _ _).2 ⟨HT3.out.trans (hb5.mono (Nat.le_refl _)), .slice p3 (fr + ml + (m - (fr + n))) c3, rfl, hk5⟩)
end Go.Proofs.Ytjeabkcbaielhaa.Co
