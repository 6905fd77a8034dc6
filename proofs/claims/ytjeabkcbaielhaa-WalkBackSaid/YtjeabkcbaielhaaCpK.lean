/- cons.Leaves. -/
import Derived.Test.YtjeabkcbaielhaaCpJ
namespace Go.Proofs.Ytjeabkcbaielhaa.Co
open Go.RowKit Go.Shelf
/-- The clients so far: a row of ints of the call's own, and its variable. -/
def Jv (cv : Nat) (s : List Int) (F : Nat → Prop) (w : World) : Prop :=
  ∃ p c, Blk w cv 34 #[.slice p s.length c] ∧ w.ownsRow 0 3 1 (.slice p s.length c) s.length (s.map (Value.int .i64)) ∧ (Value.slice p s.length c).ownBlock ≠ some cv ∧ ∀ b, F b ↔ b = cv ∨ (Value.slice p s.length c).ownBlock = some b
theorem jok_v (cv : Nat) : Jok (Jv cv) where
  next := fun _ _ _ _ ⟨p, c, h1, h2, h3, h4⟩ hb => ⟨p, c, h1.next hb, row_same' h2 fun b hb' => hb.block b (h2.lt b hb').2, h3, h4⟩
  lt := fun _ _ _ ⟨p, c, h1, h2, h3, h4⟩ b hf => by
    rcases (h4 b).1 hf with h | h
    · exact h ▸ h1.lt
    · exact (h2.lt b h).2
  far := fun _ _ _ r _ v ⟨p, c, h1, h2, h3, h4⟩ hr _ => ⟨p, c, h1.far (fun e => hr ((h4 r).2 (.inl e.symm))) v, row_same' h2 fun b hb' => Below.heap_setCell _ ⟨r, 0, none⟩ _ b (fun e => hr ((h4 r).2 (.inr (hb'.trans (congrArg some e))))), h3, h4⟩
theorem enters_leaves : ∀ args w, (callFunc 63 args).run Try.prog w = .ok (.enter 63 args) w := enters_of Try.func63 (by kernel_rfl) rfl
def lvF (s : List Int) (x : Con) : List Int := s ++ [x.a.c]
set_option maxHeartbeats 1000000 in
theorem vis_leaves (Z : Nat → Prop) (cv : Nat) : LVis Z (fun s => s.length ≤ 1000) 63 #[.pointer (some ⟨cv, 0, none⟩)] lvF (Jv cv) := by
  intro s F w x sv hg hs hK hw hZ
  obtain ⟨p, cap, rfl, hl⟩ := hK.slice
  obtain ⟨n, hn⟩ : ∃ n, n = x.ks.length := ⟨_, rfl⟩
  rw [← hn]
  obtain ⟨R, hR⟩ : ∃ R, R = fun (e : Ending) (w' : World) => e = .returned (.tuple #[]) ∧ ∃ F', Jv cv (lvF s x) F' w' ∧ Turn F F' w w' := ⟨_, rfl⟩
  have hRe : ∀ e w', R e w' ↔ (e = .returned (.tuple #[]) ∧ ∃ F', Jv cv (lvF s x) F' w' ∧ Turn F F' w w') := by rw [hR]; exact fun _ _ => Iff.rfl
  rw [← hR]
  have HR := Lib.hid hRe
  obtain ⟨pv, cc, h1, h2, h3, h4⟩ := hs
  obtain ⟨m, hm⟩ : ∃ m, m = s.length := ⟨_, rfl⟩
  rw [← hm] at h1 h2 h3 h4 hg
  obtain ⟨wA, hwA⟩ : ∃ wA, wA = (w.alloc (.cells #[.int .i64 x.a.k, .int .i64 x.a.w, .int .i64 x.a.c, .int .i64 x.a.s, .slice p n cap] 24)).alloc (.cells #[.int .i64 x.a.c] 3) := ⟨_, rfl⟩
  have hb0 : Below w.heap.size w wA := by rw [hwA]; exact ((Below.refl _ _).alloc (Nat.le_refl _) _).alloc (by simp) _
  have hsz : wA.heap.size = w.heap.size + 2 := by rw [hwA]; simp
  have hnews : ∀ j u, [Value.int .i64 x.a.c][j]? = some u → wA.cell? ((⟨w.heap.size + 1, 0, none⟩ : Addr).add j) = some u := by
    rw [hwA]; have h := (Blk.new (w.alloc (.cells #[.int .i64 x.a.k, .int .i64 x.a.w, .int .i64 x.a.c, .int .i64 x.a.s, .slice p n cap] 24)) 3 #[.int .i64 x.a.c]).raw; rw [World.size_alloc] at h; exact World.news_of_block h
  have H2 := Lib.hid (row_same' h2 fun b hb' => hb0.block b (h2.lt b hb').2)
  have HV := Lib.hid (h1.next hb0)
  have HLT : Hid (cv < w.heap.size) := h1.lt
  have HFT := Lib.hid h4
  have HNE := Lib.hid h3
  have HB := Lib.hid hb0
  have HSZ := Lib.hid hsz
  have HNW := Lib.hid hnews
  have HWA := Lib.hid hwA
  have HM := Lib.hid hm
  obtain ⟨i0, hi0, hz0, hz1, hz2⟩ := int_info
  have v0 := ((h1.alloc (.cells #[.int .i64 x.a.k, .int .i64 x.a.w, .int .i64 x.a.c, .int .i64 x.a.s, .slice p n cap] 24)).at_ (i := 0) rfl)
  clear hn hR hRe hK hw hZ hl h1 h2 h3 h4 hb0 hsz hnews hwA hm
  show Calls Try.prog 63 #[.agg #[.int .i64 x.a.k, .int .i64 x.a.w, .int .i64 x.a.c, .int .i64 x.a.s, .slice p n cap], .pointer (some ⟨cv, 0, none⟩)] w R
  go_enter Try.func63, Try.ntmps63
  go_wp2_with (at_builtin; rw [← HWA.out]; go_loud (refine wpList_append_lies _ rfl (.tmp 3) (.tmp 6) 34 rfl 0 3 i0 (.int .i64 0) 1 8 Try.underlying34 hi0 hz0 hz1 hz2 rfl (by decide) _ m _ rfl H2.out ⟨_, 0, none⟩ 1 1 [.int .i64 x.a.c] rfl rfl HNW.out (by simp [Value.oneCell']) (by decide) (by unfold maxLen; omega) (by omega) (Nat.zero_le _) _ rfl ?_; intro g7 cap7 w7 ho7 hg7 hh7 hl7; have HO7 := Lib.hid ho7; have HG7 := Lib.hid hg7; have HH7 := Lib.hid hh7; have HV7 : Hid (Blk w7 cv 34 #[.slice pv m cc]) := (hg7.block cv HV.out.lt (fun e => HNE.out e.symm)).trans HV.out; have HL7 : Hid (g7 < w7.heap.size) := hl7; obtain ⟨y0, yf⟩ : w7.cell? ⟨cv, 0, none⟩ = some (.slice pv m cc) ∧ w7.frozen? ⟨cv, 0, none⟩ = false := ⟨HV7.out.at_ (i := 0) rfl, HV7.out.frozen 0⟩; clear ho7 hg7 hh7 hl7))
  go_end0
  have hgc : g7 ≠ cv := fun e => by
    rcases HH7.out with h | h
    · exact HNE.out (h.trans (congrArg some e))
    · have := HLT.out; have := HSZ.out; omega
  have hF : ∀ i, (i = cv ∨ i = g7) → F i ∨ wA.heap.size ≤ i := fun i hi => by
    rcases hi with rfl | rfl
    · exact .inl ((HFT.out _).2 (.inl rfl))
    · rcases HH7.out with h | h
      · exact .inl ((HFT.out _).2 (.inr h))
      · exact .inr (Nat.le_of_eq h.symm)
  have h3 := (Below.refl cv w7).setCell (p := ⟨cv, 0, none⟩) (Nat.le_refl _) (.slice (some ⟨g7, 0, none⟩) (m + 1) cap7)
  have hlen : (lvF s x).length = m + 1 := by unfold lvF; rw [List.length_append, HM.out]; rfl
  refine (HR.out _ _).2 ⟨rfl, fun b => b = cv ∨ b = g7, ⟨some ⟨g7, 0, none⟩, cap7, ?_, ?_, ?_, ?_⟩, ?_⟩
  · rw [hlen]; exact HV7.out.set_ 0 _
  · rw [hlen]
    have h := HO7.out
    rw [show s.map (Value.int .i64) ++ [Value.int .i64 x.a.c] = (lvF s x).map (Value.int .i64) by unfold lvF; simp] at h
    exact row_same' h fun b hb => Below.heap_setCell _ ⟨cv, 0, none⟩ _ b (fun e => hgc (by have := Option.some.inj hb; exact this.trans e))
  · exact fun e => hgc (Option.some.inj e)
  · intro b
    exact ⟨fun h => h.imp id fun h => congrArg some h.symm, fun h => h.imp id fun h => (Option.some.inj h).symm⟩
  · refine (Turn.of_below HB.out).trans (Turn.trans (F' := fun b => b = cv ∨ b = g7) ⟨HG7.out.os, HG7.out.tape, HG7.out.output, HG7.out.size, fun i hi hn => HG7.out.block i hi (fun e => hn ((HFT.out i).2 (.inr e.symm))), hF⟩ ⟨h3.os, h3.tape, h3.output, h3.size, fun i _ hn => Below.heap_setCell _ ⟨cv, 0, none⟩ _ i (fun e => hn (.inl e)), fun _ h => .inl h⟩)
/-- What Leaves tells. -/
def leavesI (x : Con) : List Int := if treeB x = true then (all x).map (fun y => y.a.c) else []
theorem fold_lv : ∀ (l : List Con) (s : List Int), l.foldl lvF s = s ++ l.map (fun y => y.a.c) := by
  intro l
  induction l with
  | nil => intro s; simp
  | cons x r ih => intro s; rw [List.foldl_cons, ih]; unfold lvF; simp
theorem run_lv : ∀ (l : List (Con × List Nat)) (s : List Int), (run (atLeaf lvF) s l).1.length ≤ s.length + l.length := by
  intro l
  induction l with
  | nil => intro s; simp [run]
  | cons x r ih =>
    obtain ⟨c, w⟩ := x
    intro s
    have e : atLeaf lvF s c w = ((if c.a.k = 0 then lvF s c else s), false) := rfl
    simp only [run, e, Bool.false_eq_true, if_false, List.length_cons]
    have h := ih (if c.a.k = 0 then lvF s c else s)
    have : (if c.a.k = 0 then lvF s c else s).length ≤ s.length + 1 := by
      split
      · unfold lvF; simp
      · omega
    omega
set_option maxHeartbeats 1000000 in
theorem Leaves_c (x : Con) (sv : Value) (w : World) (hK : KV w (fun b => b < w.heap.size) x.ks sv) (hw : x.a.wide) (hd : ht x ≤ 1000000) (hn5 : (pre x []).length ≤ 900) :
    Calls Try.prog 27 #[conV x.a sv] w fun e w' => Below w.heap.size w w' ∧ ∃ v, e = .returned v ∧ w'.ownsRow w.heap.size 3 1 v (leavesI x).length ((leavesI x).map (Value.int .i64)) := by
  obtain ⟨p, cap, rfl, hl⟩ := hK.slice
  obtain ⟨n, hn⟩ : ∃ n, n = x.ks.length := ⟨_, rfl⟩
  rw [← hn] at hK ⊢
  obtain ⟨R, hR⟩ : ∃ R, R = fun (e : Ending) (w' : World) => Below w.heap.size w w' ∧ ∃ v, e = .returned v ∧ w'.ownsRow w.heap.size 3 1 v (leavesI x).length ((leavesI x).map (Value.int .i64)) := ⟨_, rfl⟩
  have hRe : ∀ e w', R e w' ↔ (Below w.heap.size w w' ∧ ∃ v, e = .returned v ∧ w'.ownsRow w.heap.size 3 1 v (leavesI x).length ((leavesI x).map (Value.int .i64))) := by rw [hR]; exact fun _ _ => Iff.rfl
  rw [← hR]
  have HR := Lib.hid hRe
  obtain ⟨wB, hwB⟩ : ∃ wB, wB = (w.alloc (.cells #[.int .i64 x.a.k, .int .i64 x.a.w, .int .i64 x.a.c, .int .i64 x.a.s, .slice p n cap] 24)).alloc (.cells #[.slice none 0 0] 34) := ⟨_, rfl⟩
  have hb0 : Below w.heap.size w wB := by rw [hwB]; exact ((Below.refl _ _).alloc (Nat.le_refl _) _).alloc (by simp) _
  have hq : Blk wB (w.heap.size + 1) 34 #[.slice none 0 0] := by
    rw [hwB]; have := Blk.new (w.alloc (.cells #[.int .i64 x.a.k, .int .i64 x.a.w, .int .i64 x.a.c, .int .i64 x.a.s, .slice p n cap] 24)) 34 #[.slice none 0 0]; rwa [World.size_alloc] at this
  have hre : Reach (atLeaf lvF) (fun s => s.length ≤ 1000) [] (pre x []) := fun l1 l2 e _ => by
    have h1 := run_lv l1 []
    have h2 := hn5
    rw [e, List.length_append] at h2
    simp only [List.length_nil] at h1
    show _ ≤ 1000
    omega
  have HE := Lib.hid (eachLeaf_c (fun b => b < w.heap.size) (fun s => s.length ≤ 1000) 63 #[.pointer (some ⟨w.heap.size + 1, 0, none⟩)] lvF (Jv (w.heap.size + 1)) (jok_v _) enters_leaves (vis_leaves _ _) x [] (fun b => b = w.heap.size + 1) wB (.slice p n cap)
    hre ⟨none, 0, hq, World.ownsRow_nil _ _ _ _, by simp [Value.ownBlock], fun b => by simp [Value.ownBlock]⟩ (hK.next hb0) hw (fun b h => ⟨by omega, Nat.lt_of_lt_of_le h hb0.size⟩) hd)
  have hI : leavesI x = (if treeB x = true then (all x).foldl lvF [] else []) := by unfold leavesI; rw [fold_lv]; simp
  obtain ⟨r, hr⟩ : ∃ r, r = (if treeB x = true then (all x).foldl lvF [] else []) := ⟨_, rfl⟩
  rw [← hr] at HE hI
  have HI := Lib.hid hI
  have HB := Lib.hid hb0
  have HWB := Lib.hid hwB
  clear hn hR hRe hK hw hd hl hI hr hb0 hq hwB hre
  go_enter Try.func27, Try.ntmps27
  go_wp2_with fail
  rw [← HWB.out]
  refine HE.out.mono ?_
  rintro e w1 ⟨rfl, F', ⟨pv, cc, hv, ho, hne, hf⟩, ht⟩
  have HT := Lib.hid (ht.below HB.out HB.out.size (fun i h => by omega))
  have HO : Hid (w1.ownsRow w.heap.size 3 1 (.slice pv r.length cc) r.length (r.map (Value.int .i64))) := by
    refine ⟨ho.1, ho.2.imp id ?_⟩
    rintro ⟨g, cap2, cur, hv2, -, h4⟩
    refine ⟨g, cap2, cur, hv2, ?_, h4⟩
    rcases ht.foot g ((hf g).2 (.inr (by rw [hv2]; rfl))) with h | h
    · omega
    · exact Nat.le_trans HB.out.size h
  have q2 := hv.at_ (i := 0) rfl
  clear hf ht hv HE ho hne
  go_wp2_with fail
  refine (HR.out _ _).2 ⟨HT.out, _, rfl, ?_⟩
  rw [HI.out]
  exact HO.out
end Go.Proofs.Ytjeabkcbaielhaa.Co
