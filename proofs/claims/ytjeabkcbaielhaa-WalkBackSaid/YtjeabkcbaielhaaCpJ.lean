/- cons.Top. -/
import Derived.Test.YtjeabkcbaielhaaCpI
import Derived.Test.YtjeabkcbaielhaaCoW
namespace Go.Proofs.Ytjeabkcbaielhaa.Co
open Go.RowKit Go.Shelf
/-- The leaf that was seen last: its client, when it was seen. -/
def topF (s : Int × Int) (x : Con) : Int × Int := if s.2 < x.a.s then (x.a.c, x.a.s) else s
def topI (x : Con) : Int := if treeB x = true then ((all x).foldl topF (0, -1)).1 else 0
/-- The variable of the closure. -/
structure Jt (tv : Nat) (s : Int × Int) (F : Nat → Prop) (w : World) : Prop where
  foot : ∀ b, F b ↔ b = tv
  var : ∃ k wt p n c, Blk w tv 24 #[.int .i64 k, .int .i64 wt, .int .i64 s.1, .int .i64 s.2, .slice p n c]
theorem jok_t (tv : Nat) : Jok (Jt tv) where
  next := fun _ _ _ _ ⟨h1, k, wt, p, n, c, h2⟩ hb => ⟨h1, k, wt, p, n, c, h2.next hb⟩
  lt := fun _ _ _ ⟨h1, _, _, _, _, _, h2⟩ b hf => (h1 b).1 hf ▸ h2.lt
  far := fun _ _ _ r _ v ⟨h1, k, wt, p, n, c, h2⟩ hr _ => ⟨h1, k, wt, p, n, c, h2.far (fun e => hr ((h1 r).2 e.symm)) v⟩
theorem enters_top : ∀ args w, (callFunc 64 args).run Try.prog w = .ok (.enter 64 args) w := enters_of Try.func64 (by kernel_rfl) rfl
set_option maxHeartbeats 1000000 in
theorem vis_top (Z : Nat → Prop) (tv : Nat) : LVis Z (fun _ => True) 64 #[.pointer (some ⟨tv, 0, none⟩)] topF (Jt tv) := by
  intro s F w x sv hg hs hK hw hZ
  obtain ⟨p, cap, rfl, hl⟩ := hK.slice
  obtain ⟨n, hn⟩ : ∃ n, n = x.ks.length := ⟨_, rfl⟩
  rw [← hn]
  obtain ⟨R, hR⟩ : ∃ R, R = fun (e : Ending) (w' : World) => e = .returned (.tuple #[]) ∧ ∃ F', Jt tv (topF s x) F' w' ∧ Turn F F' w w' := ⟨_, rfl⟩
  have hRe : ∀ e w', R e w' ↔ (e = .returned (.tuple #[]) ∧ ∃ F', Jt tv (topF s x) F' w' ∧ Turn F F' w w') := by rw [hR]; exact fun _ _ => Iff.rfl
  rw [← hR]
  have HR := Lib.hid hRe
  obtain ⟨hf, k, wt, p0, n0, c0, hb⟩ := hs
  have hb0 := (Below.refl w.heap.size w).alloc (Nat.le_refl _) (.cells #[.int .i64 x.a.k, .int .i64 x.a.w, .int .i64 x.a.c, .int .i64 x.a.s, .slice p n cap] 24)
  have hq := Blk.new w 24 #[.int .i64 x.a.k, .int .i64 x.a.w, .int .i64 x.a.c, .int .i64 x.a.s, .slice p n cap]
  have HTV : Hid (tv < w.heap.size) := hb.lt
  have HBV := Lib.hid (hb.next hb0)
  have HB := Lib.hid hb0
  have HF := Lib.hid hf
  obtain ⟨⟨r0, r1, r2, r3, r4⟩, f0, f1, f2, f3, f4⟩ := c5 (hb.next hb0)
  clear hn hR hRe hg hK hw hZ hl hf hb hb0
  show Calls Try.prog 64 #[.agg #[.int .i64 x.a.k, .int .i64 x.a.w, .int .i64 x.a.c, .int .i64 x.a.s, .slice p n cap], .pointer (some ⟨tv, 0, none⟩)] w R
  by_cases hlt : s.2 < x.a.s
  · have HI : Hid (topF s x = (x.a.c, x.a.s)) := by unfold topF; exact if_pos hlt
    go_enter Try.func64, Try.ntmps64
    go_wp2_with fail
    go_end0
    refine (HR.out _ _).2 ⟨rfl, F, ?_, ?_⟩
    · rw [HI.out]
      exact ⟨HF.out, _, _, _, _, _, blk_st5 HBV.out (.int .i64 x.a.k) (.int .i64 x.a.w) (.int .i64 x.a.c) (.int .i64 x.a.s) (.slice p n cap)⟩
    · have h := below_st5 (g := tv) (HB.out.mono (Nat.le_of_lt HTV.out)) (Nat.le_refl _) (.int .i64 x.a.k) (.int .i64 x.a.w) (.int .i64 x.a.c) (.int .i64 x.a.s) (.slice p n cap)
      exact ⟨h.os, h.tape, h.output, h.size, fun i hi hn => (far_st5 _ tv (.int .i64 x.a.k) (.int .i64 x.a.w) (.int .i64 x.a.c) (.int .i64 x.a.s) (.slice p n cap) i (fun e => hn ((HF.out i).2 e))).trans (HB.out.block i hi), fun _ h => .inl h⟩
  · have HI : Hid (topF s x = s) := by unfold topF; exact if_neg hlt
    go_enter Try.func64, Try.ntmps64
    go_wp2_with fail
    go_end0
    refine (HR.out _ _).2 ⟨rfl, F, ?_, Turn.of_below HB.out⟩
    rw [HI.out]
    exact ⟨HF.out, _, _, _, _, _, HBV.out⟩
set_option maxHeartbeats 1000000 in
theorem Top_c (x : Con) (sv : Value) (w : World) (hK : KV w (fun b => b < w.heap.size) x.ks sv) (hw : x.a.wide) (hd : ht x ≤ 1000000) :
    Calls Try.prog 29 #[conV x.a sv] w fun e w' => e = .returned (.int .i64 (topI x)) ∧ Below w.heap.size w w' := by
  obtain ⟨p, cap, rfl, hl⟩ := hK.slice
  obtain ⟨n, hn⟩ : ∃ n, n = x.ks.length := ⟨_, rfl⟩
  rw [← hn] at hK ⊢
  obtain ⟨R, hR⟩ : ∃ R, R = fun (e : Ending) (w' : World) => e = .returned (.int .i64 (topI x)) ∧ Below w.heap.size w w' := ⟨_, rfl⟩
  have hRe : ∀ e w', R e w' ↔ (e = .returned (.int .i64 (topI x)) ∧ Below w.heap.size w w') := by rw [hR]; exact fun _ _ => Iff.rfl
  rw [← hR]
  have HR := Lib.hid hRe
  obtain ⟨wB, hwB⟩ : ∃ wB, wB = (w.alloc (.cells #[.int .i64 x.a.k, .int .i64 x.a.w, .int .i64 x.a.c, .int .i64 x.a.s, .slice p n cap] 24)).alloc (.cells #[.int .i64 0, .int .i64 0, .int .i64 0, .int .i64 (-1), .slice none 0 0] 24) := ⟨_, rfl⟩
  have hb0 : Below w.heap.size w wB := by rw [hwB]; exact ((Below.refl _ _).alloc (Nat.le_refl _) _).alloc (by simp) _
  have hq : Blk wB (w.heap.size + 1) 24 #[.int .i64 0, .int .i64 0, .int .i64 0, .int .i64 (-1), .slice none 0 0] := by
    rw [hwB]; have := Blk.new (w.alloc (.cells #[.int .i64 x.a.k, .int .i64 x.a.w, .int .i64 x.a.c, .int .i64 x.a.s, .slice p n cap] 24)) 24 #[.int .i64 0, .int .i64 0, .int .i64 0, .int .i64 (-1), .slice none 0 0]; rwa [World.size_alloc] at this
  have HE := Lib.hid (eachLeaf_c (fun b => b < w.heap.size) (fun _ => True) 64 #[.pointer (some ⟨w.heap.size + 1, 0, none⟩)] topF (Jt (w.heap.size + 1)) (jok_t _) enters_top (vis_top _ _) x (0, -1) (fun b => b = w.heap.size + 1) wB (.slice p n cap)
    (fun _ _ _ _ => trivial) ⟨fun _ => Iff.rfl, _, _, _, _, _, hq⟩ (hK.next hb0) hw (fun b h => ⟨by omega, Nat.lt_of_lt_of_le h hb0.size⟩) hd)
  have hI : topI x = (if treeB x = true then (all x).foldl topF (0, -1) else (0, -1)).1 := by unfold topI; cases treeB x <;> rfl
  obtain ⟨r, hr⟩ : ∃ r, r = (if treeB x = true then (all x).foldl topF (0, -1) else (0, -1)) := ⟨_, rfl⟩
  rw [← hr] at HE hI
  have HI := Lib.hid hI
  have HB := Lib.hid hb0
  have HWB := Lib.hid hwB
  clear hn hR hRe hK hw hd hl hI hr hb0 hq hwB
  go_enter Try.func29, Try.ntmps29
  go_wp2_with fail
  rw [← HWB.out]
  refine HE.out.mono ?_
  rintro e w1 ⟨rfl, F', ⟨hf, k, wt, p0, n0, c0, hv⟩, ht⟩
  have HT := Lib.hid (ht.below HB.out HB.out.size (fun i h => by omega))
  have q2 := hv.at_ (i := 2) rfl
  clear hf ht hv HE
  go_wp2_with fail
  refine (HR.out _ _).2 ⟨?_, HT.out⟩
  rw [HI.out]
  rfl
end Go.Proofs.Ytjeabkcbaielhaa.Co
