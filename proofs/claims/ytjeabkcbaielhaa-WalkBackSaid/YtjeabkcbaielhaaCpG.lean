/- The leaves of a tree: cons.eachLeaf, cons.Leaves. -/
import Derived.Test.YtjeabkcbaielhaaCoR
namespace Go.Proofs.Ytjeabkcbaielhaa.Co
open Go.RowKit Go.Shelf
section
variable {σ : Type}
/-- A step at each leaf. -/
def atLeaf (f : σ → Con → σ) (s : σ) (t : Con) (_ : List Nat) : σ × Bool := (if t.a.k = 0 then f s t else s, false)
theorem run_leaf (f : σ → Con → σ) : ∀ (t : Con) (w : List Nat) (s : σ), shape t w.length = true → run (atLeaf f) s (pre t w) = ((all t).foldl f s, false) := by
  intro t
  induction t using Tr.ind with
  | h a ks ih =>
    intro w s h
    have hL : ∀ (l : List Con), (∀ x ∈ l, x ∈ ks) → ∀ (i : Nat) (s : σ), shapeL l (w.length + 1) = true → run (atLeaf f) s (preL l w i) = ((allL l).foldl f s, false) := by
      intro l
      induction l with
      | nil => intro _ i s _; rfl
      | cons x r ihr =>
        intro hm i s h
        simp only [shapeL, Bool.and_eq_true] at h
        have hx := ih x (hm x (by simp)) (w ++ [i]) s (by rw [List.length_append, List.length_singleton]; exact h.1)
        simp only [preL, allL, run_append, hx, List.foldl_append, Bool.false_eq_true, if_false]
        exact ihr (fun y hy => hm y (by simp [hy])) (i + 1) _ h.2
    simp only [shape, Bool.and_eq_true] at h
    obtain ⟨h1, h2⟩ := h
    have h3 := hL ks (fun _ h => h) 0
    by_cases hk : a.k = 0
    · have hks : ks = [] := by
        unfold soundB at h1
        split at h1
        · cases h1
        · simp [hk] at h1; exact h1.2.2.2
      subst hks
      have e : atLeaf f s (Tr.mk a []) w = (f s (Tr.mk a []), false) := by unfold atLeaf; rw [if_pos (show (Tr.mk a [] : Con).a.k = 0 from hk)]
      simp only [pre, preL, run, e, Bool.false_eq_true, if_false, all, hk, if_true, List.foldl_cons, List.foldl_nil]
    · have e : atLeaf f s (Tr.mk a ks) w = (s, false) := by unfold atLeaf; rw [if_neg (show ¬ (Tr.mk a ks : Con).a.k = 0 from hk)]
      simp only [pre, run, e, Bool.false_eq_true, if_false, all, hk]
      exact h3 s h2
/-- What a closure does at a leaf. -/
def LVis (Z : Nat → Prop) (G : σ → Prop) (g : Nat) (cb : Array Value) (f : σ → Con → σ) (J : σ → (Nat → Prop) → World → Prop) : Prop :=
  ∀ (s : σ) (F : Nat → Prop) (w : World) (x : Con) (sv : Value), G s → J s F w → KV w Z x.ks sv → x.a.wide → (∀ b, Z b → ¬ F b ∧ b < w.heap.size) →
    Calls Try.prog g (#[conV x.a sv] ++ cb) w fun e w' => e = .returned (.tuple #[]) ∧ ∃ F', J (f s x) F' w' ∧ Turn F F' w w'
/-- The closure's memory, and the variable that holds the closure. -/
def Jl (J : σ → (Nat → Prop) → World → Prop) (vb : Nat) (fv : Value) (s : σ) (F : Nat → Prop) (w : World) : Prop :=
  ∃ F0, J s F0 w ∧ (∀ b, F b ↔ F0 b ∨ b = vb) ∧ ¬ F0 vb ∧ Blk w vb 69 #[fv]
theorem jok_l {J : σ → (Nat → Prop) → World → Prop} (hJ : Jok J) (vb : Nat) (fv : Value) : Jok (Jl J vb fv) where
  next := fun s F w w' ⟨F0, h1, h2, h3, h4⟩ hb => ⟨F0, hJ.next _ _ _ _ h1 hb, h2, h3, h4.next hb⟩
  lt := fun s F w ⟨F0, h1, h2, h3, h4⟩ b hf => by
    rcases (h2 b).1 hf with h | h
    · exact hJ.lt _ _ _ h1 b h
    · exact h ▸ h4.lt
  far := fun s F w r u v ⟨F0, h1, h2, h3, h4⟩ hr hq => ⟨F0, hJ.far _ _ _ _ _ _ h1 (fun h => hr ((h2 r).2 (.inl h))) hq, h2, h3, h4.far (fun e => hr ((h2 r).2 (.inr e.symm))) v⟩
theorem enters_leaf : ∀ args w, (callFunc 98 args).run Try.prog w = .ok (.enter 98 args) w := enters_of Try.func98 (by kernel_rfl) rfl
set_option maxHeartbeats 1000000 in
theorem vis_leaf (Z : Nat → Prop) (G : σ → Prop) (g : Nat) (cb : Array Value) (f : σ → Con → σ) (J : σ → (Nat → Prop) → World → Prop) (hJ : Jok J) (eg : ∀ args w, (callFunc g args).run Try.prog w = .ok (.enter g args) w)
    (hV : LVis Z G g cb f J) (vb : Nat) : Vis Z G 98 #[.pointer (some ⟨vb, 0, none⟩)] (atLeaf f) .nilIface (Jl J vb (.func (.func g) #[] cb)) := by
  intro s F w x sv wv way hg hs hK hw hZ hWV hlw
  obtain ⟨F0, h1, h2, h3, h4⟩ := hs
  obtain ⟨p, cap, rfl, hl⟩ := hK.slice
  obtain ⟨q, c, rfl⟩ := hWV.slice
  have hb0 := (Below.refl w.heap.size w).alloc (Nat.le_refl _) (.cells #[.int .i64 x.a.k, .int .i64 x.a.w, .int .i64 x.a.c, .int .i64 x.a.s, .slice p x.ks.length cap] 24)
  have HV := Lib.hid (hV s F0 _ x (.slice p x.ks.length cap) hg (hJ.next _ _ _ _ h1 hb0) (hK.next hb0) hw (fun b h => ⟨fun hf => (hZ b h).1 ((h2 b).2 (.inl hf)), Nat.lt_of_lt_of_le (hZ b h).2 hb0.size⟩))
  have HJ1 := Lib.hid (hJ.next _ _ _ _ h1 hb0)
  have v0 := (h4.next hb0).at_ (i := 0) rfl
  have HQV := Lib.hid (h4.next hb0)
  have H2 := Lib.hid h2
  have H3 := Lib.hid h3
  have HB := Lib.hid hb0
  have HVB : Hid (vb < w.heap.size) := h4.lt
  obtain ⟨r, hr⟩ : ∃ r, r = atLeaf f s x way := ⟨_, rfl⟩
  have HR := Lib.hid hr
  rw [← hr]
  obtain ⟨n, hn⟩ : ∃ n, n = x.ks.length := ⟨_, rfl⟩
  rw [← hn] at HV v0 HB ⊢
  obtain ⟨nw, hnw⟩ : ∃ n, n = way.length := ⟨_, rfl⟩
  rw [← hnw]
  rw [← hn] at HJ1 HQV
  clear h1 h2 h3 h4 hK hw hZ hWV hl hb0 hr hn hnw hg hlw hJ hV
  show Calls Try.prog 98 #[.agg #[.int .i64 x.a.k, .int .i64 x.a.w, .int .i64 x.a.c, .int .i64 x.a.s, .slice p n cap], .slice q nw c, .pointer (some ⟨vb, 0, none⟩)] w _
  by_cases hk : x.a.k = 0
  · have HRR : Hid (r = (f s x, false)) := by rw [HR.out]; unfold atLeaf; rw [if_pos hk]; rfl
    have hke : (x.a.k == 0) = true := by simpa using hk
    clear hk
    go_enter Try.func98, Try.ntmps98
    go_wp2_with fail
    refine HV.out.mono ?_
    rintro e w1 ⟨rfl, F1, hj, ht⟩
    have HJ := Lib.hid hj
    have HT := Lib.hid ht
    clear hj ht HV
    go_wp2_with fail
    go_end0
    refine end_go (P := fun s => ∃ F', Jl J vb (.func (.func g) #[] cb) s F' w1 ∧ Turn F F' w w1) HRR.out ⟨fun b => F1 b ∨ b = vb, ⟨F1, HJ.out, fun b => Iff.rfl, fun h => ?_, HT.out.blk HQV.out H3.out⟩, ?_⟩
    · rcases HT.out.foot vb h with h1 | h1
      · exact H3.out h1
      · have := HVB.out; have := HB.out.size; omega
    · refine (Turn.of_below (F := F) HB.out).trans ⟨HT.out.os, HT.out.tape, HT.out.output, HT.out.size, fun i hi hn => HT.out.block i hi fun h => hn ((H2.out i).2 (.inl h)), fun i hi => ?_⟩
      rcases hi with hi | rfl
      · rcases HT.out.foot i hi with h | h
        · exact .inl ((H2.out i).2 (.inl h))
        · exact .inr h
      · exact .inl ((H2.out _).2 (.inr rfl))
  · have HRR : Hid (r = (s, false)) := by rw [HR.out]; unfold atLeaf; rw [if_neg hk]; rfl
    have hke : (x.a.k == 0) = false := by simpa using hk
    clear hk
    go_enter Try.func98, Try.ntmps98
    go_wp2_with fail
    go_end0
    exact end_go (P := fun s => ∃ F', Jl J vb (.func (.func g) #[] cb) s F' _ ∧ Turn F F' w _) HRR.out ⟨F, ⟨F0, HJ1.out, H2.out, H3.out, HQV.out⟩, Turn.of_below HB.out⟩
end
end Go.Proofs.Ytjeabkcbaielhaa.Co
