/- cons.eachLeaf whole, cons.Leaves. -/
import Derived.Test.YtjeabkcbaielhaaCpG
namespace Go.Proofs.Ytjeabkcbaielhaa.Co
open Go.RowKit Go.Shelf
section
variable {σ : Type}
/-- A number of steps at most. -/
theorem pre_len : ∀ (x : Con) (w : List Nat) (n : Int), nodesC x n ≤ 500 → ((pre x w).length : Int) + n ≤ nodesC x n := by
  intro x
  induction x using Tr.ind with
  | h a ks ih =>
    intro w n h
    have hL : ∀ (l : List Con), (∀ x ∈ l, x ∈ ks) → ∀ (i : Nat) (n : Int), nodesL l n ≤ 500 → ((preL l w i).length : Int) + n ≤ nodesL l n := by
      intro l
      induction l with
      | nil => intro _ i n _; simp [preL, nodesL]
      | cons y r ihr =>
        intro hm i n h
        simp only [nodesL] at h ⊢
        split at h
        · next hn =>
          rw [if_pos hn]
          simp only [preL, List.length_append]
          have h2 := ihr (fun z hz => hm z (by simp [hz])) (i + 1) (nodesC y n) h
          have h3 := ih y (hm y (by simp)) (w ++ [i]) n (by omega)
          omega
        · next hn => omega
    simp only [nodesC] at h
    have := hL ks (fun _ h => h) 0 (n + 1) h
    simp only [pre, nodesC, List.length_cons]; omega
set_option maxHeartbeats 1000000 in
theorem eachLeaf_c (Z : Nat → Prop) (G : σ → Prop) (g : Nat) (cb : Array Value) (f : σ → Con → σ) (J : σ → (Nat → Prop) → World → Prop) (hJ : Jok J) (eg : ∀ args w, (callFunc g args).run Try.prog w = .ok (.enter g args) w) (hV : LVis Z G g cb f J)
    (x : Con) (s : σ) (F : Nat → Prop) (w : World) (sv : Value) (hre : Reach (atLeaf f) G s (pre x [])) (hs : J s F w) (hK : KV w Z x.ks sv) (hw : x.a.wide) (hZ : ∀ b, Z b → ¬ F b ∧ b < w.heap.size) (hd : ht x ≤ 1000000) :
    Calls Try.prog 62 #[conV x.a sv, .func (.func g) #[] cb] w fun e w' => e = .returned (.tuple #[]) ∧ ∃ F', J (if treeB x = true then (all x).foldl f s else s) F' w' ∧ Turn F F' w w' := by
  obtain ⟨p, cap, rfl, hl⟩ := hK.slice
  obtain ⟨n, hn⟩ : ∃ n, n = x.ks.length := ⟨_, rfl⟩
  rw [← hn] at hK ⊢
  obtain ⟨wB, hwB⟩ : ∃ wB, wB = (w.alloc (.cells #[.int .i64 x.a.k, .int .i64 x.a.w, .int .i64 x.a.c, .int .i64 x.a.s, .slice p n cap] 24)).alloc (.cells #[.func (.func g) #[] cb] 69) := ⟨_, rfl⟩
  have hb0 : Below w.heap.size w wB := by rw [hwB]; exact ((Below.refl _ _).alloc (Nat.le_refl _) _).alloc (by simp) _
  have hq1 : Blk wB w.heap.size 24 #[.int .i64 x.a.k, .int .i64 x.a.w, .int .i64 x.a.c, .int .i64 x.a.s, .slice p n cap] := by rw [hwB]; exact (Blk.new _ _ _).alloc _
  have hq2 : Blk wB (w.heap.size + 1) 69 #[.func (.func g) #[] cb] := by
    rw [hwB]; have := Blk.new (w.alloc (.cells #[.int .i64 x.a.k, .int .i64 x.a.w, .int .i64 x.a.c, .int .i64 x.a.s, .slice p n cap] 24)) 69 #[.func (.func g) #[] cb]; rwa [World.size_alloc] at this
  have HC := Lib.hid (check_c Z x (.slice p n cap) wB (hK.next hb0) hw hd (fun b h => Nat.lt_of_lt_of_le (hZ b h).2 hb0.size))
  have hFv : ¬ F (w.heap.size + 1) := fun h => by have := hJ.lt _ _ _ hs _ h; omega
  have HB := Lib.hid hb0
  have HWB := Lib.hid hwB
  have HQ1 := Lib.hid hq1
  have HS := Lib.hid (hJ.next _ _ _ _ hs hb0)
  have HNX := Lib.hid hJ
  cases ht : treeB x
  · rw [show checkI x = 110 by unfold checkI; rw [ht]; rfl] at HC
    simp only [Bool.false_eq_true, if_false]
    clear hn hwB hb0 hq1 hq2 hs hK hw hZ hd hJ hV hre hl ht hFv
    go_enter Try.func62, Try.ntmps62
    go_wp2_with fail
    rw [← HWB.out]
    refine HC.out.mono ?_
    rintro e w1 ⟨rfl, hb⟩
    have HB1 := Lib.hid hb
    clear hb
    go_wp2_with fail
    refine ⟨rfl, _, results_none (by rfl) _ _ _, rfl, F, HNX.out.next _ _ _ _ HS.out HB1.out, Turn.of_below (HB.out.trans (HB1.out.mono HB.out.size))⟩
  · rw [show checkI x = 0 by unfold checkI; rw [ht]; rfl] at HC
    simp only [if_true]
    have hb1 : ∀ {w1 : World}, Below wB.heap.size wB w1 → Below w.heap.size w w1 := fun h => hb0.trans (h.mono hb0.size)
    have HE := Lib.hid (fun (w1 : World) (h : Below wB.heap.size wB w1) => each_c Z G 98 #[.pointer (some ⟨w.heap.size + 1, 0, none⟩)] (atLeaf f) .nilIface (Jl J (w.heap.size + 1) (.func (.func g) #[] cb)) (jok_l hJ _ _) enters_leaf (vis_leaf Z G g cb f J hJ eg hV _) x s (fun b => F b ∨ b = w.heap.size + 1) w1 (.slice p n cap) (.slice none 0 0) [] hre
      ⟨F, hJ.next _ _ _ _ hs (hb1 h), fun b => Iff.rfl, hFv, hq2.next h⟩ (hK.next (hb1 h)) hw (fun b hz => ⟨fun hf => by rcases hf with hf | hf; exact (hZ b hz).1 hf; have := (hZ b hz).2; omega, Nat.lt_of_lt_of_le (hZ b hz).2 (hb1 h).size⟩) (WV.nil _ _) (by simp; exact hd))
    rw [run_leaf f x [] s (by unfold treeB at ht; simp only [Bool.and_eq_true] at ht; exact ht.1.1)] at HE
    obtain ⟨r, hr⟩ : ∃ r, r = (all x).foldl f s := ⟨_, rfl⟩
    rw [← hr] at HE ⊢
    have HFv := Lib.hid hFv
    clear hn hwB hb0 hb1 hq1 hq2 hs hK hw hZ hd hJ hV hre hl ht hFv hr
    go_enter Try.func62, Try.ntmps62
    go_wp2_with fail
    rw [← HWB.out]
    refine HC.out.mono ?_
    rintro e w1 ⟨rfl, hb⟩
    have HB1 := Lib.hid hb
    have HQ := Lib.hid (HQ1.out.next hb)
    have S0 := And.intro (HQ.out.at_ (i := 0) rfl) (And.intro (HQ.out.at_ (i := 1) rfl) (And.intro (HQ.out.at_ (i := 2) rfl) (And.intro (HQ.out.at_ (i := 3) rfl) (HQ.out.at_ (i := 4) rfl))))
    obtain ⟨q0, q1, q2, q3, q4⟩ := S0
    clear hb
    go_wp2_with fail
    refine (HE.out w1 HB1.out).mono ?_
    rintro e w2 ⟨rfl, F', hj, ht⟩
    have HJ2 := Lib.hid hj
    have HT := Lib.hid ht
    have HB2 := Lib.hid (HB.out.trans (HB1.out.mono HB.out.size))
    clear hj ht HE
    obtain ⟨F0, h1, h2, h3, h4⟩ := HJ2.out
    have H1 := Lib.hid h1
    have H2 := Lib.hid h2
    clear h1 h2 h3 h4
    go_wp2_with fail
    go_end0
    refine ⟨rfl, F0, H1.out, HT.out.os.trans HB2.out.os, HT.out.tape.trans HB2.out.tape, HT.out.output.trans HB2.out.output, Nat.le_trans HB2.out.size HT.out.size, fun i hi hn => (HT.out.block i (Nat.lt_of_lt_of_le hi HB2.out.size) fun (hf : F i ∨ i = w.heap.size + 1) => ?_).trans (HB2.out.block i hi), fun i hi => ?_⟩
    · rcases hf with hf | hf
      · exact hn hf
      · omega
    · rcases HT.out.foot i ((H2.out i).2 (.inl hi)) with h | h
      · rcases h with h | h
        · exact .inl h
        · exact .inr (by omega)
      · exact .inr (Nat.le_trans HB2.out.size h)
end
end Go.Proofs.Ytjeabkcbaielhaa.Co
