import Derived.Test.YticfefiiiinadaaShK
namespace Go.Proofs.Yticfefiiiinadaa
open Go.RowKit Go.Lib Go.Sort Ieee

theorem frombits (n : Int) (w : World) : (callFunc 28 #[.int .u64 n]).run Try.prog w = .ok (.value (.float .f64 n.toNat)) w := by
  rw [run_callFunc_extern Try.func28 (by kernel_rfl) (by kernel_rfl) (by kernel_rfl) (show Extern.find Try.f28 = some Extern.MathFloatBits.float64frombits by kernel_rfl)]
  rfl
theorem inf_c (w : World) : Calls Try.prog 21 #[.int .i64 (-1)] w fun e w' => e = .returned (.float .f64 18442240474082181120) ∧ w = w' := by
  have hfb : ∀ w, (callFunc 28 #[.int .u64 18442240474082181120]).run Try.prog w = .ok (.value (.float .f64 18442240474082181120)) w := fun w => frombits _ w
  go_enter Try.func21, Try.ntmps21
  go_wp2
  all_goals (go_ret; exact ⟨rfl, rfl⟩)

theorem lit_SI (W : World) (l : List Int) (t : TypeId) : SI (W.alloc (.cells (l.map (Value.int .i64)).toArray t)) W.heap.size 0 l := by
  intro j hj
  rw [World.cell?_alloc_at _ _ _ _ rfl]
  simp [List.getD_eq_getElem?_getD, hj]
theorem lit_below (W : World) (o : Obj) : RowKit.Below W.heap.size W (W.alloc o) := (RowKit.Below.refl _ _).alloc (Nat.le_refl _) o

theorem split_lit (total : Int) (l r : List Int) (W : World) (hk : chk l = 0) (ht0 : 0 ≤ total) (ht1 : total ≤ 65536) (hn : l.length < 20) (hr : splitL total l = r) :
    Calls Try.prog 18 #[.int .i64 total, .slice (some ⟨W.heap.size, 0, none⟩) l.length l.length] (W.alloc (.cells (l.map (Value.int .i64)).toArray 3)) fun e w' => ∃ g c, e = .returned (.tuple #[.slice (some ⟨g, 0, none⟩) r.length c, .int .i64 0]) ∧ Hid (RowKit.Below W.heap.size W w' ∧ W.heap.size ≤ g ∧ g < w'.heap.size ∧ SI w' g 0 r) := by
  refine (split_ok total W.heap.size 0 l.length l _ hk ht0 ht1 hn (by simp) (lit_SI W l _)).mono ?_
  rintro e w' ⟨v, rfl, h1, h2⟩
  have hl := splitL_length total l
  rw [hr] at h2 hl
  have h0 := (chk_zero hk).1
  obtain ⟨g, c, rfl, h3, h4, h5, _⟩ := h2.form (by intro h; rw [h] at hl; simp at hl; omega)
  refine ⟨g, c, rfl, (lit_below W _).trans (h1.mono (by simp)), ?_, h4, h5⟩
  simp at h3; omega

theorem grow_lit (l r : List Int) (k y : Nat) (W : World) (hk : chk l = 0) (hkn : k < l.length) (hr : growL l k y = r) :
    Calls Try.prog 13 #[.slice (some ⟨W.heap.size, 0, none⟩) l.length l.length, .int .i64 k, .float .f64 y] (W.alloc (.cells (l.map (Value.int .i64)).toArray 3)) fun e w' => ∃ g c, e = .returned (.tuple #[.slice (some ⟨g, 0, none⟩) r.length c, .int .i64 0]) ∧ Hid (RowKit.Below W.heap.size W w' ∧ W.heap.size ≤ g ∧ g < w'.heap.size ∧ SI w' g 0 r) := by
  refine (grow_ok W.heap.size 0 l.length l k y _ hk hkn (by simp) (lit_SI W l _)).mono ?_
  rintro e w' ⟨v, rfl, h1, h2⟩
  have hl := growL_length l k y
  rw [hr] at h2 hl
  have h0 := (chk_zero hk).1
  obtain ⟨g, c, rfl, h3, h4, h5, _⟩ := h2.form (by intro h; rw [h] at hl; simp at hl; omega)
  refine ⟨g, c, rfl, (lit_below W _).trans (h1.mono (by simp)), ?_, h4, h5⟩
  simp at h3; omega

theorem ints_lit (l : List Int) (b c : Nat) (W : World) (hn : l.length ≤ 64) (hb : b < W.heap.size) (h : SI W b 0 l) :
    Calls Try.prog 15 #[.slice (some ⟨b, 0, none⟩) l.length c, .slice (some ⟨W.heap.size, 0, none⟩) l.length l.length] (W.alloc (.cells (l.map (Value.int .i64)).toArray 3)) fun e w' => e = .returned (.bool true) ∧ RowKit.Below W.heap.size W w' := by
  refine (ints_c b 0 c W.heap.size 0 l.length l l _ hn (SI.below h (lit_below W _) hb) (lit_SI W l _)).mono ?_
  rintro e w' ⟨rfl, h1⟩
  exact ⟨by rw [decide_eq_true rfl], (lit_below W _).trans (h1.mono (by simp))⟩

theorem ex1 : splitL 10 [1, 1, 1] = [4, 3, 3] := by decide +kernel
theorem ex2 : splitL 7 [2, 1] = [5, 2] := by decide +kernel
theorem ex3 : growL [65536] 0 18442240474082181120 = [1] := by decide +kernel
theorem ex4 : wt 4602678819172646912 = 32768 := by decide +kernel

set_option maxHeartbeats 4000000 in
set_option maxRecDepth 100000 in
theorem awake_c (w : World) : Calls Try.prog 12 #[] w fun e w' => e = .returned (.bool true) ∧ RowKit.Below w.heap.size w w' := by
  have c1 : ∀ W : World, Calls Try.prog 18 #[.int .i64 10, .slice (some ⟨W.heap.size, 0, none⟩) 3 3] (W.alloc (.cells #[.int .i64 1, .int .i64 1, .int .i64 1] 3)) fun e w' => ∃ g c, e = .returned (.tuple #[.slice (some ⟨g, 0, none⟩) 3 c, .int .i64 0]) ∧ Hid (RowKit.Below W.heap.size W w' ∧ W.heap.size ≤ g ∧ g < w'.heap.size ∧ SI w' g 0 [4, 3, 3]) :=
    fun W => split_lit 10 [1, 1, 1] [4, 3, 3] W (by decide) (by omega) (by omega) (by decide) ex1
  have c2 : ∀ W : World, Calls Try.prog 18 #[.int .i64 7, .slice (some ⟨W.heap.size, 0, none⟩) 2 2] (W.alloc (.cells #[.int .i64 2, .int .i64 1] 3)) fun e w' => ∃ g c, e = .returned (.tuple #[.slice (some ⟨g, 0, none⟩) 2 c, .int .i64 0]) ∧ Hid (RowKit.Below W.heap.size W w' ∧ W.heap.size ≤ g ∧ g < w'.heap.size ∧ SI w' g 0 [5, 2]) :=
    fun W => split_lit 7 [2, 1] [5, 2] W (by decide) (by omega) (by omega) (by decide) ex2
  have c3 : ∀ W : World, Calls Try.prog 13 #[.slice (some ⟨W.heap.size, 0, none⟩) 1 1, .int .i64 0, .float .f64 18442240474082181120] (W.alloc (.cells #[.int .i64 65536] 3)) fun e w' => ∃ g c, e = .returned (.tuple #[.slice (some ⟨g, 0, none⟩) 1 c, .int .i64 0]) ∧ Hid (RowKit.Below W.heap.size W w' ∧ W.heap.size ≤ g ∧ g < w'.heap.size ∧ SI w' g 0 [1]) :=
    fun W => grow_lit [65536] [1] 0 18442240474082181120 W (by decide) (by decide) ex3
  have i1 : ∀ (b c : Nat) (W : World), b < W.heap.size → SI W b 0 [4, 3, 3] → Calls Try.prog 15 #[.slice (some ⟨b, 0, none⟩) 3 c, .slice (some ⟨W.heap.size, 0, none⟩) 3 3] (W.alloc (.cells #[.int .i64 4, .int .i64 3, .int .i64 3] 3)) fun e w' => e = .returned (.bool true) ∧ RowKit.Below W.heap.size W w' :=
    fun b c W hb h => ints_lit [4, 3, 3] b c W (by decide) hb h
  have i2 : ∀ (b c : Nat) (W : World), b < W.heap.size → SI W b 0 [5, 2] → Calls Try.prog 15 #[.slice (some ⟨b, 0, none⟩) 2 c, .slice (some ⟨W.heap.size, 0, none⟩) 2 2] (W.alloc (.cells #[.int .i64 5, .int .i64 2] 3)) fun e w' => e = .returned (.bool true) ∧ RowKit.Below W.heap.size W w' :=
    fun b c W hb h => ints_lit [5, 2] b c W (by decide) hb h
  have i3 : ∀ (b c : Nat) (W : World), b < W.heap.size → SI W b 0 [1] → Calls Try.prog 15 #[.slice (some ⟨b, 0, none⟩) 1 c, .slice (some ⟨W.heap.size, 0, none⟩) 1 1] (W.alloc (.cells #[.int .i64 1] 3)) fun e w' => e = .returned (.bool true) ∧ RowKit.Below W.heap.size W w' :=
    fun b c W hb h => ints_lit [1] b c W (by decide) hb h
  have cw := weight_c 4602678819172646912
  rw [ex4] at cw
  go_enter Try.func12, Try.ntmps12
  go_wp2_with (first
    | (go_at_call 18; with_reducible refine (c1 _).mono ?_; rintro e w1 ⟨g1, k1, rfl, hA⟩)
    | (go_at_call 18; with_reducible refine (c2 _).mono ?_; rintro e w2 ⟨g2, k2, rfl, hB⟩)
    | (go_at_call 21; refine (inf_c _).mono ?_; rintro e w3 ⟨rfl, rfl⟩)
    | (go_at_call 13; with_reducible refine (c3 _).mono ?_; rintro e w3 ⟨g3, k3, rfl, hC⟩)
    | (go_at_call 8; refine (cw _).mono ?_; rintro e w7 ⟨rfl, rfl⟩)
    | (go_at_call 15; with_reducible refine (i1 _ _ _ ?_ ?_).mono ?_
       · have a2 := hA.out; have b2 := hB.out; have d2 := hC.out; have q1 := b2.1.size; have q2 := d2.1.size; omega
       · have a2 := hA.out; have b2 := hB.out; have d2 := hC.out; have q1 := b2.1.size
         exact SI.below (SI.below a2.2.2.2 b2.1 a2.2.2.1) d2.1 (by omega)
       rintro e w4 ⟨rfl, hI⟩)
    | (go_at_call 15; with_reducible refine (i2 _ _ _ ?_ ?_).mono ?_
       · have b2 := hB.out; have d2 := hC.out; have q1 := d2.1.size; have q2 := hI.size; omega
       · have b2 := hB.out; have d2 := hC.out; have q2 := d2.1.size
         exact SI.below (SI.below b2.2.2.2 d2.1 b2.2.2.1) hI (by omega)
       rintro e w5 ⟨rfl, hJ⟩)
    | (go_at_call 15; with_reducible refine (i3 _ _ _ ?_ ?_).mono ?_
       · have d2 := hC.out; have q1 := hI.size; have q2 := hJ.size; omega
       · have d2 := hC.out; have q1 := hI.size
         exact SI.below (SI.below d2.2.2.2 hI d2.2.2.1) hJ (by omega)
       rintro e w6 ⟨rfl, hK⟩))
  go_ret
  have a2 := hA.out
  have b2 := hB.out
  have d2 := hC.out
  have q0 := a2.1.size
  have q1 := b2.1.size
  have q2 := d2.1.size
  have q3 := hI.size
  have q4 := hJ.size
  exact ⟨rfl, ((((a2.1.trans (b2.1.mono q0)).trans (d2.1.mono (by omega))).trans (hI.mono (by omega))).trans (hJ.mono (by omega))).trans (hK.mono (by omega))⟩
end Go.Proofs.Yticfefiiiinadaa
