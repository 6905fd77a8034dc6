import Derived.Test.YtedhgdjlcddchaaRaB
import Derived.Test.YtedhgdjlcddchaaGeoD
import Derived.Test.YtedhgdjlcddchaaPlainB
import Derived.Test.YtedhgdjlcddchaaMem
import Derived.Test.YtedhgdjlcddchaaRaP
import Derived.Deep.RegionHeld3
namespace Go.Proofs.Ytedhgdjlcddchaa
open Go.RowKit
theorem index_c (a b x y : Int) (s : Value) (w : World) (h1 : 0 ≤ y * a) (h2 : y * a ≤ 1073741824) (h3 : 0 ≤ x) (h4 : x ≤ 1073741824) :
    Calls Try.prog 120 #[.agg #[.int .i64 a, .int .i64 b, s], .agg #[.int .i64 x, .int .i64 y]] w fun e w' => e = .returned (.int .i64 (y * a + x)) ∧ Below w.heap.size w w' := by
  go_enter Try.func120, Try.ntmps120
  go_wp2
  go_ret
  exact ⟨rfl, by repeat' (first | (with_reducible exact Below.refl _ _) | (with_reducible assumption) | (with_reducible refine Below.alloc ?_ ?_ _) | (with_reducible refine Below.drew ?_) | (with_reducible refine Below.setCell ?_ ?_ _) | (with_reducible refine Below.on (by with_reducible assumption) ?_ ?_) | go_size)⟩
theorem sized_c (a b x y : Int) (s : Value) (w : World) :
    Calls Try.prog 91 #[.agg #[.int .i64 a, .int .i64 b, s], .agg #[.int .i64 x, .int .i64 y]] w fun e w' => e = .returned (.agg #[.int .i64 x, .int .i64 y, .int .i64 a, .int .i64 b]) ∧ Below w.heap.size w w' := by
  go_enter Try.func91, Try.ntmps91
  go_wp2
  refine bodyPost_ret (by simp [results, Try.results91, go_sem]; try rfl) rfl ?_
  exact ⟨rfl, by repeat' (first | (with_reducible exact Below.refl _ _) | (with_reducible assumption) | (with_reducible refine Below.alloc ?_ ?_ _) | (with_reducible refine Below.drew ?_) | (with_reducible refine Below.setCell ?_ ?_ _) | (with_reducible refine Below.on (by with_reducible assumption) ?_ ?_) | go_size)⟩
theorem mayBe_c (n : Int) (w : World) : Calls Try.prog 62 #[.int .i64 n] w fun e w' => e = .returned (.bool (decide (0 ≤ n ∧ n ≤ 1024))) ∧ w = w' := by
  by_cases h : 0 ≤ n
  · go_enter Try.func62, Try.ntmps62
    go_wp2
    all_goals (go_ret; exact ⟨ret_bool (by rw [Bool.eq_iff_iff]; simp; omega), rfl⟩)
  · go_enter Try.func62, Try.ntmps62
    go_wp2
    all_goals (go_ret; exact ⟨ret_bool (by rw [Bool.eq_iff_iff]; simp; omega), rfl⟩)
theorem all_c (g : Nat) (a b : Int) (s : Value) (c0 c1 c2 c3 : Value) (w : World) (hB : Blk w g 89 #[.int .i64 a, .int .i64 b, s, c0, c1, c2, c3]) :
    Calls Try.prog 64 #[.pointer (some ⟨g, 0, none⟩)] w fun e w' => e = .returned (.agg #[.int .i64 0, .int .i64 0, .int .i64 a, .int .i64 b]) ∧ Below w.heap.size w w' := by
  have g0 := hB.at_ (i := 0) rfl
  have g1 := hB.at_ (i := 1) rfl
  have g2 := hB.at_ (i := 2) rfl
  have hl := hB.lt
  clear hB
  go_enter Try.func64, Try.ntmps64
  go_wp2_with (go_at_call 91; refine (sized_c _ _ _ _ _ _).mono ?_; rintro e w1 ⟨rfl, hb⟩; have R := (Blk.new w _ _).next hb; have r0 := R.at_ (i := 0) rfl; have r1 := R.at_ (i := 1) rfl; have r2 := R.at_ (i := 2) rfl; have r3 := R.at_ (i := 3) rfl; have q0 := R.frozen 0; have q1 := R.frozen 1; have q2 := R.frozen 2; have q3 := R.frozen 3; clear R)
  refine bodyPost_ret (by simp [results, Try.results64, go_sem, *]; try rfl) rfl ?_
  exact ⟨rfl, by repeat' (first | (with_reducible exact Below.refl _ _) | (with_reducible assumption) | (with_reducible refine Below.alloc ?_ ?_ _) | (with_reducible refine Below.drew ?_) | (with_reducible refine Below.setCell ?_ ?_ _) | (with_reducible refine Below.on (by with_reducible assumption) ?_ ?_) | go_size)⟩
def colA (pix : List Int) : Array Value := (pix.map (Value.int .u32)).toArray
theorem colA_get (pix : List Int) (i : Nat) : (colA pix)[i]? = pix[i]?.map (Value.int .u32) := by unfold colA; simp
theorem colA_set (pix : List Int) (i : Nat) (u : Int) : (colA pix).setIfInBounds i (.int .u32 u) = colA (pix.set i u) := by unfold colA; simp [List.map_set]
def canC (A : Option Nat) (W H : Nat) (c : Rc) : Array Value := #[.int .i64 W, .int .i64 H, .slice (A.map fun b => ⟨b, 0, none⟩) (W * H) (W * H), .int .i64 c.x, .int .i64 c.y, .int .i64 c.w, .int .i64 c.h]
/-- A canvas: its block g, its picture's block A. -/
def Canv (w : World) (g : Nat) (A : Option Nat) (W H : Nat) (c : Rc) (pix : List Int) : Prop :=
  Blk w g 89 (canC A W H c) ∧ (∀ b, A = some b → Blk w b 50 (colA pix)) ∧ (A = none → W * H = 0) ∧ pix.length = W * H ∧ Cols pix ∧ W ≤ 1024 ∧ H ≤ 1024 ∧
    ∀ x y, hasB c.x c.y c.w c.h x y = true → 0 ≤ x ∧ x < W ∧ 0 ≤ y ∧ y < H
section
variable {w w' : World} {g : Nat} {A : Option Nat} {W H : Nat} {c : Rc} {pix : List Int}
theorem Canv.next (h : Canv w g A W H c pix) (hb : Below w.heap.size w w') : Canv w' g A W H c pix :=
  ⟨h.1.next hb, fun b hA => (h.2.1 b hA).next hb, h.2.2⟩
theorem Canv.drew (h : Canv w g A W H c pix) : Canv w.drew g A W H c pix := h
theorem Canv.alloc (h : Canv w g A W H c pix) (o : Obj) : Canv (w.alloc o) g A W H c pix := ⟨h.1.alloc o, fun b hA => (h.2.1 b hA).alloc o, h.2.2⟩
theorem Canv.lt (h : Canv w g A W H c pix) : g < w.heap.size := h.1.lt
theorem Canv.ne (h : Canv w g A W H c pix) {b : Nat} (hA : A = some b) : g ≠ b := h.1.ne_ (h.2.1 b hA) (by decide)
theorem Canv.set {b : Nat} (h : Canv w g (some b) W H c pix) (i : Nat) (u : Int) (hu : 0 ≤ u ∧ u < 4294967296) : Canv (w.setCell ⟨b, i, none⟩ (.int .u32 u)) g (some b) W H c (pix.set i u) := by
  obtain ⟨h1, h2, h3, h4, h5, h6⟩ := h
  refine ⟨h1.far (h1.ne_ (h2 b rfl) (by decide)) _, fun b' hb => ?_, h3, by rw [List.length_set]; exact h4, ?_, h6⟩
  · injection hb with hb; subst hb
    rw [← colA_set]; exact (h2 b rfl).set_ i _
  · intro v hv
    rcases List.mem_or_eq_of_mem_set hv with hv | rfl
    · exact h5 v hv
    · exact hu
theorem Canv.to {pix' : List Int} (h : Canv w g A W H c pix) (e : pix = pix') : Canv w g A W H c pix' := e ▸ h
end
theorem index_n (W H i x y : Nat) (s : Value) (w : World) (hi : i = y * W + x) (h1 : y ≤ 1024) (h2 : W ≤ 1024) (h3 : x ≤ 1024) :
    Calls Try.prog 120 #[.agg #[.int .i64 W, .int .i64 H, s], .agg #[.int .i64 x, .int .i64 y]] w fun e w' => e = .returned (.int .i64 i) ∧ Below w.heap.size w w' := by
  have hb : y * W ≤ 1024 * 1024 := Nat.mul_le_mul h1 h2
  have e : (y : Int) * (W : Int) = ((y * W : Nat) : Int) := by rw [Int.natCast_mul]
  refine (index_c W H x y s w (by rw [e]; omega) (by rw [e]; omega) (by omega) (by omega)).mono fun e w' h => ⟨?_, h.2⟩
  rw [h.1, hi]; apply ret_int; rw [Int.natCast_add, Int.natCast_mul]
end Go.Proofs.Ytedhgdjlcddchaa
