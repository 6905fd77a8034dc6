/- The lengths of one way, in the code: some, near, has, quotients, within, newSide of hints. -/
import Derived.Test.YtfckgkbhphkhoaaSzC
import Derived.Test.YtfckgkbhphkhoaaMem
import Derived.Outline
namespace Go.Proofs.Ytfckgkbhphkhoaa
open Go.RowKit
namespace Sz

theorem bnext {B : Nat} {w0 w1 w2 : World} (h : Below B w0 w1) (k : Below w1.heap.size w1 w2) (hB : B ≤ w1.heap.size) : Below B w0 w2 := h.trans (k.mono hB)
theorem some_c (s : Sd) (h : s.Ok) (w : World) : Calls Try.prog 43 #[.agg #[.int .i64 s.l, .int .i64 s.m, .int .i64 s.b, .int .i64 s.i]] w fun e w' => e = .returned (.bool (someB s)) ∧ Below w.heap.size w w' := by
  have l0 : 0 ≤ s.l := by have := h.b1; have := h.b2; omega
  have hb : decide (upV s s.l ≤ s.m) = someB s := rfl
  go_enter Try.func43, Try.ntmps43
  go_wp2_with (go_at_call 45; ((with_reducible refine (up_c s h _ l0 h.l2 _).mono ?_); rintro e w1 ⟨rfl, hb1⟩); obtain ⟨hc, hf⟩ := bcell hb1)
  go_ret
  exact ⟨rfl, ((Below.refl _ _).alloc (Nat.le_refl _) _).trans (hb1.mono (by simp))⟩
theorem near_c (s : Sd) (h : s.Ok) (n : Int) (n1 : 0 ≤ n) (n2 : n ≤ 65535) (w : World) : Calls Try.prog 34 #[.agg #[.int .i64 s.l, .int .i64 s.m, .int .i64 s.b, .int .i64 s.i], .int .i64 n] w fun e w' => e = .returned (.int .i64 (nearV s n)) ∧ Below w.heap.size w w' := by
  have l0 : 0 ≤ s.l := by have := h.b1; have := h.b2; omega
  have i1 := h.i1
  by_cases hd : s.l ≤ downV s n
  · have E : nearV s n = downV s n := by unfold nearV; rw [if_pos hd]
    rw [E]; clear E
    have hd1 := decide_eq_true hd
    clear hd
    go_enter Try.func34, Try.ntmps34
    go_wp2_with (go_at_call 44; ((with_reducible refine (down_c s h _ (by omega) (by omega) _).mono ?_); rintro e w1 ⟨rfl, hb1⟩); obtain ⟨hc, hf⟩ := bcell hb1)
    go_ret
    exact ⟨rfl, ((Below.refl _ _).alloc (Nat.le_refl _) _).trans (hb1.mono (by simp))⟩
  · have E : nearV s n = upV s s.l := by unfold nearV; rw [if_neg hd]
    rw [E]; clear E
    have hd1 := decide_eq_false hd
    clear hd
    go_enter Try.func34, Try.ntmps34
    go_wp2_with (first | (go_at_call 44; ((with_reducible refine (down_c s h _ (by omega) (by omega) _).mono ?_); rintro e w1 ⟨rfl, hb1⟩); obtain ⟨hc, hf⟩ := bcell hb1) | (go_at_call 45; ((with_reducible refine (up_c s h _ l0 h.l2 _).mono ?_); rintro e w2 ⟨rfl, hb2⟩)))
    go_ret
    exact ⟨rfl, (((Below.refl _ _).alloc (Nat.le_refl _) _).trans (hb1.mono (by simp))).trans (hb2.mono (by have := hb1.size; simp at this; omega))⟩
def hasB (s : Sd) (n : Int) : Bool := decide (s.l ≤ n ∧ n ≤ s.m ∧ (n - s.b) % s.i = 0)
theorem hasB_iff (s : Sd) (n : Int) : hasB s n = true ↔ s.S n := decide_eq_true_iff
theorem has_c (s : Sd) (h : s.Ok) (n : Int) (w : World) : Calls Try.prog 36 #[.agg #[.int .i64 s.l, .int .i64 s.m, .int .i64 s.b, .int .i64 s.i], .int .i64 n] w fun e w' => e = .returned (.bool (hasB s n)) ∧ Below w.heap.size w w' := by
  obtain ⟨i1, i2, b1, b2, l2, m1, m2⟩ := h
  by_cases h1 : s.l ≤ n
  · by_cases h2 : n ≤ s.m
    · obtain ⟨r, hr⟩ : ∃ r, (n - s.b) % s.i = r := ⟨_, rfl⟩
      have f1 : IntKind.i64.wrap (n - s.b) = n - s.b := IntWalk.i64_in _ (by omega)
      have E : hasB s n = decide (r = 0) := by unfold hasB; rw [hr]; simp [h1, h2]
      rw [E]; clear E
      go_enter Try.func36, Try.ntmps36
      go_wp2_with fail
      go_ret
      exact ⟨ret_bool (by rw [Bool.eq_iff_iff]; simp), by repeat' (first | (with_reducible exact Below.refl _ _) | (with_reducible assumption) | (with_reducible refine Below.alloc ?_ ?_ _) | (with_reducible refine Below.drew ?_) | (with_reducible refine Below.setCell ?_ ?_ _) | (with_reducible refine Below.on (by with_reducible assumption) ?_ ?_) | go_size)⟩
    · have E : hasB s n = false := decide_eq_false (fun k => h2 k.2.1)
      rw [E]; clear E
      go_enter Try.func36, Try.ntmps36
      go_wp2_with fail
      go_ret
      exact ⟨rfl, by repeat' (first | (with_reducible exact Below.refl _ _) | (with_reducible assumption) | (with_reducible refine Below.alloc ?_ ?_ _) | (with_reducible refine Below.drew ?_) | (with_reducible refine Below.setCell ?_ ?_ _) | (with_reducible refine Below.on (by with_reducible assumption) ?_ ?_) | go_size)⟩
  · have E : hasB s n = false := decide_eq_false (fun k => h1 k.1)
    rw [E]; clear E
    go_enter Try.func36, Try.ntmps36
    go_wp2_with fail
    go_ret
    exact ⟨rfl, by repeat' (first | (with_reducible exact Below.refl _ _) | (with_reducible assumption) | (with_reducible refine Below.alloc ?_ ?_ _) | (with_reducible refine Below.drew ?_) | (with_reducible refine Below.setCell ?_ ?_ _) | (with_reducible refine Below.on (by with_reducible assumption) ?_ ?_) | go_size)⟩
theorem qup_c (a b : Int) (h1 : 0 ≤ a) (h2 : a ≤ 4294836225) (h3 : 1 ≤ b) (h4 : b ≤ 65535) (w : World) : Calls Try.prog 50 #[.agg #[.int .i64 a, .int .i64 b]] w fun e w' => e = .returned (.int .i64 (qUp a b)) ∧ Below w.heap.size w w' := by
  have k := qUp_b h1 h2 h3
  obtain ⟨q, hq⟩ : ∃ q, (a + b - 1) / b = q := ⟨_, rfl⟩
  have E : qUp a b = q := hq
  rw [E] at *; clear E
  go_enter Try.func50, Try.ntmps50
  go_wp2_with fail
  go_ret
  exact ⟨ret_int hq, by repeat' (first | (with_reducible exact Below.refl _ _) | (with_reducible assumption) | (with_reducible refine Below.alloc ?_ ?_ _) | (with_reducible refine Below.drew ?_) | (with_reducible refine Below.setCell ?_ ?_ _) | (with_reducible refine Below.on (by with_reducible assumption) ?_ ?_) | go_size)⟩
theorem qdown_c (a b : Int) (h1 : 0 ≤ a) (h2 : a ≤ 4294836225) (h3 : 1 ≤ b) (h4 : b ≤ 65535) (w : World) : Calls Try.prog 51 #[.agg #[.int .i64 a, .int .i64 b]] w fun e w' => e = .returned (.int .i64 (a / b)) ∧ Below w.heap.size w w' := by
  have k := q_b h1 h2 h3
  obtain ⟨q, hq⟩ : ∃ q, a / b = q := ⟨_, rfl⟩
  rw [hq] at k; rw [hq]
  go_enter Try.func51, Try.ntmps51
  go_wp2_with fail
  go_ret
  exact ⟨ret_int hq, by repeat' (first | (with_reducible exact Below.refl _ _) | (with_reducible assumption) | (with_reducible refine Below.alloc ?_ ?_ _) | (with_reducible refine Below.drew ?_) | (with_reducible refine Below.setCell ?_ ?_ _) | (with_reducible refine Below.on (by with_reducible assumption) ?_ ?_) | go_size)⟩
theorem _root_.Go.Proofs.Ytfckgkbhphkhoaa.Blk.c12 {w : World} {g : Nat} {t : TypeId} {v0 v1 v2 v3 v4 v5 v6 v7 v8 v9 v10 v11 : Value} (h : Blk w g t #[v0, v1, v2, v3, v4, v5, v6, v7, v8, v9, v10, v11]) : (w.cell? ⟨g, 0, none⟩ = some v0 ∧ w.cell? ⟨g, 1, none⟩ = some v1 ∧ w.cell? ⟨g, 2, none⟩ = some v2 ∧ w.cell? ⟨g, 3, none⟩ = some v3 ∧ w.cell? ⟨g, 4, none⟩ = some v4 ∧ w.cell? ⟨g, 5, none⟩ = some v5 ∧ w.cell? ⟨g, 6, none⟩ = some v6 ∧ w.cell? ⟨g, 7, none⟩ = some v7 ∧ w.cell? ⟨g, 8, none⟩ = some v8 ∧ w.cell? ⟨g, 9, none⟩ = some v9 ∧ w.cell? ⟨g, 10, none⟩ = some v10 ∧ w.cell? ⟨g, 11, none⟩ = some v11) ∧ (w.frozen? ⟨g, 0, none⟩ = false ∧ w.frozen? ⟨g, 1, none⟩ = false ∧ w.frozen? ⟨g, 2, none⟩ = false ∧ w.frozen? ⟨g, 3, none⟩ = false ∧ w.frozen? ⟨g, 4, none⟩ = false ∧ w.frozen? ⟨g, 5, none⟩ = false ∧ w.frozen? ⟨g, 6, none⟩ = false ∧ w.frozen? ⟨g, 7, none⟩ = false ∧ w.frozen? ⟨g, 8, none⟩ = false ∧ w.frozen? ⟨g, 9, none⟩ = false ∧ w.frozen? ⟨g, 10, none⟩ = false ∧ w.frozen? ⟨g, 11, none⟩ = false) :=
  ⟨⟨h.at_ (i := 0) rfl, h.at_ (i := 1) rfl, h.at_ (i := 2) rfl, h.at_ (i := 3) rfl, h.at_ (i := 4) rfl, h.at_ (i := 5) rfl, h.at_ (i := 6) rfl, h.at_ (i := 7) rfl, h.at_ (i := 8) rfl, h.at_ (i := 9) rfl, h.at_ (i := 10) rfl, h.at_ (i := 11) rfl⟩, ⟨h.frozen 0, h.frozen 1, h.frozen 2, h.frozen 3, h.frozen 4, h.frozen 5, h.frozen 6, h.frozen 7, h.frozen 8, h.frozen 9, h.frozen 10, h.frozen 11⟩⟩
/-- The box of hints, the box of a side. -/
def HB (w : World) (g : Nat) (h : Hn) : Prop := Blk w g 23 #[.int .i64 h.minW, .int .i64 h.minH, .int .i64 h.maxW, .int .i64 h.maxH, .int .i64 h.baseW, .int .i64 h.baseH, .int .i64 h.incW, .int .i64 h.incH, .int .i64 h.lowX, .int .i64 h.lowY, .int .i64 h.highX, .int .i64 h.highY]
def SB (w : World) (g : Nat) (s : Sd) : Prop := Blk w g 45 #[.int .i64 s.l, .int .i64 s.m, .int .i64 s.b, .int .i64 s.i]
theorem HB.new (w : World) (h : Hn) : HB (w.alloc (.cells (#[.int .i64 h.minW, .int .i64 h.minH, .int .i64 h.maxW, .int .i64 h.maxH, .int .i64 h.baseW, .int .i64 h.baseH, .int .i64 h.incW, .int .i64 h.incH, .int .i64 h.lowX, .int .i64 h.lowY, .int .i64 h.highX, .int .i64 h.highY]) 23)) w.heap.size h := Blk.new _ _ _
theorem SB.new (w : World) (s : Sd) : SB (w.alloc (.cells (#[.int .i64 s.l, .int .i64 s.m, .int .i64 s.b, .int .i64 s.i]) 45)) w.heap.size s := Blk.new _ _ _
theorem HB.next {w w' : World} {g : Nat} {h : Hn} (a : HB w g h) (hb : Below w.heap.size w w') : HB w' g h := Blk.next a hb
theorem SB.next {w w' : World} {g : Nat} {h : Sd} (a : SB w g h) (hb : Below w.heap.size w w') : SB w' g h := Blk.next a hb
theorem SB.raw {w : World} {g : Nat} {h : Sd} (a : SB w g h) : Blk w g 45 #[.int .i64 h.l, .int .i64 h.m, .int .i64 h.b, .int .i64 h.i] := a
theorem HB.raw {w : World} {g : Nat} {h : Hn} (a : HB w g h) : Blk w g 23 #[.int .i64 h.minW, .int .i64 h.minH, .int .i64 h.maxW, .int .i64 h.maxH, .int .i64 h.baseW, .int .i64 h.baseH, .int .i64 h.incW, .int .i64 h.incH, .int .i64 h.lowX, .int .i64 h.lowY, .int .i64 h.highX, .int .i64 h.highY] := a
theorem HB.alloc {w : World} {g : Nat} {h : Hn} (a : HB w g h) (o : Obj) : HB (w.alloc o) g h := Blk.alloc a o
theorem SB.alloc {w : World} {g : Nat} {h : Sd} (a : SB w g h) (o : Obj) : SB (w.alloc o) g h := Blk.alloc a o
theorem HB.far {w : World} {g : Nat} {h : Hn} (a : HB w g h) {p : Addr} (hp : g ≠ p.block) (u : Value) : HB (w.setCell p u) g h := Blk.far a hp u
theorem SB.far {w : World} {g : Nat} {h : Sd} (a : SB w g h) {p : Addr} (hp : g ≠ p.block) (u : Value) : SB (w.setCell p u) g h := Blk.far a hp u
theorem HB.drewN {w : World} {g : Nat} {h : Hn} (a : HB w g h) (n : Nat) : HB (w.drewN n) g h := a
theorem SB.drewN {w : World} {g : Nat} {h : Sd} (a : SB w g h) (n : Nat) : SB (w.drewN n) g h := a
theorem HB.drew {w : World} {g : Nat} {h : Hn} (a : HB w g h) : HB w.drew g h := a
theorem SB.drew {w : World} {g : Nat} {h : Sd} (a : SB w g h) : SB w.drew g h := a
theorem HB.out {w : World} {g : Nat} {h : Hn} (a : HB w g h) : (w.cell? ⟨g, 0, none⟩ = some (.int .i64 h.minW) ∧ w.cell? ⟨g, 1, none⟩ = some (.int .i64 h.minH) ∧ w.cell? ⟨g, 2, none⟩ = some (.int .i64 h.maxW) ∧ w.cell? ⟨g, 3, none⟩ = some (.int .i64 h.maxH) ∧ w.cell? ⟨g, 4, none⟩ = some (.int .i64 h.baseW) ∧ w.cell? ⟨g, 5, none⟩ = some (.int .i64 h.baseH) ∧ w.cell? ⟨g, 6, none⟩ = some (.int .i64 h.incW) ∧ w.cell? ⟨g, 7, none⟩ = some (.int .i64 h.incH) ∧ w.cell? ⟨g, 8, none⟩ = some (.int .i64 h.lowX) ∧ w.cell? ⟨g, 9, none⟩ = some (.int .i64 h.lowY) ∧ w.cell? ⟨g, 10, none⟩ = some (.int .i64 h.highX) ∧ w.cell? ⟨g, 11, none⟩ = some (.int .i64 h.highY)) ∧ (w.frozen? ⟨g, 0, none⟩ = false ∧ w.frozen? ⟨g, 1, none⟩ = false ∧ w.frozen? ⟨g, 2, none⟩ = false ∧ w.frozen? ⟨g, 3, none⟩ = false ∧ w.frozen? ⟨g, 4, none⟩ = false ∧ w.frozen? ⟨g, 5, none⟩ = false ∧ w.frozen? ⟨g, 6, none⟩ = false ∧ w.frozen? ⟨g, 7, none⟩ = false ∧ w.frozen? ⟨g, 8, none⟩ = false ∧ w.frozen? ⟨g, 9, none⟩ = false ∧ w.frozen? ⟨g, 10, none⟩ = false ∧ w.frozen? ⟨g, 11, none⟩ = false) := Blk.c12 (show Blk w g 23 #[.int .i64 h.minW, .int .i64 h.minH, .int .i64 h.maxW, .int .i64 h.maxH, .int .i64 h.baseW, .int .i64 h.baseH, .int .i64 h.incW, .int .i64 h.incH, .int .i64 h.lowX, .int .i64 h.lowY, .int .i64 h.highX, .int .i64 h.highY] from a)
theorem SB.out {w : World} {g : Nat} {h : Sd} (a : SB w g h) : (w.cell? ⟨g, 0, none⟩ = some (.int .i64 h.l) ∧ w.cell? ⟨g, 1, none⟩ = some (.int .i64 h.m) ∧ w.cell? ⟨g, 2, none⟩ = some (.int .i64 h.b) ∧ w.cell? ⟨g, 3, none⟩ = some (.int .i64 h.i)) ∧ (w.frozen? ⟨g, 0, none⟩ = false ∧ w.frozen? ⟨g, 1, none⟩ = false ∧ w.frozen? ⟨g, 2, none⟩ = false ∧ w.frozen? ⟨g, 3, none⟩ = false) := Blk.c4 (show Blk w g 45 #[.int .i64 h.l, .int .i64 h.m, .int .i64 h.b, .int .i64 h.i] from a)
theorem HB.put12 {W : World} {g : Nat} {s0 : Hn} (a : HB W g s0) (s : Hn) : HB ((World.setCell (World.setCell (World.setCell (World.setCell (World.setCell (World.setCell (World.setCell (World.setCell (World.setCell (World.setCell (World.setCell (World.setCell W ⟨g, 0, none⟩ (.int .i64 s.minW)) ⟨g, 1, none⟩ (.int .i64 s.minH)) ⟨g, 2, none⟩ (.int .i64 s.maxW)) ⟨g, 3, none⟩ (.int .i64 s.maxH)) ⟨g, 4, none⟩ (.int .i64 s.baseW)) ⟨g, 5, none⟩ (.int .i64 s.baseH)) ⟨g, 6, none⟩ (.int .i64 s.incW)) ⟨g, 7, none⟩ (.int .i64 s.incH)) ⟨g, 8, none⟩ (.int .i64 s.lowX)) ⟨g, 9, none⟩ (.int .i64 s.lowY)) ⟨g, 10, none⟩ (.int .i64 s.highX)) ⟨g, 11, none⟩ (.int .i64 s.highY))) g s := by
  have b0 : Blk W g 23 #[.int .i64 s0.minW, .int .i64 s0.minH, .int .i64 s0.maxW, .int .i64 s0.maxH, .int .i64 s0.baseW, .int .i64 s0.baseH, .int .i64 s0.incW, .int .i64 s0.incH, .int .i64 s0.lowX, .int .i64 s0.lowY, .int .i64 s0.highX, .int .i64 s0.highY] := a
  have b1 : Blk (World.setCell W ⟨g, 0, none⟩ (.int .i64 s.minW)) g 23 #[.int .i64 s.minW, .int .i64 s0.minH, .int .i64 s0.maxW, .int .i64 s0.maxH, .int .i64 s0.baseW, .int .i64 s0.baseH, .int .i64 s0.incW, .int .i64 s0.incH, .int .i64 s0.lowX, .int .i64 s0.lowY, .int .i64 s0.highX, .int .i64 s0.highY] := Blk.set_ b0 0 (.int .i64 s.minW)
  have b2 : Blk (World.setCell (World.setCell W ⟨g, 0, none⟩ (.int .i64 s.minW)) ⟨g, 1, none⟩ (.int .i64 s.minH)) g 23 #[.int .i64 s.minW, .int .i64 s.minH, .int .i64 s0.maxW, .int .i64 s0.maxH, .int .i64 s0.baseW, .int .i64 s0.baseH, .int .i64 s0.incW, .int .i64 s0.incH, .int .i64 s0.lowX, .int .i64 s0.lowY, .int .i64 s0.highX, .int .i64 s0.highY] := Blk.set_ b1 1 (.int .i64 s.minH)
  have b3 : Blk (World.setCell (World.setCell (World.setCell W ⟨g, 0, none⟩ (.int .i64 s.minW)) ⟨g, 1, none⟩ (.int .i64 s.minH)) ⟨g, 2, none⟩ (.int .i64 s.maxW)) g 23 #[.int .i64 s.minW, .int .i64 s.minH, .int .i64 s.maxW, .int .i64 s0.maxH, .int .i64 s0.baseW, .int .i64 s0.baseH, .int .i64 s0.incW, .int .i64 s0.incH, .int .i64 s0.lowX, .int .i64 s0.lowY, .int .i64 s0.highX, .int .i64 s0.highY] := Blk.set_ b2 2 (.int .i64 s.maxW)
  have b4 : Blk (World.setCell (World.setCell (World.setCell (World.setCell W ⟨g, 0, none⟩ (.int .i64 s.minW)) ⟨g, 1, none⟩ (.int .i64 s.minH)) ⟨g, 2, none⟩ (.int .i64 s.maxW)) ⟨g, 3, none⟩ (.int .i64 s.maxH)) g 23 #[.int .i64 s.minW, .int .i64 s.minH, .int .i64 s.maxW, .int .i64 s.maxH, .int .i64 s0.baseW, .int .i64 s0.baseH, .int .i64 s0.incW, .int .i64 s0.incH, .int .i64 s0.lowX, .int .i64 s0.lowY, .int .i64 s0.highX, .int .i64 s0.highY] := Blk.set_ b3 3 (.int .i64 s.maxH)
  have b5 : Blk (World.setCell (World.setCell (World.setCell (World.setCell (World.setCell W ⟨g, 0, none⟩ (.int .i64 s.minW)) ⟨g, 1, none⟩ (.int .i64 s.minH)) ⟨g, 2, none⟩ (.int .i64 s.maxW)) ⟨g, 3, none⟩ (.int .i64 s.maxH)) ⟨g, 4, none⟩ (.int .i64 s.baseW)) g 23 #[.int .i64 s.minW, .int .i64 s.minH, .int .i64 s.maxW, .int .i64 s.maxH, .int .i64 s.baseW, .int .i64 s0.baseH, .int .i64 s0.incW, .int .i64 s0.incH, .int .i64 s0.lowX, .int .i64 s0.lowY, .int .i64 s0.highX, .int .i64 s0.highY] := Blk.set_ b4 4 (.int .i64 s.baseW)
  have b6 : Blk (World.setCell (World.setCell (World.setCell (World.setCell (World.setCell (World.setCell W ⟨g, 0, none⟩ (.int .i64 s.minW)) ⟨g, 1, none⟩ (.int .i64 s.minH)) ⟨g, 2, none⟩ (.int .i64 s.maxW)) ⟨g, 3, none⟩ (.int .i64 s.maxH)) ⟨g, 4, none⟩ (.int .i64 s.baseW)) ⟨g, 5, none⟩ (.int .i64 s.baseH)) g 23 #[.int .i64 s.minW, .int .i64 s.minH, .int .i64 s.maxW, .int .i64 s.maxH, .int .i64 s.baseW, .int .i64 s.baseH, .int .i64 s0.incW, .int .i64 s0.incH, .int .i64 s0.lowX, .int .i64 s0.lowY, .int .i64 s0.highX, .int .i64 s0.highY] := Blk.set_ b5 5 (.int .i64 s.baseH)
  have b7 : Blk (World.setCell (World.setCell (World.setCell (World.setCell (World.setCell (World.setCell (World.setCell W ⟨g, 0, none⟩ (.int .i64 s.minW)) ⟨g, 1, none⟩ (.int .i64 s.minH)) ⟨g, 2, none⟩ (.int .i64 s.maxW)) ⟨g, 3, none⟩ (.int .i64 s.maxH)) ⟨g, 4, none⟩ (.int .i64 s.baseW)) ⟨g, 5, none⟩ (.int .i64 s.baseH)) ⟨g, 6, none⟩ (.int .i64 s.incW)) g 23 #[.int .i64 s.minW, .int .i64 s.minH, .int .i64 s.maxW, .int .i64 s.maxH, .int .i64 s.baseW, .int .i64 s.baseH, .int .i64 s.incW, .int .i64 s0.incH, .int .i64 s0.lowX, .int .i64 s0.lowY, .int .i64 s0.highX, .int .i64 s0.highY] := Blk.set_ b6 6 (.int .i64 s.incW)
  have b8 : Blk (World.setCell (World.setCell (World.setCell (World.setCell (World.setCell (World.setCell (World.setCell (World.setCell W ⟨g, 0, none⟩ (.int .i64 s.minW)) ⟨g, 1, none⟩ (.int .i64 s.minH)) ⟨g, 2, none⟩ (.int .i64 s.maxW)) ⟨g, 3, none⟩ (.int .i64 s.maxH)) ⟨g, 4, none⟩ (.int .i64 s.baseW)) ⟨g, 5, none⟩ (.int .i64 s.baseH)) ⟨g, 6, none⟩ (.int .i64 s.incW)) ⟨g, 7, none⟩ (.int .i64 s.incH)) g 23 #[.int .i64 s.minW, .int .i64 s.minH, .int .i64 s.maxW, .int .i64 s.maxH, .int .i64 s.baseW, .int .i64 s.baseH, .int .i64 s.incW, .int .i64 s.incH, .int .i64 s0.lowX, .int .i64 s0.lowY, .int .i64 s0.highX, .int .i64 s0.highY] := Blk.set_ b7 7 (.int .i64 s.incH)
  have b9 : Blk (World.setCell (World.setCell (World.setCell (World.setCell (World.setCell (World.setCell (World.setCell (World.setCell (World.setCell W ⟨g, 0, none⟩ (.int .i64 s.minW)) ⟨g, 1, none⟩ (.int .i64 s.minH)) ⟨g, 2, none⟩ (.int .i64 s.maxW)) ⟨g, 3, none⟩ (.int .i64 s.maxH)) ⟨g, 4, none⟩ (.int .i64 s.baseW)) ⟨g, 5, none⟩ (.int .i64 s.baseH)) ⟨g, 6, none⟩ (.int .i64 s.incW)) ⟨g, 7, none⟩ (.int .i64 s.incH)) ⟨g, 8, none⟩ (.int .i64 s.lowX)) g 23 #[.int .i64 s.minW, .int .i64 s.minH, .int .i64 s.maxW, .int .i64 s.maxH, .int .i64 s.baseW, .int .i64 s.baseH, .int .i64 s.incW, .int .i64 s.incH, .int .i64 s.lowX, .int .i64 s0.lowY, .int .i64 s0.highX, .int .i64 s0.highY] := Blk.set_ b8 8 (.int .i64 s.lowX)
  have b10 : Blk (World.setCell (World.setCell (World.setCell (World.setCell (World.setCell (World.setCell (World.setCell (World.setCell (World.setCell (World.setCell W ⟨g, 0, none⟩ (.int .i64 s.minW)) ⟨g, 1, none⟩ (.int .i64 s.minH)) ⟨g, 2, none⟩ (.int .i64 s.maxW)) ⟨g, 3, none⟩ (.int .i64 s.maxH)) ⟨g, 4, none⟩ (.int .i64 s.baseW)) ⟨g, 5, none⟩ (.int .i64 s.baseH)) ⟨g, 6, none⟩ (.int .i64 s.incW)) ⟨g, 7, none⟩ (.int .i64 s.incH)) ⟨g, 8, none⟩ (.int .i64 s.lowX)) ⟨g, 9, none⟩ (.int .i64 s.lowY)) g 23 #[.int .i64 s.minW, .int .i64 s.minH, .int .i64 s.maxW, .int .i64 s.maxH, .int .i64 s.baseW, .int .i64 s.baseH, .int .i64 s.incW, .int .i64 s.incH, .int .i64 s.lowX, .int .i64 s.lowY, .int .i64 s0.highX, .int .i64 s0.highY] := Blk.set_ b9 9 (.int .i64 s.lowY)
  have b11 : Blk (World.setCell (World.setCell (World.setCell (World.setCell (World.setCell (World.setCell (World.setCell (World.setCell (World.setCell (World.setCell (World.setCell W ⟨g, 0, none⟩ (.int .i64 s.minW)) ⟨g, 1, none⟩ (.int .i64 s.minH)) ⟨g, 2, none⟩ (.int .i64 s.maxW)) ⟨g, 3, none⟩ (.int .i64 s.maxH)) ⟨g, 4, none⟩ (.int .i64 s.baseW)) ⟨g, 5, none⟩ (.int .i64 s.baseH)) ⟨g, 6, none⟩ (.int .i64 s.incW)) ⟨g, 7, none⟩ (.int .i64 s.incH)) ⟨g, 8, none⟩ (.int .i64 s.lowX)) ⟨g, 9, none⟩ (.int .i64 s.lowY)) ⟨g, 10, none⟩ (.int .i64 s.highX)) g 23 #[.int .i64 s.minW, .int .i64 s.minH, .int .i64 s.maxW, .int .i64 s.maxH, .int .i64 s.baseW, .int .i64 s.baseH, .int .i64 s.incW, .int .i64 s.incH, .int .i64 s.lowX, .int .i64 s.lowY, .int .i64 s.highX, .int .i64 s0.highY] := Blk.set_ b10 10 (.int .i64 s.highX)
  have b12 : Blk (World.setCell (World.setCell (World.setCell (World.setCell (World.setCell (World.setCell (World.setCell (World.setCell (World.setCell (World.setCell (World.setCell (World.setCell W ⟨g, 0, none⟩ (.int .i64 s.minW)) ⟨g, 1, none⟩ (.int .i64 s.minH)) ⟨g, 2, none⟩ (.int .i64 s.maxW)) ⟨g, 3, none⟩ (.int .i64 s.maxH)) ⟨g, 4, none⟩ (.int .i64 s.baseW)) ⟨g, 5, none⟩ (.int .i64 s.baseH)) ⟨g, 6, none⟩ (.int .i64 s.incW)) ⟨g, 7, none⟩ (.int .i64 s.incH)) ⟨g, 8, none⟩ (.int .i64 s.lowX)) ⟨g, 9, none⟩ (.int .i64 s.lowY)) ⟨g, 10, none⟩ (.int .i64 s.highX)) ⟨g, 11, none⟩ (.int .i64 s.highY)) g 23 #[.int .i64 s.minW, .int .i64 s.minH, .int .i64 s.maxW, .int .i64 s.maxH, .int .i64 s.baseW, .int .i64 s.baseH, .int .i64 s.incW, .int .i64 s.incH, .int .i64 s.lowX, .int .i64 s.lowY, .int .i64 s.highX, .int .i64 s.highY] := Blk.set_ b11 11 (.int .i64 s.highY)
  exact b12
theorem HB.far12 {W : World} {g g' : Nat} {s0 : Hn} (a : HB W g' s0) (hn : g' ≠ g) (s : Hn) : HB ((World.setCell (World.setCell (World.setCell (World.setCell (World.setCell (World.setCell (World.setCell (World.setCell (World.setCell (World.setCell (World.setCell (World.setCell W ⟨g, 0, none⟩ (.int .i64 s.minW)) ⟨g, 1, none⟩ (.int .i64 s.minH)) ⟨g, 2, none⟩ (.int .i64 s.maxW)) ⟨g, 3, none⟩ (.int .i64 s.maxH)) ⟨g, 4, none⟩ (.int .i64 s.baseW)) ⟨g, 5, none⟩ (.int .i64 s.baseH)) ⟨g, 6, none⟩ (.int .i64 s.incW)) ⟨g, 7, none⟩ (.int .i64 s.incH)) ⟨g, 8, none⟩ (.int .i64 s.lowX)) ⟨g, 9, none⟩ (.int .i64 s.lowY)) ⟨g, 10, none⟩ (.int .i64 s.highX)) ⟨g, 11, none⟩ (.int .i64 s.highY))) g' s0 := (((((((((((a.far hn _).far hn _).far hn _).far hn _).far hn _).far hn _).far hn _).far hn _).far hn _).far hn _).far hn _).far hn _
theorem below_set12 {B : Nat} {w0 W : World} {g : Nat} (a : Below B w0 W) (hg : B ≤ g) (s : Hn) : Below B w0 ((World.setCell (World.setCell (World.setCell (World.setCell (World.setCell (World.setCell (World.setCell (World.setCell (World.setCell (World.setCell (World.setCell (World.setCell W ⟨g, 0, none⟩ (.int .i64 s.minW)) ⟨g, 1, none⟩ (.int .i64 s.minH)) ⟨g, 2, none⟩ (.int .i64 s.maxW)) ⟨g, 3, none⟩ (.int .i64 s.maxH)) ⟨g, 4, none⟩ (.int .i64 s.baseW)) ⟨g, 5, none⟩ (.int .i64 s.baseH)) ⟨g, 6, none⟩ (.int .i64 s.incW)) ⟨g, 7, none⟩ (.int .i64 s.incH)) ⟨g, 8, none⟩ (.int .i64 s.lowX)) ⟨g, 9, none⟩ (.int .i64 s.lowY)) ⟨g, 10, none⟩ (.int .i64 s.highX)) ⟨g, 11, none⟩ (.int .i64 s.highY))) := (((((((((((a.setCell hg _).setCell hg _).setCell hg _).setCell hg _).setCell hg _).setCell hg _).setCell hg _).setCell hg _).setCell hg _).setCell hg _).setCell hg _).setCell hg _
def zeroS : Sd := ⟨0, 0, 0, 0⟩
def zeroH : Hn := ⟨0, 0, 0, 0, 0, 0, 0, 0, 0, 0, 0, 0⟩
theorem HB.zero (w : World) : HB (w.alloc (.cells #[.int .i64 0, .int .i64 0, .int .i64 0, .int .i64 0, .int .i64 0, .int .i64 0, .int .i64 0, .int .i64 0, .int .i64 0, .int .i64 0, .int .i64 0, .int .i64 0] 23)) w.heap.size zeroH := Blk.new _ _ _
theorem SB.zero (w : World) : SB (w.alloc (.cells #[.int .i64 0, .int .i64 0, .int .i64 0, .int .i64 0] 45)) w.heap.size zeroS := Blk.new _ _ _
theorem size_next {w w' : World} {n : Nat} (hb : Below w.heap.size w w') (h : n < w.heap.size) : n < w'.heap.size := Nat.lt_of_lt_of_le h hb.size
set_option maxHeartbeats 1000000 in
theorem wide_c (h : Hn) (w : World) : Calls Try.prog 48 #[.agg #[.int .i64 h.minW, .int .i64 h.minH, .int .i64 h.maxW, .int .i64 h.maxH, .int .i64 h.baseW, .int .i64 h.baseH, .int .i64 h.incW, .int .i64 h.incH, .int .i64 h.lowX, .int .i64 h.lowY, .int .i64 h.highX, .int .i64 h.highY]] w fun e w' => e = .returned (.agg #[.int .i64 (wideS h).l, .int .i64 (wideS h).m, .int .i64 (wideS h).b, .int .i64 (wideS h).i]) ∧ Below w.heap.size w w' := by
  go_enter Try.func48, Try.ntmps48
  go_wp2_with (go_at_call 49; go_loud ((with_reducible refine (newSide_c _ _ _ _ _).mono ?_); rintro e w1 ⟨rfl, hb⟩; have B1 := (SB.zero _).next hb; simp only [World.size_alloc] at B1; have B2 := hb.size; simp at B2; obtain ⟨⟨c0, c1, c2, c3⟩, ⟨cf0, cf1, cf2, cf3⟩⟩ := B1.out))
  exact bodyPost_ret (v := .agg #[.int .i64 (wideS h).l, .int .i64 (wideS h).m, .int .i64 (wideS h).b, .int .i64 (wideS h).i]) (by simp [results, Try.results48, go_sem, c0, c1, c2, c3, wideS]) rfl ⟨rfl, by repeat' (first | (with_reducible exact Below.refl _ _) | (with_reducible assumption) | (with_reducible refine Below.alloc ?_ ?_ _) | (with_reducible refine Below.drew ?_) | (with_reducible refine Below.setCell ?_ ?_ _) | (with_reducible refine Below.on (by with_reducible assumption) ?_ ?_) | go_size)⟩
set_option maxHeartbeats 1000000 in
theorem tall_c (h : Hn) (w : World) : Calls Try.prog 42 #[.agg #[.int .i64 h.minW, .int .i64 h.minH, .int .i64 h.maxW, .int .i64 h.maxH, .int .i64 h.baseW, .int .i64 h.baseH, .int .i64 h.incW, .int .i64 h.incH, .int .i64 h.lowX, .int .i64 h.lowY, .int .i64 h.highX, .int .i64 h.highY]] w fun e w' => e = .returned (.agg #[.int .i64 (tallS h).l, .int .i64 (tallS h).m, .int .i64 (tallS h).b, .int .i64 (tallS h).i]) ∧ Below w.heap.size w w' := by
  go_enter Try.func42, Try.ntmps42
  go_wp2_with (go_at_call 49; (with_reducible refine (newSide_c _ _ _ _ _).mono ?_); rintro e w1 ⟨rfl, hb⟩; have B1 := (SB.zero _).next hb; simp only [World.size_alloc] at B1; have B2 := hb.size; simp at B2; obtain ⟨⟨c0, c1, c2, c3⟩, ⟨cf0, cf1, cf2, cf3⟩⟩ := B1.out)
  exact bodyPost_ret (v := .agg #[.int .i64 (tallS h).l, .int .i64 (tallS h).m, .int .i64 (tallS h).b, .int .i64 (tallS h).i]) (by simp [results, Try.results42, go_sem, c0, c1, c2, c3, tallS]) rfl ⟨rfl, by repeat' (first | (with_reducible exact Below.refl _ _) | (with_reducible assumption) | (with_reducible refine Below.alloc ?_ ?_ _) | (with_reducible refine Below.drew ?_) | (with_reducible refine Below.setCell ?_ ?_ _) | (with_reducible refine Below.on (by with_reducible assumption) ?_ ?_) | go_size)⟩
end Sz
end Go.Proofs.Ytfckgkbhphkhoaa
