/- The law GeomInsets, walked. -/
import Derived.Test.YteaiedcajgdodaaLawA
import Derived.Test.YteaiedcajgdodaaPlainD
import Derived.Deep.DeepCutAuto
import Derived.IntWalk
namespace Go.Proofs.Yteaiedcajgdodaa
open Go.RowKit
attribute [local go_sem ↓] eql_rect neq_rect
theorem rcEq_same (a b c d : Int) : rcEq a b c d a b c d = true := by rw [rcEq_iff]; exact ⟨rfl, rfl, rfl, rfl⟩
attribute [local go_sem] rcEq_same
def R4 (g : Nat) (p q r s : Int) (w : World) : Prop := w.cell? ⟨g, 0, none⟩ = some (.int .i64 p) ∧ w.cell? ⟨g, 1, none⟩ = some (.int .i64 q) ∧ w.cell? ⟨g, 2, none⟩ = some (.int .i64 r) ∧ w.cell? ⟨g, 3, none⟩ = some (.int .i64 s) ∧ g < w.heap.size
def U4 (g : Nat) (p q r s : Int) (w : World) : Prop := w.cell? ⟨g, 0, none⟩ = some (.int .u16 p) ∧ w.cell? ⟨g, 1, none⟩ = some (.int .u16 q) ∧ w.cell? ⟨g, 2, none⟩ = some (.int .u16 r) ∧ w.cell? ⟨g, 3, none⟩ = some (.int .u16 s) ∧ g < w.heap.size
section
variable {g : Nat} {p q r s : Int} {w w1 : World}
theorem R4.next (hb : Below w.heap.size w w1) (h : R4 g p q r s w) : R4 g p q r s w1 := by
  obtain ⟨h0, h1, h2, h3, h4⟩ := h
  obtain ⟨hc, _⟩ := bcell hb
  have hs := hb.size
  exact ⟨(hc _ _ h4).trans h0, (hc _ _ h4).trans h1, (hc _ _ h4).trans h2, (hc _ _ h4).trans h3, by omega⟩
theorem U4.next (hb : Below w.heap.size w w1) (h : U4 g p q r s w) : U4 g p q r s w1 := by
  obtain ⟨h0, h1, h2, h3, h4⟩ := h
  obtain ⟨hc, _⟩ := bcell hb
  have hs := hb.size
  exact ⟨(hc _ _ h4).trans h0, (hc _ _ h4).trans h1, (hc _ _ h4).trans h2, (hc _ _ h4).trans h3, by omega⟩
theorem R4.drew (h : R4 g p q r s w) : R4 g p q r s w.drew := h
theorem U4.drew (h : U4 g p q r s w) : U4 g p q r s w.drew := h
theorem R4.alloc (h : R4 g p q r s w) (o : Obj) : R4 g p q r s (w.alloc o) := h.next ((Below.refl _ _).alloc (Nat.le_refl _) o)
theorem U4.alloc (h : U4 g p q r s w) (o : Obj) : U4 g p q r s (w.alloc o) := h.next ((Below.refl _ _).alloc (Nat.le_refl _) o)
theorem R4.far (h : R4 g p q r s w) {m : Nat} (hm : g < m) (o : Nat) (v : Value) : R4 g p q r s (w.setCell ⟨m, o, none⟩ v) := by
  obtain ⟨h0, h1, h2, h3, h4⟩ := h
  have e (k : Nat) : (w.setCell ⟨m, o, none⟩ v).cell? ⟨g, k, none⟩ = w.cell? ⟨g, k, none⟩ := World.cell?_setCell_far w ⟨m, o, none⟩ ⟨g, k, none⟩ v (by simp; omega)
  exact ⟨(e _).trans h0, (e _).trans h1, (e _).trans h2, (e _).trans h3, by simpa using h4⟩
theorem U4.far (h : U4 g p q r s w) {m : Nat} (hm : g < m) (o : Nat) (v : Value) : U4 g p q r s (w.setCell ⟨m, o, none⟩ v) := by
  obtain ⟨h0, h1, h2, h3, h4⟩ := h
  have e (k : Nat) : (w.setCell ⟨m, o, none⟩ v).cell? ⟨g, k, none⟩ = w.cell? ⟨g, k, none⟩ := World.cell?_setCell_far w ⟨m, o, none⟩ ⟨g, k, none⟩ v (by simp; omega)
  exact ⟨(e _).trans h0, (e _).trans h1, (e _).trans h2, (e _).trans h3, by simpa using h4⟩
theorem R4.new (w : World) (p q r s : Int) (t : TypeId) : R4 w.heap.size p q r s (w.alloc (.cells #[.int .i64 p, .int .i64 q, .int .i64 r, .int .i64 s] t)) := by
  refine ⟨?_, ?_, ?_, ?_, by simp⟩ <;> simp [go_sem]
theorem U4.new (w : World) (p q r s : Int) (t : TypeId) : U4 w.heap.size p q r s (w.alloc (.cells #[.int .u16 p, .int .u16 q, .int .u16 r, .int .u16 s] t)) := by
  refine ⟨?_, ?_, ?_, ?_, by simp⟩ <;> simp [go_sem]
end
def I0 (n : Nat) (w0 : World) (x y a b a0 a1 a2 a3 b0 b1 b2 b3 : Int) (w : World) : Prop := R4 n x y a b w ∧ U4 (n + 1) a0 a1 a2 a3 w ∧ U4 (n + 1 + 1) b0 b1 b2 b3 w ∧ Below n w0 w
section
variable {n : Nat} {w0 : World} {x y a b a0 a1 a2 a3 b0 b1 b2 b3 : Int} {w w1 : World}
theorem I0.next (hb : Below w.heap.size w w1) (h : I0 n w0 x y a b a0 a1 a2 a3 b0 b1 b2 b3 w) : I0 n w0 x y a b a0 a1 a2 a3 b0 b1 b2 b3 w1 := ⟨h.1.next hb, h.2.1.next hb, h.2.2.1.next hb, hb.on h.2.2.2 (by have := h.1.2.2.2.2; omega)⟩
theorem I0.drew (h : I0 n w0 x y a b a0 a1 a2 a3 b0 b1 b2 b3 w) : I0 n w0 x y a b a0 a1 a2 a3 b0 b1 b2 b3 w.drew := ⟨h.1, h.2.1, h.2.2.1, h.2.2.2.drew⟩
theorem I0.alloc (h : I0 n w0 x y a b a0 a1 a2 a3 b0 b1 b2 b3 w) (o : Obj) : I0 n w0 x y a b a0 a1 a2 a3 b0 b1 b2 b3 (w.alloc o) := h.next ((Below.refl _ _).alloc (Nat.le_refl _) o)
theorem I0.far (h : I0 n w0 x y a b a0 a1 a2 a3 b0 b1 b2 b3 w) {m : Nat} (hm : n + 1 + 1 < m) (o : Nat) (v : Value) : I0 n w0 x y a b a0 a1 a2 a3 b0 b1 b2 b3 (w.setCell ⟨m, o, none⟩ v) :=
  ⟨h.1.far (by omega) o v, h.2.1.far (by omega) o v, h.2.2.1.far (by omega) o v, h.2.2.2.setCell (by simp; omega) _⟩
theorem I0.far4 (h : I0 n w0 x y a b a0 a1 a2 a3 b0 b1 b2 b3 w) {m : Nat} (hm : n + 1 + 1 < m) (v0 v1 v2 v3 : Value) : I0 n w0 x y a b a0 a1 a2 a3 b0 b1 b2 b3 ((((w.setCell ⟨m, 0, none⟩ v0).setCell ⟨m, 1, none⟩ v1).setCell ⟨m, 2, none⟩ v2).setCell ⟨m, 3, none⟩ v3) :=
  (((h.far hm 0 v0).far hm 1 v1).far hm 2 v2).far hm 3 v3
theorem I0.start (w : World) (x y a b a0 a1 a2 a3 b0 b1 b2 b3 : Int) (t t1 t2 : TypeId) : I0 w.heap.size w x y a b a0 a1 a2 a3 b0 b1 b2 b3 (((w.alloc (.cells #[.int .i64 x, .int .i64 y, .int .i64 a, .int .i64 b] t)).alloc (.cells #[.int .u16 a0, .int .u16 a1, .int .u16 a2, .int .u16 a3] t1)).alloc (.cells #[.int .u16 b0, .int .u16 b1, .int .u16 b2, .int .u16 b3] t2)) := by
  refine ⟨((R4.new w x y a b t).alloc _).alloc _, ?_, ?_, ?_⟩
  · have := (U4.new (w.alloc (.cells #[.int .i64 x, .int .i64 y, .int .i64 a, .int .i64 b] t)) a0 a1 a2 a3 t1).alloc (.cells #[.int .u16 b0, .int .u16 b1, .int .u16 b2, .int .u16 b3] t2)
    simpa using this
  · have := U4.new ((w.alloc (.cells #[.int .i64 x, .int .i64 y, .int .i64 a, .int .i64 b] t)).alloc (.cells #[.int .u16 a0, .int .u16 a1, .int .u16 a2, .int .u16 a3] t1)) b0 b1 b2 b3 t2
    simpa using this
  · repeat' (first | (with_reducible exact Below.refl _ _) | (with_reducible assumption) | (with_reducible refine Below.alloc ?_ ?_ _) | (with_reducible refine Below.drew ?_) | (with_reducible refine Below.setCell ?_ ?_ _) | (with_reducible refine Below.on (by with_reducible assumption) ?_ ?_) | go_size)
end
/-- Block g is there, with four cells that may be written. -/
def F4 (g : Nat) (w : World) : Prop := (w.cell? ⟨g, 0, none⟩ = some (cellOr w g 0) ∧ w.cell? ⟨g, 1, none⟩ = some (cellOr w g 1) ∧ w.cell? ⟨g, 2, none⟩ = some (cellOr w g 2) ∧ w.cell? ⟨g, 3, none⟩ = some (cellOr w g 3)) ∧ (w.frozen? ⟨g, 0, none⟩ = false ∧ w.frozen? ⟨g, 1, none⟩ = false ∧ w.frozen? ⟨g, 2, none⟩ = false ∧ w.frozen? ⟨g, 3, none⟩ = false) ∧ g < w.heap.size
theorem F4.next {g : Nat} {w w1 : World} (hb : Below w.heap.size w w1) (h : F4 g w) : F4 g w1 := by
  obtain ⟨⟨c0, c1, c2, c3⟩, ⟨f0, f1, f2, f3⟩, h4⟩ := h
  obtain ⟨hc, hf⟩ := bcell hb
  have hs := hb.size
  exact ⟨⟨cellOr_of ((hc _ _ h4).trans c0), cellOr_of ((hc _ _ h4).trans c1), cellOr_of ((hc _ _ h4).trans c2), cellOr_of ((hc _ _ h4).trans c3)⟩, ⟨(hf _ _ h4).trans f0, (hf _ _ h4).trans f1, (hf _ _ h4).trans f2, (hf _ _ h4).trans f3⟩, by omega⟩
theorem F4.drew {g : Nat} {w : World} (h : F4 g w) : F4 g w.drew := h
theorem F4.new (w : World) (v0 v1 v2 v3 : Value) (t : TypeId) : F4 w.heap.size (w.alloc (.cells #[v0, v1, v2, v3] t)) := by
  refine ⟨⟨cellOr_of (v := v0) ?_, cellOr_of (v := v1) ?_, cellOr_of (v := v2) ?_, cellOr_of (v := v3) ?_⟩, ⟨?_, ?_, ?_, ?_⟩, by simp⟩ <;> simp [go_sem]
theorem R4.put {g : Nat} {w : World} (h : F4 g w) (p q r s : Int) : R4 g p q r s ((((w.setCell ⟨g, 0, none⟩ (.int .i64 p)).setCell ⟨g, 1, none⟩ (.int .i64 q)).setCell ⟨g, 2, none⟩ (.int .i64 r)).setCell ⟨g, 3, none⟩ (.int .i64 s)) := by
  obtain ⟨⟨c0, c1, c2, c3⟩, ⟨f0, f1, f2, f3⟩, h4⟩ := h
  refine ⟨?_, ?_, ?_, ?_, by simpa using h4⟩ <;> simp [go_sem, c0, c1, c2, c3]
theorem inset_k {x y a b l t r m p q u v : Int} (hK : insetR x y a b l t r m = ⟨p, q, u, v⟩) (w : World) :
    Calls Try.prog 37 #[.agg #[.int .i64 x, .int .i64 y, .int .i64 a, .int .i64 b], .agg #[.int .i64 l, .int .i64 t, .int .i64 r, .int .i64 m]] w fun e w' => e = .returned (.agg #[.int .i64 p, .int .i64 q, .int .i64 u, .int .i64 v]) ∧ Below w.heap.size w w' := by
  have h := inset_c x y a b l t r m w
  rw [hK] at h
  exact h

set_option maxHeartbeats 8000000 in
set_option maxRecDepth 100000 in
theorem insets_w1 (x y a b a0 a1 a2 a3 b0 b1 b2 b3 : Int) (w : World) (ha0 : 0 ≤ a0 ∧ a0 ≤ 65535) (ha1 : 0 ≤ a1 ∧ a1 ≤ 65535) (ha2 : 0 ≤ a2 ∧ a2 ≤ 65535) (ha3 : 0 ≤ a3 ∧ a3 ≤ 65535) (hb0 : 0 ≤ b0 ∧ b0 ≤ 65535) (hb1 : 0 ≤ b1 ∧ b1 ≤ 65535) (hb2 : 0 ≤ b2 ∧ b2 ≤ 65535) (hb3 : 0 ≤ b3 ∧ b3 ≤ 65535) (i0 i1 i2 i3 o0 o1 o2 o3 t0 t1 t2 t3 k0 k1 k2 k3 : Int)
    (hI : insetR x y a b a0 a1 0 0 = ⟨i0, i1, i2, i3⟩) (hO : insetR i0 i1 i2 i3 b0 b1 0 0 = ⟨o0, o1, o2, o3⟩) (hT : insetR x y a b (a0 + b0) (a1 + b1) 0 0 = ⟨t0, t1, t2, t3⟩) (hK : insetR x y a b a0 a1 a2 a3 = ⟨k0, k1, k2, k3⟩)
    (hQ : (rightB x y a b = false ∧ k0 = 0 ∧ k1 = 0 ∧ k2 = 0 ∧ k3 = 0) ∨ (rightB x y a b = true ∧ (0 ≤ a ∧ a ≤ 65536 ∧ 0 ≤ b ∧ b ≤ 65536) ∧ ((a2 < a - a0 ∧ k2 = a - a0 - a2) ∨ (a - a0 ≤ a2 ∧ k2 = 0)) ∧ ((a3 < b - a1 ∧ k3 = b - a1 - a3) ∨ (b - a1 ≤ a3 ∧ k3 = 0)) ∧ insideB k0 k1 k2 k3 x y a b = true ∧ ((emptyB t0 t1 t2 t3 = true ∧ emptyB o0 o1 o2 o3 = true) ∨ (o0 = t0 ∧ o1 = t1 ∧ o2 = t2 ∧ o3 = t3)))) :
    Calls Try.prog 10 #[.agg #[.int .i64 x, .int .i64 y, .int .i64 a, .int .i64 b], .agg #[.int .u16 a0, .int .u16 a1, .int .u16 a2, .int .u16 a3], .agg #[.int .u16 b0, .int .u16 b1, .int .u16 b2, .int .u16 b3]] w fun e w' => e = .returned (.bool true) ∧ Below w.heap.size w w' := by
  have HS := Lib.hid (I0.start w x y a b a0 a1 a2 a3 b0 b1 b2 b3 27 47 47)
  have HI := Lib.hid hI
  have HO := Lib.hid hO
  have HT := Lib.hid hT
  have HK := Lib.hid hK
  have HQ := Lib.hid hQ
  clear hI hO hT hK hQ
  obtain ⟨pa0, qa0⟩ := ha0
  obtain ⟨pa1, qa1⟩ := ha1
  obtain ⟨pa2, qa2⟩ := ha2
  obtain ⟨pa3, qa3⟩ := ha3
  obtain ⟨pb0, qb0⟩ := hb0
  obtain ⟨pb1, qb1⟩ := hb1
  obtain ⟨pb2, qb2⟩ := hb2
  obtain ⟨pb3, qb3⟩ := hb3
  go_enter Try.func10, Try.ntmps10
  go_upto_region 1 with fail
  go_cut [7] (fun s7 wx => ∃ g : Nat, s7 = .pointer (some ⟨g, 0, none⟩) ∧ I0 w.heap.size w x y a b a0 a1 a2 a3 b0 b1 b2 b3 wx ∧ R4 g o0 o1 o2 o3 wx)
  case first =>
    have hS := HS.out
    have wra0 : IntKind.i64.wrap a0 = a0 := IntWalk.i64_in _ (by omega)
    have wra1 : IntKind.i64.wrap a1 = a1 := IntWalk.i64_in _ (by omega)
    have wrb0 : IntKind.i64.wrap b0 = b0 := IntWalk.i64_in _ (by omega)
    have wrb1 : IntKind.i64.wrap b1 = b1 := IntWalk.i64_in _ (by omega)
    refine wp_region_noPanic ?_
    refine wp_region_held_drew (S := fun wx => (wx.cell? ⟨w.heap.size, 0, none⟩ = some (.int .i64 x) ∧ wx.cell? ⟨w.heap.size, 1, none⟩ = some (.int .i64 y) ∧ wx.cell? ⟨w.heap.size, 2, none⟩ = some (.int .i64 a) ∧ wx.cell? ⟨w.heap.size, 3, none⟩ = some (.int .i64 b) ∧ w.heap.size < wx.heap.size) ∧ (wx.cell? ⟨w.heap.size + 1, 0, none⟩ = some (.int .u16 a0) ∧ wx.cell? ⟨w.heap.size + 1, 1, none⟩ = some (.int .u16 a1) ∧ wx.cell? ⟨w.heap.size + 1, 2, none⟩ = some (.int .u16 a2) ∧ wx.cell? ⟨w.heap.size + 1, 3, none⟩ = some (.int .u16 a3) ∧ w.heap.size + 1 < wx.heap.size) ∧ (wx.cell? ⟨w.heap.size + 1 + 1, 0, none⟩ = some (.int .u16 b0) ∧ wx.cell? ⟨w.heap.size + 1 + 1, 1, none⟩ = some (.int .u16 b1) ∧ wx.cell? ⟨w.heap.size + 1 + 1, 2, none⟩ = some (.int .u16 b2) ∧ wx.cell? ⟨w.heap.size + 1 + 1, 3, none⟩ = some (.int .u16 b3) ∧ w.heap.size + 1 + 1 < wx.heap.size) ∧ Below w.heap.size w wx) (by kernel_rfl) (by (show I0 w.heap.size w x y a b a0 a1 a2 a3 b0 b1 b2 b3 _; (repeat' (first | (with_reducible assumption) | (with_reducible refine I0.drew ?_) | (with_reducible refine I0.alloc ?_ _) | (with_reducible refine I0.far4 ?_ ?_ _ _ _ _) | (simp; done) | (simp; omega) | omega)))) (fun hHeld => ?_)
    refine wpAnyH_take (i := 0) (v := ?v0) rfl (by kernel_rfl) (by kernel_rfl) (by kernel_rfl) (fun _ _ _ h => h) (Or.inl ⟨by kernel_rfl, ?y0⟩) (by assumption) ?r0
    case y0 => (intro wq hSw; (try dsimp only at hSw); go_simp; (try with_reducible rfl))
    (try simp only [Act.put, List.getElem_toArray, List.getElem_cons_zero, List.setIfInBounds_toArray, List.set_cons_zero, List.set_cons_succ])
    refine wpAnyH_take (i := 1) (v := ?v1) rfl (by kernel_rfl) (by kernel_rfl) (by kernel_rfl) (fun _ _ _ h => h) (Or.inl ⟨by kernel_rfl, ?y1⟩) (by assumption) ?r1
    case y1 => (intro wq hSw; (try dsimp only at hSw); go_simp; (try with_reducible rfl))
    (try simp only [Act.put, List.getElem_toArray, List.getElem_cons_succ, List.getElem_cons_zero, List.setIfInBounds_toArray, List.set_cons_zero, List.set_cons_succ])
    refine wpAnyH_take (i := 2) (v := ?v2) rfl (by kernel_rfl) (by kernel_rfl) (by kernel_rfl) (fun _ _ _ h => h) (Or.inl ⟨by kernel_rfl, ?y2⟩) (by assumption) ?r2
    case y2 => (intro wq hSw; (try dsimp only at hSw); go_simp; (try with_reducible rfl))
    (try simp only [Act.put, List.getElem_toArray, List.getElem_cons_succ, List.getElem_cons_zero, List.setIfInBounds_toArray, List.set_cons_zero, List.set_cons_succ])
    refine wpAnyH_take (i := 3) (v := ?v3) rfl (by kernel_rfl) (by kernel_rfl) (by kernel_rfl) (fun _ _ _ h => h) (Or.inl ⟨by kernel_rfl, ?y3⟩) (by assumption) ?r3
    case y3 => (intro wq hSw; (try dsimp only at hSw); go_simp; (try with_reducible rfl))
    (try simp only [Act.put, List.getElem_toArray, List.getElem_cons_succ, List.getElem_cons_zero, List.setIfInBounds_toArray, List.set_cons_zero, List.set_cons_succ])
    refine wpAnyH_take (i := 4) (v := ?v4) rfl (by kernel_rfl) (by kernel_rfl) (by kernel_rfl) (fun _ _ _ h => h) (Or.inl ⟨by kernel_rfl, ?y4⟩) (by assumption) ?r4
    case y4 => (intro wq hSw; (try dsimp only at hSw); go_simp; (try with_reducible rfl))
    (try simp only [Act.put, List.getElem_toArray, List.getElem_cons_succ, List.getElem_cons_zero, List.setIfInBounds_toArray, List.set_cons_zero, List.set_cons_succ])
    refine wpAnyH_take (i := 5) (v := ?v5) rfl (by kernel_rfl) (by kernel_rfl) (by kernel_rfl) (fun _ _ _ h => h) (Or.inl ⟨by kernel_rfl, ?y5⟩) (by assumption) ?r5
    case y5 => (intro wq hSw; (try dsimp only at hSw); go_simp; (try with_reducible rfl))
    (try simp only [Act.put, List.getElem_toArray, List.getElem_cons_succ, List.getElem_cons_zero, List.setIfInBounds_toArray, List.set_cons_zero, List.set_cons_succ])
    refine wpAnyH_take (i := 6) (v := ?v6) rfl (by kernel_rfl) (by kernel_rfl) (by kernel_rfl) (fun _ _ _ h => h) (Or.inl ⟨by kernel_rfl, ?y6⟩) (by assumption) ?r6
    case y6 => (intro wq hSw; (try dsimp only at hSw); go_simp; (try with_reducible rfl))
    (try simp only [Act.put, List.getElem_toArray, List.getElem_cons_succ, List.getElem_cons_zero, List.setIfInBounds_toArray, List.set_cons_zero, List.set_cons_succ])
    refine wpAnyH_take (i := 7) (v := ?v7) rfl (by kernel_rfl) (by kernel_rfl) (by kernel_rfl) (fun _ _ _ h => h) (Or.inl ⟨by kernel_rfl, ?y7⟩) (by assumption) ?r7
    case y7 => (intro wq hSw; (try dsimp only at hSw); go_simp; (try with_reducible rfl))
    (try simp only [Act.put, List.getElem_toArray, List.getElem_cons_succ, List.getElem_cons_zero, List.setIfInBounds_toArray, List.set_cons_zero, List.set_cons_succ])
    refine wpAnyH_take (i := 9) (v := ?v9) rfl (by kernel_rfl) (by kernel_rfl) (by kernel_rfl) (fun _ _ _ h => h) (Or.inl ⟨by kernel_rfl, ?y9⟩) (by assumption) ?r9
    case y9 => (intro wq hSw; (try dsimp only at hSw); go_simp; (try with_reducible rfl))
    (try simp only [Act.put, List.getElem_toArray, List.getElem_cons_succ, List.getElem_cons_zero, List.setIfInBounds_toArray, List.set_cons_zero, List.set_cons_succ])
    refine wpAnyH_take (i := 10) (v := ?v10) rfl (by kernel_rfl) (by kernel_rfl) (by kernel_rfl) (fun _ _ _ h => h) (Or.inl ⟨by kernel_rfl, ?y10⟩) (by assumption) ?r10
    case y10 => (intro wq hSw; (try dsimp only at hSw); go_simp; (try with_reducible rfl))
    (try simp only [Act.put, List.getElem_toArray, List.getElem_cons_succ, List.getElem_cons_zero, List.setIfInBounds_toArray, List.set_cons_zero, List.set_cons_succ])
    refine wpAnyH_take (i := 11) (v := ?v11) rfl (by kernel_rfl) (by kernel_rfl) (by kernel_rfl) (fun _ _ _ h => h) (Or.inl ⟨by kernel_rfl, ?y11⟩) (by assumption) ?r11
    case y11 => (intro wq hSw; (try dsimp only at hSw); go_simp; (try with_reducible rfl))
    (try simp only [Act.put, List.getElem_toArray, List.getElem_cons_succ, List.getElem_cons_zero, List.setIfInBounds_toArray, List.set_cons_zero, List.set_cons_succ])
    refine wpAnyH_take (i := 12) (v := ?v12) rfl (by kernel_rfl) (by kernel_rfl) (by kernel_rfl) (fun _ _ _ h => h) (Or.inl ⟨by kernel_rfl, ?y12⟩) (by assumption) ?r12
    case y12 => (intro wq hSw; (try dsimp only at hSw); go_simp; (try with_reducible rfl))
    (try simp only [Act.put, List.getElem_toArray, List.getElem_cons_succ, List.getElem_cons_zero, List.setIfInBounds_toArray, List.set_cons_zero, List.set_cons_succ])
    refine wpAnyH_take (i := 13) (v := ?v13) rfl (by kernel_rfl) (by kernel_rfl) (by kernel_rfl) (fun _ _ _ h => h) (Or.inl ⟨by kernel_rfl, ?y13⟩) (by assumption) ?r13
    case y13 => (intro wq hSw; (try dsimp only at hSw); go_simp; (try with_reducible rfl))
    (try simp only [Act.put, List.getElem_toArray, List.getElem_cons_succ, List.getElem_cons_zero, List.setIfInBounds_toArray, List.set_cons_zero, List.set_cons_succ])
    refine wpAnyH_take (i := 14) (v := ?v14) rfl (by kernel_rfl) (by kernel_rfl) (by kernel_rfl) (fun _ _ _ h => h) (Or.inl ⟨by kernel_rfl, ?y14⟩) (by assumption) ?r14
    case y14 => (intro wq hSw; (try dsimp only at hSw); go_simp; (try with_reducible rfl))
    (try simp only [Act.put, List.getElem_toArray, List.getElem_cons_succ, List.getElem_cons_zero, List.setIfInBounds_toArray, List.set_cons_zero, List.set_cons_succ])
    refine wpAnyH_take (i := 15) (v := ?v15) rfl (by kernel_rfl) (by kernel_rfl) (by kernel_rfl) (fun _ _ _ h => h) (Or.inl ⟨by kernel_rfl, ?y15⟩) (by assumption) ?r15
    case y15 => (intro wq hSw; (try dsimp only at hSw); go_simp; (try with_reducible rfl))
    (try simp only [Act.put, List.getElem_toArray, List.getElem_cons_succ, List.getElem_cons_zero, List.setIfInBounds_toArray, List.set_cons_zero, List.set_cons_succ])
    refine wpAnyH_ready (rs := [8, 17]) (by kernel_rfl) (by simp) ?_
    refine AllReadyH.cons rfl (fun K hK => ?_) ?_
    · go_simp
      (with_reducible refine (inset_k HI.out _).mono ?_)
      rintro e w1 ⟨rfl, hb⟩; have hT : I0 w.heap.size w x y a b a0 a1 a2 a3 b0 b1 b2 b3 w1 := I0.next hb (by (repeat' (first | (with_reducible assumption) | (with_reducible refine I0.drew ?_) | (with_reducible refine I0.alloc ?_ _) | (with_reducible refine I0.far4 ?_ ?_ _ _ _ _) | (simp; done) | (simp; omega) | omega))); have hz := hT.2.2.1.2.2.2.2; obtain ⟨hc, hf⟩ := bcell hb
      (try dsimp only)
      refine hK.out _ _ (by (show I0 w.heap.size w x y a b a0 a1 a2 a3 b0 b1 b2 b3 _; (repeat' (first | (with_reducible assumption) | (with_reducible refine I0.drew ?_) | (with_reducible refine I0.alloc ?_ _) | (with_reducible refine I0.far4 ?_ ?_ _ _ _ _) | (simp; done) | (simp; omega) | omega)))) (fun hHeld => ?_)
      clear hK K
      (try simp only [Act.put, List.getElem_toArray, List.getElem_cons_succ, List.getElem_cons_zero, List.setIfInBounds_toArray, List.set_cons_zero, List.set_cons_succ])
      refine wpAnyH_ready (rs := [16, 17]) (by kernel_rfl) (by simp) ?_
      refine AllReadyH.cons rfl (fun K hK => ?_) ?_
      · go_simp
        (with_reducible refine (inset_k HO.out _).mono ?_)
        rintro e w1 ⟨rfl, hb⟩; have hT : I0 w.heap.size w x y a b a0 a1 a2 a3 b0 b1 b2 b3 w1 := I0.next hb (by (repeat' (first | (with_reducible assumption) | (with_reducible refine I0.drew ?_) | (with_reducible refine I0.alloc ?_ _) | (with_reducible refine I0.far4 ?_ ?_ _ _ _ _) | (simp; done) | (simp; omega) | omega))); have hz := hT.2.2.1.2.2.2.2; obtain ⟨hc, hf⟩ := bcell hb
        (try dsimp only)
        refine hK.out _ _ (by (show I0 w.heap.size w x y a b a0 a1 a2 a3 b0 b1 b2 b3 _; (repeat' (first | (with_reducible assumption) | (with_reducible refine I0.drew ?_) | (with_reducible refine I0.alloc ?_ _) | (with_reducible refine I0.far4 ?_ ?_ _ _ _ _) | (simp; done) | (simp; omega) | omega)))) (fun hHeld => ?_)
        clear hK K
        (try simp only [Act.put, List.getElem_toArray, List.getElem_cons_succ, List.getElem_cons_zero, List.setIfInBounds_toArray, List.set_cons_zero, List.set_cons_succ])
        refine wpAnyH_ready (rs := [17]) (by kernel_rfl) (by simp) ?_
        refine AllReadyH.cons rfl (fun K hK => ?_) ?_
        · go_simp
          (try dsimp only)
          refine hK.out _ _ (by (show I0 w.heap.size w x y a b a0 a1 a2 a3 b0 b1 b2 b3 _; (repeat' (first | (with_reducible assumption) | (with_reducible refine I0.drew ?_) | (with_reducible refine I0.alloc ?_ _) | (with_reducible refine I0.far4 ?_ ?_ _ _ _ _) | (simp; done) | (simp; omega) | omega)))) (fun hHeld => ?_)
          clear hK K
          (try simp only [Act.put, List.getElem_toArray, List.getElem_cons_succ, List.getElem_cons_zero, List.setIfInBounds_toArray, List.set_cons_zero, List.set_cons_succ])
          refine wpAnyH_ready (rs := [18]) (by kernel_rfl) (by simp) ?_
          refine AllReadyH.cons rfl (fun K hK => ?_) ?_
          · go_simp
            (try dsimp only)
            refine hK.out _ _ (by (show I0 w.heap.size w x y a b a0 a1 a2 a3 b0 b1 b2 b3 _; (repeat' (first | (with_reducible assumption) | (with_reducible refine I0.drew ?_) | (with_reducible refine I0.alloc ?_ _) | (with_reducible refine I0.far4 ?_ ?_ _ _ _ _) | (simp; done) | (simp; omega) | omega)))) (fun hHeld => ?_)
            clear hK K
            (try simp only [Act.put, List.getElem_toArray, List.getElem_cons_succ, List.getElem_cons_zero, List.setIfInBounds_toArray, List.set_cons_zero, List.set_cons_succ])
            refine wpAnyH_done (by kernel_rfl) ?_ _
            refine NoPanic.normal ?_
            go_wp2_with fail
            go_meet
            refine ⟨_, rfl, ?_, ?_⟩
            · (repeat' (first | (with_reducible assumption) | (with_reducible refine I0.drew ?_) | (with_reducible refine I0.alloc ?_ _) | (with_reducible refine I0.far4 ?_ ?_ _ _ _ _) | (simp; done) | (simp; omega) | omega))
            first | (with_reducible exact R4.new _ _ _ _ _ _) | (with_reducible exact R4.put hN _ _ _ _)
          exact AllReadyH.nil
        exact AllReadyH.nil
      refine AllReadyH.cons rfl (fun K hK => ?_) ?_
      · go_simp
        (try dsimp only)
        refine hK.out _ _ (by (show I0 w.heap.size w x y a b a0 a1 a2 a3 b0 b1 b2 b3 _; (repeat' (first | (with_reducible assumption) | (with_reducible refine I0.drew ?_) | (with_reducible refine I0.alloc ?_ _) | (with_reducible refine I0.far4 ?_ ?_ _ _ _ _) | (simp; done) | (simp; omega) | omega)))) (fun hHeld => ?_)
        clear hK K
        (try simp only [Act.put, List.getElem_toArray, List.getElem_cons_succ, List.getElem_cons_zero, List.setIfInBounds_toArray, List.set_cons_zero, List.set_cons_succ])
        refine wpAnyH_ready (rs := [16]) (by kernel_rfl) (by simp) ?_
        refine AllReadyH.cons rfl (fun K hK => ?_) ?_
        · go_simp
          (with_reducible refine (inset_k HO.out _).mono ?_)
          rintro e w1 ⟨rfl, hb⟩; have hT : I0 w.heap.size w x y a b a0 a1 a2 a3 b0 b1 b2 b3 w1 := I0.next hb (by (repeat' (first | (with_reducible assumption) | (with_reducible refine I0.drew ?_) | (with_reducible refine I0.alloc ?_ _) | (with_reducible refine I0.far4 ?_ ?_ _ _ _ _) | (simp; done) | (simp; omega) | omega))); have hz := hT.2.2.1.2.2.2.2; obtain ⟨hc, hf⟩ := bcell hb
          have hN := F4.next hb (F4.new _ (.int .i64 0) (.int .i64 0) (.int .i64 0) (.int .i64 0) 27)
          have hNN := hN
          obtain ⟨⟨c0, c1, c2, c3⟩, ⟨f0, f1, f2, f3⟩, hq⟩ := hNN
          (try dsimp only)
          refine hK.out _ _ (by (show I0 w.heap.size w x y a b a0 a1 a2 a3 b0 b1 b2 b3 _; (repeat' (first | (with_reducible assumption) | (with_reducible refine I0.drew ?_) | (with_reducible refine I0.alloc ?_ _) | (with_reducible refine I0.far4 ?_ ?_ _ _ _ _) | (simp; done) | (simp; omega) | omega)))) (fun hHeld => ?_)
          clear hK K
          (try simp only [Act.put, List.getElem_toArray, List.getElem_cons_succ, List.getElem_cons_zero, List.setIfInBounds_toArray, List.set_cons_zero, List.set_cons_succ])
          refine wpAnyH_ready (rs := [18]) (by kernel_rfl) (by simp) ?_
          refine AllReadyH.cons rfl (fun K hK => ?_) ?_
          · go_simp
            (try dsimp only)
            refine hK.out _ _ (by (show I0 w.heap.size w x y a b a0 a1 a2 a3 b0 b1 b2 b3 _; (repeat' (first | (with_reducible assumption) | (with_reducible refine I0.drew ?_) | (with_reducible refine I0.alloc ?_ _) | (with_reducible refine I0.far4 ?_ ?_ _ _ _ _) | (simp; done) | (simp; omega) | omega)))) (fun hHeld => ?_)
            clear hK K
            (try simp only [Act.put, List.getElem_toArray, List.getElem_cons_succ, List.getElem_cons_zero, List.setIfInBounds_toArray, List.set_cons_zero, List.set_cons_succ])
            refine wpAnyH_done (by kernel_rfl) ?_ _
            refine NoPanic.normal ?_
            go_wp2_with fail
            go_meet
            refine ⟨_, rfl, ?_, ?_⟩
            · (repeat' (first | (with_reducible assumption) | (with_reducible refine I0.drew ?_) | (with_reducible refine I0.alloc ?_ _) | (with_reducible refine I0.far4 ?_ ?_ _ _ _ _) | (simp; done) | (simp; omega) | omega))
            first | (with_reducible exact R4.new _ _ _ _ _ _) | (with_reducible exact R4.put hN _ _ _ _)
          exact AllReadyH.nil
        exact AllReadyH.nil
      exact AllReadyH.nil
    refine AllReadyH.cons rfl (fun K hK => ?_) ?_
    · go_simp
      (try dsimp only)
      refine hK.out _ _ (by (show I0 w.heap.size w x y a b a0 a1 a2 a3 b0 b1 b2 b3 _; (repeat' (first | (with_reducible assumption) | (with_reducible refine I0.drew ?_) | (with_reducible refine I0.alloc ?_ _) | (with_reducible refine I0.far4 ?_ ?_ _ _ _ _) | (simp; done) | (simp; omega) | omega)))) (fun hHeld => ?_)
      clear hK K
      (try simp only [Act.put, List.getElem_toArray, List.getElem_cons_succ, List.getElem_cons_zero, List.setIfInBounds_toArray, List.set_cons_zero, List.set_cons_succ])
      refine wpAnyH_ready (rs := [8]) (by kernel_rfl) (by simp) ?_
      refine AllReadyH.cons rfl (fun K hK => ?_) ?_
      · go_simp
        (with_reducible refine (inset_k HI.out _).mono ?_)
        rintro e w1 ⟨rfl, hb⟩; have hT : I0 w.heap.size w x y a b a0 a1 a2 a3 b0 b1 b2 b3 w1 := I0.next hb (by (repeat' (first | (with_reducible assumption) | (with_reducible refine I0.drew ?_) | (with_reducible refine I0.alloc ?_ _) | (with_reducible refine I0.far4 ?_ ?_ _ _ _ _) | (simp; done) | (simp; omega) | omega))); have hz := hT.2.2.1.2.2.2.2; obtain ⟨hc, hf⟩ := bcell hb
        have hN : F4 (w.heap.size + 1 + 1 + 1) w1 := F4.next hb (F4.drew (by simpa using F4.new (((w.alloc (.cells #[.int .i64 x, .int .i64 y, .int .i64 a, .int .i64 b] 27)).alloc (.cells #[.int .u16 a0, .int .u16 a1, .int .u16 a2, .int .u16 a3] 47)).alloc (.cells #[.int .u16 b0, .int .u16 b1, .int .u16 b2, .int .u16 b3] 47)) (.int .i64 0) (.int .i64 0) (.int .i64 0) (.int .i64 0) 27))
        (try dsimp only)
        refine hK.out _ _ (by (show I0 w.heap.size w x y a b a0 a1 a2 a3 b0 b1 b2 b3 _; (repeat' (first | (with_reducible assumption) | (with_reducible refine I0.drew ?_) | (with_reducible refine I0.alloc ?_ _) | (with_reducible refine I0.far4 ?_ ?_ _ _ _ _) | (simp; done) | (simp; omega) | omega)))) (fun hHeld => ?_)
        clear hK K
        (try simp only [Act.put, List.getElem_toArray, List.getElem_cons_succ, List.getElem_cons_zero, List.setIfInBounds_toArray, List.set_cons_zero, List.set_cons_succ])
        refine wpAnyH_ready (rs := [16]) (by kernel_rfl) (by simp) ?_
        refine AllReadyH.cons rfl (fun K hK => ?_) ?_
        · go_simp
          (with_reducible refine (inset_k HO.out _).mono ?_)
          rintro e w1 ⟨rfl, hb⟩; have hT : I0 w.heap.size w x y a b a0 a1 a2 a3 b0 b1 b2 b3 w1 := I0.next hb (by (repeat' (first | (with_reducible assumption) | (with_reducible refine I0.drew ?_) | (with_reducible refine I0.alloc ?_ _) | (with_reducible refine I0.far4 ?_ ?_ _ _ _ _) | (simp; done) | (simp; omega) | omega))); have hz := hT.2.2.1.2.2.2.2; obtain ⟨hc, hf⟩ := bcell hb
          have hN := F4.next hb hN
          have hNN := hN
          obtain ⟨⟨c0, c1, c2, c3⟩, ⟨f0, f1, f2, f3⟩, hq⟩ := hNN
          (try dsimp only)
          refine hK.out _ _ (by (show I0 w.heap.size w x y a b a0 a1 a2 a3 b0 b1 b2 b3 _; (repeat' (first | (with_reducible assumption) | (with_reducible refine I0.drew ?_) | (with_reducible refine I0.alloc ?_ _) | (with_reducible refine I0.far4 ?_ ?_ _ _ _ _) | (simp; done) | (simp; omega) | omega)))) (fun hHeld => ?_)
          clear hK K
          (try simp only [Act.put, List.getElem_toArray, List.getElem_cons_succ, List.getElem_cons_zero, List.setIfInBounds_toArray, List.set_cons_zero, List.set_cons_succ])
          refine wpAnyH_ready (rs := [18]) (by kernel_rfl) (by simp) ?_
          refine AllReadyH.cons rfl (fun K hK => ?_) ?_
          · go_simp
            (try dsimp only)
            refine hK.out _ _ (by (show I0 w.heap.size w x y a b a0 a1 a2 a3 b0 b1 b2 b3 _; (repeat' (first | (with_reducible assumption) | (with_reducible refine I0.drew ?_) | (with_reducible refine I0.alloc ?_ _) | (with_reducible refine I0.far4 ?_ ?_ _ _ _ _) | (simp; done) | (simp; omega) | omega)))) (fun hHeld => ?_)
            clear hK K
            (try simp only [Act.put, List.getElem_toArray, List.getElem_cons_succ, List.getElem_cons_zero, List.setIfInBounds_toArray, List.set_cons_zero, List.set_cons_succ])
            refine wpAnyH_done (by kernel_rfl) ?_ _
            refine NoPanic.normal ?_
            go_wp2_with fail
            go_meet
            refine ⟨_, rfl, ?_, ?_⟩
            · (repeat' (first | (with_reducible assumption) | (with_reducible refine I0.drew ?_) | (with_reducible refine I0.alloc ?_ _) | (with_reducible refine I0.far4 ?_ ?_ _ _ _ _) | (simp; done) | (simp; omega) | omega))
            first | (with_reducible exact R4.new _ _ _ _ _ _) | (with_reducible exact R4.put hN _ _ _ _)
          exact AllReadyH.nil
        exact AllReadyH.nil
      exact AllReadyH.nil
    exact AllReadyH.nil
  case rest =>
    obtain ⟨ga, rfl, hT, GA⟩ := hcut
    obtain ⟨⟨r0, r1, r2, r3, r4⟩, ⟨uv, uw, ux, uy, uz⟩, ⟨vv, vw, vx, vy, vz⟩, hB⟩ := id hT
    obtain ⟨ga0, ga1, ga2, ga3, ga4⟩ := id GA
    go_upto_region 2 with fail
    go_cut [8] (fun s8 wx => ∃ g : Nat, s8 = .pointer (some ⟨g, 0, none⟩) ∧ I0 w.heap.size w x y a b a0 a1 a2 a3 b0 b1 b2 b3 wx ∧ R4 ga o0 o1 o2 o3 wx ∧ R4 g t0 t1 t2 t3 wx)
    case first =>
      go_wp2_with (go_at_call 37; (with_reducible refine (inset_k HT.out _).mono ?_); rintro e w1 ⟨rfl, hb⟩; have hT1 := I0.next hb hT; have GA1 := R4.next hb GA)
      go_meet
      refine ⟨_, rfl, ?_, ?_, ?_⟩
      · with_reducible exact I0.alloc hT1 _
      · with_reducible exact R4.alloc GA1 _
      · with_reducible exact R4.new _ _ _ _ _ _
    case rest =>
    clear r0 r1 r2 r3 r4 uv uw ux uy uz vv vw vx vy vz hB ga0 ga1 ga2 ga3 ga4 hT GA
    obtain ⟨gb, rfl, hT, GA, GB⟩ := hcut
    obtain ⟨⟨r0, r1, r2, r3, r4⟩, ⟨uv, uw, ux, uy, uz⟩, ⟨vv, vw, vx, vy, vz⟩, hB⟩ := id hT
    obtain ⟨ga0, ga1, ga2, ga3, ga4⟩ := id GA
    obtain ⟨gb0, gb1, gb2, gb3, gb4⟩ := id GB
    go_upto_region 3 with fail
    go_cut [9] (fun s9 wx => ∃ g : Nat, s9 = .pointer (some ⟨g, 0, none⟩) ∧ I0 w.heap.size w x y a b a0 a1 a2 a3 b0 b1 b2 b3 wx ∧ R4 ga o0 o1 o2 o3 wx ∧ R4 gb t0 t1 t2 t3 wx ∧ R4 g k0 k1 k2 k3 wx)
    case first =>
      go_wp2_with (go_at_call 37; (with_reducible refine (inset_k HK.out _).mono ?_); rintro e w1 ⟨rfl, hb⟩; have hT1 := I0.next hb hT; have GA1 := R4.next hb GA; have GB1 := R4.next hb GB)
      go_meet
      refine ⟨_, rfl, ?_, ?_, ?_, ?_⟩
      · with_reducible exact I0.alloc hT1 _
      · with_reducible exact R4.alloc GA1 _
      · with_reducible exact R4.alloc GB1 _
      · with_reducible exact R4.new _ _ _ _ _ _
    case rest =>
    clear r0 r1 r2 r3 r4 uv uw ux uy uz vv vw vx vy vz hB ga0 ga1 ga2 ga3 ga4 gb0 gb1 gb2 gb3 gb4 hT GA GB
    obtain ⟨gk, rfl, hT, GA, GB, GK⟩ := hcut
    obtain ⟨⟨r0, r1, r2, r3, r4⟩, ⟨uv, uw, ux, uy, uz⟩, ⟨vv, vw, vx, vy, vz⟩, hB⟩ := id hT
    obtain ⟨ga0, ga1, ga2, ga3, ga4⟩ := id GA
    obtain ⟨gb0, gb1, gb2, gb3, gb4⟩ := id GB
    obtain ⟨gk0, gk1, gk2, gk3, gk4⟩ := id GK
    rcases HQ.out with ⟨hR, rfl, rfl, rfl, rfl⟩ | ⟨hR, ⟨wa0, wa1, wb0, wb1⟩, hk2, hk3, hI, hE⟩
    · go_wp2_with (first | (go_at_call 19; (with_reducible refine (right_c _ _ _ _ _).mono ?_); rintro e w1 ⟨rfl, hb⟩; clear r0 r1 r2 r3 r4 uv uw ux uy uz vv vw vx vy vz hB ga0 ga1 ga2 ga3 ga4 gb0 gb1 gb2 gb3 gb4 gk0 gk1 gk2 gk3 gk4; have hT2 := I0.next hb hT; clear hT; have hT := hT2; clear hT2; have GA2 := R4.next hb GA; clear GA; have GA := GA2; clear GA2; have GB2 := R4.next hb GB; clear GB; have GB := GB2; clear GB2; have GK2 := R4.next hb GK; clear GK; have GK := GK2; clear GK2; obtain ⟨⟨r0, r1, r2, r3, r4⟩, ⟨uv, uw, ux, uy, uz⟩, ⟨vv, vw, vx, vy, vz⟩, hB⟩ := id hT; obtain ⟨ga0, ga1, ga2, ga3, ga4⟩ := id GA; obtain ⟨gb0, gb1, gb2, gb3, gb4⟩ := id GB; obtain ⟨gk0, gk1, gk2, gk3, gk4⟩ := id GK; clear hb) | (go_at_call 33; (with_reducible refine (inside_c _ _ _ _ _ _ _ _ _).mono ?_); rintro e w1 ⟨rfl, hb⟩; clear r0 r1 r2 r3 r4 uv uw ux uy uz vv vw vx vy vz hB ga0 ga1 ga2 ga3 ga4 gb0 gb1 gb2 gb3 gb4 gk0 gk1 gk2 gk3 gk4; have hT2 := I0.next hb hT; clear hT; have hT := hT2; clear hT2; have GA2 := R4.next hb GA; clear GA; have GA := GA2; clear GA2; have GB2 := R4.next hb GB; clear GB; have GB := GB2; clear GB2; have GK2 := R4.next hb GK; clear GK; have GK := GK2; clear GK2; obtain ⟨⟨r0, r1, r2, r3, r4⟩, ⟨uv, uw, ux, uy, uz⟩, ⟨vv, vw, vx, vy, vz⟩, hB⟩ := id hT; obtain ⟨ga0, ga1, ga2, ga3, ga4⟩ := id GA; obtain ⟨gb0, gb1, gb2, gb3, gb4⟩ := id GB; obtain ⟨gk0, gk1, gk2, gk3, gk4⟩ := id GK; clear hb) | (go_at_call 21; (with_reducible refine (empty_c _ _ _ _ _).mono ?_); rintro e w1 ⟨rfl, hb⟩; clear r0 r1 r2 r3 r4 uv uw ux uy uz vv vw vx vy vz hB ga0 ga1 ga2 ga3 ga4 gb0 gb1 gb2 gb3 gb4 gk0 gk1 gk2 gk3 gk4; have hT2 := I0.next hb hT; clear hT; have hT := hT2; clear hT2; have GA2 := R4.next hb GA; clear GA; have GA := GA2; clear GA2; have GB2 := R4.next hb GB; clear GB; have GB := GB2; clear GB2; have GK2 := R4.next hb GK; clear GK; have GK := GK2; clear GK2; obtain ⟨⟨r0, r1, r2, r3, r4⟩, ⟨uv, uw, ux, uy, uz⟩, ⟨vv, vw, vx, vy, vz⟩, hB⟩ := id hT; obtain ⟨ga0, ga1, ga2, ga3, ga4⟩ := id GA; obtain ⟨gb0, gb1, gb2, gb3, gb4⟩ := id GB; obtain ⟨gk0, gk1, gk2, gk3, gk4⟩ := id GK; clear hb) | (go_at_call 18; (with_reducible refine (awake_c _).mono ?_); rintro e w1 ⟨rfl, hb⟩; clear r0 r1 r2 r3 r4 uv uw ux uy uz vv vw vx vy vz hB ga0 ga1 ga2 ga3 ga4 gb0 gb1 gb2 gb3 gb4 gk0 gk1 gk2 gk3 gk4; have hT2 := I0.next hb hT; clear hT; have hT := hT2; clear hT2; have GA2 := R4.next hb GA; clear GA; have GA := GA2; clear GA2; have GB2 := R4.next hb GB; clear GB; have GB := GB2; clear GB2; have GK2 := R4.next hb GK; clear GK; have GK := GK2; clear GK2; obtain ⟨⟨r0, r1, r2, r3, r4⟩, ⟨uv, uw, ux, uy, uz⟩, ⟨vv, vw, vx, vy, vz⟩, hB⟩ := id hT; obtain ⟨ga0, ga1, ga2, ga3, ga4⟩ := id GA; obtain ⟨gb0, gb1, gb2, gb3, gb4⟩ := id GB; obtain ⟨gk0, gk1, gk2, gk3, gk4⟩ := id GK; clear hb))
      go_ret
      exact ⟨rfl, hB⟩
    · rcases hE with ⟨hE1, hE2⟩ | ⟨rfl, rfl, rfl, rfl⟩
      · rcases hk2 with ⟨g2, rfl⟩ | ⟨g2, rfl⟩ <;> rcases hk3 with ⟨g3, rfl⟩ | ⟨g3, rfl⟩
        all_goals
          go_wp2_with (first | (go_at_call 19; (with_reducible refine (right_c _ _ _ _ _).mono ?_); rintro e w1 ⟨rfl, hb⟩; clear r0 r1 r2 r3 r4 uv uw ux uy uz vv vw vx vy vz hB ga0 ga1 ga2 ga3 ga4 gb0 gb1 gb2 gb3 gb4 gk0 gk1 gk2 gk3 gk4; have hT2 := I0.next hb hT; clear hT; have hT := hT2; clear hT2; have GA2 := R4.next hb GA; clear GA; have GA := GA2; clear GA2; have GB2 := R4.next hb GB; clear GB; have GB := GB2; clear GB2; have GK2 := R4.next hb GK; clear GK; have GK := GK2; clear GK2; obtain ⟨⟨r0, r1, r2, r3, r4⟩, ⟨uv, uw, ux, uy, uz⟩, ⟨vv, vw, vx, vy, vz⟩, hB⟩ := id hT; obtain ⟨ga0, ga1, ga2, ga3, ga4⟩ := id GA; obtain ⟨gb0, gb1, gb2, gb3, gb4⟩ := id GB; obtain ⟨gk0, gk1, gk2, gk3, gk4⟩ := id GK; clear hb) | (go_at_call 33; (with_reducible refine (inside_c _ _ _ _ _ _ _ _ _).mono ?_); rintro e w1 ⟨rfl, hb⟩; clear r0 r1 r2 r3 r4 uv uw ux uy uz vv vw vx vy vz hB ga0 ga1 ga2 ga3 ga4 gb0 gb1 gb2 gb3 gb4 gk0 gk1 gk2 gk3 gk4; have hT2 := I0.next hb hT; clear hT; have hT := hT2; clear hT2; have GA2 := R4.next hb GA; clear GA; have GA := GA2; clear GA2; have GB2 := R4.next hb GB; clear GB; have GB := GB2; clear GB2; have GK2 := R4.next hb GK; clear GK; have GK := GK2; clear GK2; obtain ⟨⟨r0, r1, r2, r3, r4⟩, ⟨uv, uw, ux, uy, uz⟩, ⟨vv, vw, vx, vy, vz⟩, hB⟩ := id hT; obtain ⟨ga0, ga1, ga2, ga3, ga4⟩ := id GA; obtain ⟨gb0, gb1, gb2, gb3, gb4⟩ := id GB; obtain ⟨gk0, gk1, gk2, gk3, gk4⟩ := id GK; clear hb) | (go_at_call 21; (with_reducible refine (empty_c _ _ _ _ _).mono ?_); rintro e w1 ⟨rfl, hb⟩; clear r0 r1 r2 r3 r4 uv uw ux uy uz vv vw vx vy vz hB ga0 ga1 ga2 ga3 ga4 gb0 gb1 gb2 gb3 gb4 gk0 gk1 gk2 gk3 gk4; have hT2 := I0.next hb hT; clear hT; have hT := hT2; clear hT2; have GA2 := R4.next hb GA; clear GA; have GA := GA2; clear GA2; have GB2 := R4.next hb GB; clear GB; have GB := GB2; clear GB2; have GK2 := R4.next hb GK; clear GK; have GK := GK2; clear GK2; obtain ⟨⟨r0, r1, r2, r3, r4⟩, ⟨uv, uw, ux, uy, uz⟩, ⟨vv, vw, vx, vy, vz⟩, hB⟩ := id hT; obtain ⟨ga0, ga1, ga2, ga3, ga4⟩ := id GA; obtain ⟨gb0, gb1, gb2, gb3, gb4⟩ := id GB; obtain ⟨gk0, gk1, gk2, gk3, gk4⟩ := id GK; clear hb) | (go_at_call 18; (with_reducible refine (awake_c _).mono ?_); rintro e w1 ⟨rfl, hb⟩; clear r0 r1 r2 r3 r4 uv uw ux uy uz vv vw vx vy vz hB ga0 ga1 ga2 ga3 ga4 gb0 gb1 gb2 gb3 gb4 gk0 gk1 gk2 gk3 gk4; have hT2 := I0.next hb hT; clear hT; have hT := hT2; clear hT2; have GA2 := R4.next hb GA; clear GA; have GA := GA2; clear GA2; have GB2 := R4.next hb GB; clear GB; have GB := GB2; clear GB2; have GK2 := R4.next hb GK; clear GK; have GK := GK2; clear GK2; obtain ⟨⟨r0, r1, r2, r3, r4⟩, ⟨uv, uw, ux, uy, uz⟩, ⟨vv, vw, vx, vy, vz⟩, hB⟩ := id hT; obtain ⟨ga0, ga1, ga2, ga3, ga4⟩ := id GA; obtain ⟨gb0, gb1, gb2, gb3, gb4⟩ := id GB; obtain ⟨gk0, gk1, gk2, gk3, gk4⟩ := id GK; clear hb))
          go_ret
          exact ⟨rfl, hB⟩
      · cases hE : emptyB o0 o1 o2 o3
        all_goals
          rcases hk2 with ⟨g2, rfl⟩ | ⟨g2, rfl⟩ <;> rcases hk3 with ⟨g3, rfl⟩ | ⟨g3, rfl⟩
          all_goals
            go_wp2_with (first | (go_at_call 19; (with_reducible refine (right_c _ _ _ _ _).mono ?_); rintro e w1 ⟨rfl, hb⟩; clear r0 r1 r2 r3 r4 uv uw ux uy uz vv vw vx vy vz hB ga0 ga1 ga2 ga3 ga4 gb0 gb1 gb2 gb3 gb4 gk0 gk1 gk2 gk3 gk4; have hT2 := I0.next hb hT; clear hT; have hT := hT2; clear hT2; have GA2 := R4.next hb GA; clear GA; have GA := GA2; clear GA2; have GB2 := R4.next hb GB; clear GB; have GB := GB2; clear GB2; have GK2 := R4.next hb GK; clear GK; have GK := GK2; clear GK2; obtain ⟨⟨r0, r1, r2, r3, r4⟩, ⟨uv, uw, ux, uy, uz⟩, ⟨vv, vw, vx, vy, vz⟩, hB⟩ := id hT; obtain ⟨ga0, ga1, ga2, ga3, ga4⟩ := id GA; obtain ⟨gb0, gb1, gb2, gb3, gb4⟩ := id GB; obtain ⟨gk0, gk1, gk2, gk3, gk4⟩ := id GK; clear hb) | (go_at_call 33; (with_reducible refine (inside_c _ _ _ _ _ _ _ _ _).mono ?_); rintro e w1 ⟨rfl, hb⟩; clear r0 r1 r2 r3 r4 uv uw ux uy uz vv vw vx vy vz hB ga0 ga1 ga2 ga3 ga4 gb0 gb1 gb2 gb3 gb4 gk0 gk1 gk2 gk3 gk4; have hT2 := I0.next hb hT; clear hT; have hT := hT2; clear hT2; have GA2 := R4.next hb GA; clear GA; have GA := GA2; clear GA2; have GB2 := R4.next hb GB; clear GB; have GB := GB2; clear GB2; have GK2 := R4.next hb GK; clear GK; have GK := GK2; clear GK2; obtain ⟨⟨r0, r1, r2, r3, r4⟩, ⟨uv, uw, ux, uy, uz⟩, ⟨vv, vw, vx, vy, vz⟩, hB⟩ := id hT; obtain ⟨ga0, ga1, ga2, ga3, ga4⟩ := id GA; obtain ⟨gb0, gb1, gb2, gb3, gb4⟩ := id GB; obtain ⟨gk0, gk1, gk2, gk3, gk4⟩ := id GK; clear hb) | (go_at_call 21; (with_reducible refine (empty_c _ _ _ _ _).mono ?_); rintro e w1 ⟨rfl, hb⟩; clear r0 r1 r2 r3 r4 uv uw ux uy uz vv vw vx vy vz hB ga0 ga1 ga2 ga3 ga4 gb0 gb1 gb2 gb3 gb4 gk0 gk1 gk2 gk3 gk4; have hT2 := I0.next hb hT; clear hT; have hT := hT2; clear hT2; have GA2 := R4.next hb GA; clear GA; have GA := GA2; clear GA2; have GB2 := R4.next hb GB; clear GB; have GB := GB2; clear GB2; have GK2 := R4.next hb GK; clear GK; have GK := GK2; clear GK2; obtain ⟨⟨r0, r1, r2, r3, r4⟩, ⟨uv, uw, ux, uy, uz⟩, ⟨vv, vw, vx, vy, vz⟩, hB⟩ := id hT; obtain ⟨ga0, ga1, ga2, ga3, ga4⟩ := id GA; obtain ⟨gb0, gb1, gb2, gb3, gb4⟩ := id GB; obtain ⟨gk0, gk1, gk2, gk3, gk4⟩ := id GK; clear hb) | (go_at_call 18; (with_reducible refine (awake_c _).mono ?_); rintro e w1 ⟨rfl, hb⟩; clear r0 r1 r2 r3 r4 uv uw ux uy uz vv vw vx vy vz hB ga0 ga1 ga2 ga3 ga4 gb0 gb1 gb2 gb3 gb4 gk0 gk1 gk2 gk3 gk4; have hT2 := I0.next hb hT; clear hT; have hT := hT2; clear hT2; have GA2 := R4.next hb GA; clear GA; have GA := GA2; clear GA2; have GB2 := R4.next hb GB; clear GB; have GB := GB2; clear GB2; have GK2 := R4.next hb GK; clear GK; have GK := GK2; clear GK2; obtain ⟨⟨r0, r1, r2, r3, r4⟩, ⟨uv, uw, ux, uy, uz⟩, ⟨vv, vw, vx, vy, vz⟩, hB⟩ := id hT; obtain ⟨ga0, ga1, ga2, ga3, ga4⟩ := id GA; obtain ⟨gb0, gb1, gb2, gb3, gb4⟩ := id GB; obtain ⟨gk0, gk1, gk2, gk3, gk4⟩ := id GK; clear hb))
            go_ret
            exact ⟨rfl, hB⟩

theorem insets_w (x y a b a0 a1 a2 a3 b0 b1 b2 b3 : Int) (w : World) (ha0 : 0 ≤ a0 ∧ a0 ≤ 65535) (ha1 : 0 ≤ a1 ∧ a1 ≤ 65535) (ha2 : 0 ≤ a2 ∧ a2 ≤ 65535) (ha3 : 0 ≤ a3 ∧ a3 ≤ 65535) (hb0 : 0 ≤ b0 ∧ b0 ≤ 65535) (hb1 : 0 ≤ b1 ∧ b1 ≤ 65535) (hb2 : 0 ≤ b2 ∧ b2 ≤ 65535) (hb3 : 0 ≤ b3 ∧ b3 ≤ 65535) :
    Calls Try.prog 10 #[.agg #[.int .i64 x, .int .i64 y, .int .i64 a, .int .i64 b], .agg #[.int .u16 a0, .int .u16 a1, .int .u16 a2, .int .u16 a3], .agg #[.int .u16 b0, .int .u16 b1, .int .u16 b2, .int .u16 b3]] w fun e w' => e = .returned (.bool true) ∧ Below w.heap.size w w' := by
  have key : (rightB x y a b = false ∧ insetR x y a b a0 a1 a2 a3 = zeroR) ∨ (rightB x y a b = true ∧ (0 ≤ a ∧ a ≤ 65536 ∧ 0 ≤ b ∧ b ≤ 65536) ∧ (insetR x y a b a0 a1 a2 a3).w = max 0 (a - a0 - a2) ∧ (insetR x y a b a0 a1 a2 a3).h = max 0 (b - a1 - a3) ∧
      insideB (insetR x y a b a0 a1 a2 a3).x (insetR x y a b a0 a1 a2 a3).y (insetR x y a b a0 a1 a2 a3).w (insetR x y a b a0 a1 a2 a3).h x y a b = true ∧
      ((emp (insetR x y a b (a0 + b0) (a1 + b1) 0 0) = true ∧ emp (ins (insetR x y a b a0 a1 0 0) b0 b1 0 0) = true) ∨ ins (insetR x y a b a0 a1 0 0) b0 b1 0 0 = insetR x y a b (a0 + b0) (a1 + b1) 0 0)) := by
    cases hR : rightB x y a b
    · exact Or.inl ⟨rfl, by unfold insetR; rw [hR]; rfl⟩
    · refine Or.inr ⟨rfl, ?_, ?_, ?_, ?_, ?_⟩
      · obtain ⟨⟨k1, k2, k3, k4⟩, k5, k6, k7, k8⟩ := (rightB_iff _ _ _ _).1 hR
        omega
      · have := congrArg Rc.w (ins_eq (r := ⟨x, y, a, b⟩) hR ha0.1 ha1.1 ha2.1 ha3.1)
        exact this
      · have := congrArg Rc.h (ins_eq (r := ⟨x, y, a, b⟩) hR ha0.1 ha1.1 ha2.1 ha3.1)
        exact this
      · exact ins_inside (r := ⟨x, y, a, b⟩) hR ha0.1 ha1.1 ha2.1 ha3.1
      · exact ins_twice (r := ⟨x, y, a, b⟩) hR ha0.1 ha1.1 hb0.1 hb1.1
  unfold ins at key
  generalize hI : insetR x y a b a0 a1 0 0 = I at key
  generalize hK : insetR x y a b a0 a1 a2 a3 = K at key
  generalize hT : insetR x y a b (a0 + b0) (a1 + b1) 0 0 = T at key
  obtain ⟨i0, i1, i2, i3⟩ := I
  obtain ⟨k0, k1, k2, k3⟩ := K
  obtain ⟨t0, t1, t2, t3⟩ := T
  simp only [] at key
  generalize hO : insetR i0 i1 i2 i3 b0 b1 0 0 = O at key
  obtain ⟨o0, o1, o2, o3⟩ := O
  refine insets_w1 x y a b a0 a1 a2 a3 b0 b1 b2 b3 w ha0 ha1 ha2 ha3 hb0 hb1 hb2 hb3 i0 i1 i2 i3 o0 o1 o2 o3 t0 t1 t2 t3 k0 k1 k2 k3 hI hO hT hK ?_
  rcases key with ⟨h1, h2⟩ | ⟨h1, h2, h3, h4, h5, h6⟩
  · simp only [zeroR, Rc.mk.injEq] at h2
    exact Or.inl ⟨h1, h2⟩
  · refine Or.inr ⟨h1, h2, by omega, by omega, h5, ?_⟩
    rcases h6 with ⟨e1, e2⟩ | e
    · exact Or.inl ⟨e1, e2⟩
    · simp only [Rc.mk.injEq] at e
      exact Or.inr e
end Go.Proofs.Yteaiedcajgdodaa
