/- Arguments that hold pictures, opened. -/
import Derived.Test.YtedhgdjlcddchaaRaU
import Derived.Test.YtedhgdjlcddchaaRaN
import Derived.Test.YtedhgdjlcddchaaOpen
import Derived.Deep.Slices
import Derived.Deep.Fields
namespace Go.Proofs.Ytedhgdjlcddchaa
open Go.RowKit Go.WideShapes Go.ChangeShapes Go.ChangeAt Go.Deep
theorem cs_int : Try.prog.cellsOf 3 = 1 := by kernel_rfl
theorem cs_u32 : Try.prog.cellsOf 50 = 1 := by kernel_rfl
theorem cs_cols : Try.prog.cellsOf 54 = 1 := by kernel_rfl
theorem cs_rect : Try.prog.cellsOf 40 = 4 := by kernel_rfl
theorem cs_point : Try.prog.cellsOf 32 = 2 := by kernel_rfl
theorem cs_image : Try.prog.cellsOf 56 = 3 := by kernel_rfl
theorem cs_paint : Try.prog.cellsOf 96 = 10 := by kernel_rfl
/-- A slice of colours that lies below block B. -/
def RdB (B : Nat) (w : World) (v : Value) (zs : List Int) : Prop :=
  ∃ p c, v = .slice p zs.length c ∧ zs.length ≤ 9223372036854775807 ∧ ∀ (j : Nat) (u : Int), zs[j]? = some u → ∃ b o, p = some ⟨b, o, none⟩ ∧ b < B ∧ w.cell? ⟨b, o + j, none⟩ = some (Value.int .u32 u)
theorem RdB.below {B : Nat} {w w' : World} {v : Value} {zs : List Int} (h : RdB B w v zs) (hb : Below B w w') : RdB B w' v zs := by
  obtain ⟨p, c, h1, h2, h3⟩ := h
  refine ⟨p, c, h1, h2, fun j u hu => ?_⟩
  obtain ⟨b, o, h4, h5, h6⟩ := h3 j u hu
  exact ⟨b, o, h4, h5, (hb.cell (p := ⟨b, o + j, none⟩) h5).trans h6⟩
theorem RdB.rdA {B : Nat} {w : World} {v : Value} {zs : List Int} {A : Option Nat} (h : RdB B w v zs) (hB : B ≤ w.heap.size) (hA : ∀ b, A = some b → B ≤ b) : RdA A w v zs := by
  obtain ⟨p, c, h1, h2, h3⟩ := h
  refine ⟨p, c, h1, fun j u hu => ?_⟩
  obtain ⟨b, o, h4, h5, h6⟩ := h3 j u hu
  exact ⟨b, o, h4, by omega, fun e => by have := hA b e.symm; omega, h6⟩
section
variable {H : Type} {enc : TypeId × Value → H} {w : World} {fuel : Nat} {x : DataW H × List MemPlace}
theorem cell_spot {w : World} {a : Addr} {u : Value} (h : w.cell? a = some u) : a = ⟨a.block, a.off, none⟩ := by
  obtain ⟨b, o, s⟩ := a
  have : s = none := World.cell?_spot h
  subst this; rfl
theorem open_cols {c0 : Value} (h : DataW.trod enc Try.prog w 0 (fun _ => true) true fuel 54 [c0] = some x) : ∃ zs, RdB w.heap.size w c0 zs ∧ Cols zs := by
  rcases open_ints Try.underlying54 Try.underlying50 cs_u32 h with ⟨hcs, _⟩ | ⟨a, len, cap, zs, hcs, _, hl, hm, hz, _, hcell, hwf⟩
  · simp only [List.cons.injEq, and_true] at hcs
    subst hcs
    exact ⟨[], ⟨none, 0, rfl, by simp, fun j u hu => by simp at hu⟩, fun u hu => by simp at hu⟩
  · simp only [List.cons.injEq, and_true] at hcs
    subst hcs
    simp only [if_true] at hz
    have hlen : (zs.take len).length = len := by simp; omega
    refine ⟨zs.take len, ⟨some a, cap, by rw [hlen], by rw [hlen]; unfold maxLen at hm; omega, fun j u hu => ?_⟩, fun u hu => ?_⟩
    · have hj : j < len := by have := (List.getElem?_eq_some_iff.1 hu).1; omega
      rw [List.getElem?_take_of_lt hj] at hu
      have h1 := hcell j (by omega)
      have h0 := hcell 0 (by omega)
      rw [List.getD_eq_getElem?_getD, hu] at h1
      have e : a = ⟨a.block, a.off, none⟩ := cell_spot (by simpa [Addr.add] using h0)
      rw [e, Addr.add_lit] at h1
      exact ⟨a.block, a.off, by rw [← e], by rw [e] at h0; simpa [Addr.add_lit] using block_of_cell h0, h1⟩
    · exact (fun h : (Lit.int .u32 u).wf = true => wf_u32 h) (hwf u (List.mem_of_mem_take hu))
theorem wf_i64 {a : Int} (h : (Lit.int .i64 a).wf = true) : -9223372036854775808 ≤ a ∧ a ≤ 9223372036854775807 := by
  simp only [Lit.wf, decide_eq_true_eq, Bool.and_eq_true] at h
  have h1 : IntKind.i64.min = -9223372036854775808 := rfl
  have h2 : IntKind.i64.max = 9223372036854775807 := rfl
  omega
theorem open_rect {c0 c1 c2 c3 : Value} (h : DataW.trod enc Try.prog w 0 (fun _ => true) true fuel 40 [c0, c1, c2, c3] = some x) :
    ∃ x y a e : Int, c0 = .int .i64 x ∧ c1 = .int .i64 y ∧ c2 = .int .i64 a ∧ c3 = .int .i64 e := by
  obtain ⟨xs, n, _, hx, _, hlen, hg⟩ := DataW.trod_struct Try.underlying40 h
  obtain ⟨y0, e0⟩ : ∃ y, xs[0]? = some y := ⟨_, List.getElem?_eq_getElem (by rw [hlen]; decide)⟩
  have k0 : DataW.trod enc Try.prog w 0 (fun _ => true) true n 3 [c0] = some y0 := by
    have h := (hg 0 _ rfl).trans e0
    simpa [cs_int] using h
  obtain ⟨y1, e1⟩ : ∃ y, xs[1]? = some y := ⟨_, List.getElem?_eq_getElem (by rw [hlen]; decide)⟩
  have k1 : DataW.trod enc Try.prog w 0 (fun _ => true) true n 3 [c1] = some y1 := by
    have h := (hg 1 _ rfl).trans e1
    simpa [cs_int] using h
  obtain ⟨y2, e2⟩ : ∃ y, xs[2]? = some y := ⟨_, List.getElem?_eq_getElem (by rw [hlen]; decide)⟩
  have k2 : DataW.trod enc Try.prog w 0 (fun _ => true) true n 3 [c2] = some y2 := by
    have h := (hg 2 _ rfl).trans e2
    simpa [cs_int] using h
  obtain ⟨y3, e3⟩ : ∃ y, xs[3]? = some y := ⟨_, List.getElem?_eq_getElem (by rw [hlen]; decide)⟩
  have k3 : DataW.trod enc Try.prog w 0 (fun _ => true) true n 3 [c3] = some y3 := by
    have h := (hg 3 _ rfl).trans e3
    simpa [cs_int] using h
  obtain ⟨z0, q0, _, w0⟩ := DataW.trod_int Try.underlying3 k0
  simp only [List.cons.injEq, and_true] at q0
  obtain ⟨z1, q1, _, w1⟩ := DataW.trod_int Try.underlying3 k1
  simp only [List.cons.injEq, and_true] at q1
  obtain ⟨z2, q2, _, w2⟩ := DataW.trod_int Try.underlying3 k2
  simp only [List.cons.injEq, and_true] at q2
  obtain ⟨z3, q3, _, w3⟩ := DataW.trod_int Try.underlying3 k3
  simp only [List.cons.injEq, and_true] at q3
  exact ⟨z0, z1, z2, z3, q0, q1, q2, q3⟩
theorem open_image {c0 c1 c2 : Value} (h : DataW.trod enc Try.prog w 0 (fun _ => true) true fuel 56 [c0, c1, c2] = some x) :
    ∃ (a b : Int) (zs : List Int), c0 = .int .i64 a ∧ c1 = .int .i64 b ∧ RdB w.heap.size w c2 zs ∧ Cols zs := by
  obtain ⟨xs, n, _, hx, _, hlen, hg⟩ := DataW.trod_struct Try.underlying56 h
  obtain ⟨y0, e0⟩ : ∃ y, xs[0]? = some y := ⟨_, List.getElem?_eq_getElem (by rw [hlen]; decide)⟩
  have k0 : DataW.trod enc Try.prog w 0 (fun _ => true) true n 3 [c0] = some y0 := by
    have h := (hg 0 _ rfl).trans e0
    simpa [cs_int] using h
  obtain ⟨y1, e1⟩ : ∃ y, xs[1]? = some y := ⟨_, List.getElem?_eq_getElem (by rw [hlen]; decide)⟩
  have k1 : DataW.trod enc Try.prog w 0 (fun _ => true) true n 3 [c1] = some y1 := by
    have h := (hg 1 _ rfl).trans e1
    simpa [cs_int] using h
  obtain ⟨y2, e2⟩ : ∃ y, xs[2]? = some y := ⟨_, List.getElem?_eq_getElem (by rw [hlen]; decide)⟩
  have k2 : DataW.trod enc Try.prog w 0 (fun _ => true) true n 54 [c2] = some y2 := by
    have h := (hg 2 _ rfl).trans e2
    simpa [cs_cols] using h
  obtain ⟨z0, q0, _, w0⟩ := DataW.trod_int Try.underlying3 k0
  simp only [List.cons.injEq, and_true] at q0
  obtain ⟨z1, q1, _, w1⟩ := DataW.trod_int Try.underlying3 k1
  simp only [List.cons.injEq, and_true] at q1
  obtain ⟨zs, r, hc⟩ := open_cols k2
  exact ⟨z0, z1, zs, q0, q1, r, hc⟩
theorem open_paint {cs : List Value} (h : DataW.trod enc Try.prog w 0 (fun _ => true) true fuel 96 cs = some x) :
    ∃ (t : Pt) (s : Value), cs = [.int .i64 t.k, .int .i64 t.x, .int .i64 t.y, .int .i64 t.a, .int .i64 t.e, .int .u32 t.col, .int .i64 t.wd, .int .i64 t.mw, .int .i64 t.mh, s] ∧ RdB w.heap.size w s t.zs ∧ t.ok := by
  have hcl : cs.length = 10 := by
    obtain ⟨_, _, _, _, hl, _⟩ := DataW.trod_struct Try.underlying96 h
    rw [hl, cs_paint]
  match cs, hcl with
  | [c0, c1, c2, c3, c4, c5, c6, c7, c8, c9], _ =>
    obtain ⟨xs, n, _, hx, _, hlen, hg⟩ := DataW.trod_struct Try.underlying96 h
    obtain ⟨y0, e0⟩ : ∃ y, xs[0]? = some y := ⟨_, List.getElem?_eq_getElem (by rw [hlen]; decide)⟩
    have k0 : DataW.trod enc Try.prog w 0 (fun _ => true) true n 3 [c0] = some y0 := by
      have h := (hg 0 _ rfl).trans e0
      simpa [cs_int] using h
    obtain ⟨y1, e1⟩ : ∃ y, xs[1]? = some y := ⟨_, List.getElem?_eq_getElem (by rw [hlen]; decide)⟩
    have k1 : DataW.trod enc Try.prog w 0 (fun _ => true) true n 40 [c1, c2, c3, c4] = some y1 := by
      have h := (hg 1 _ rfl).trans e1
      simpa [cs_rect] using h
    obtain ⟨y2, e2⟩ : ∃ y, xs[2]? = some y := ⟨_, List.getElem?_eq_getElem (by rw [hlen]; decide)⟩
    have k2 : DataW.trod enc Try.prog w 0 (fun _ => true) true n 50 [c5] = some y2 := by
      have h := (hg 2 _ rfl).trans e2
      simpa [cs_u32] using h
    obtain ⟨y3, e3⟩ : ∃ y, xs[3]? = some y := ⟨_, List.getElem?_eq_getElem (by rw [hlen]; decide)⟩
    have k3 : DataW.trod enc Try.prog w 0 (fun _ => true) true n 3 [c6] = some y3 := by
      have h := (hg 3 _ rfl).trans e3
      simpa [cs_int] using h
    obtain ⟨y4, e4⟩ : ∃ y, xs[4]? = some y := ⟨_, List.getElem?_eq_getElem (by rw [hlen]; decide)⟩
    have k4 : DataW.trod enc Try.prog w 0 (fun _ => true) true n 56 [c7, c8, c9] = some y4 := by
      have h := (hg 4 _ rfl).trans e4
      simpa [cs_image] using h
    obtain ⟨z0, q0, _, w0⟩ := DataW.trod_int Try.underlying3 k0
    simp only [List.cons.injEq, and_true] at q0
    obtain ⟨x0, x1, x2, x3, r0, r1, r2, r3⟩ := open_rect k1
    obtain ⟨z5, q2, _, w2⟩ := DataW.trod_int Try.underlying50 k2
    simp only [List.cons.injEq, and_true] at q2
    obtain ⟨z6, q3, _, w3⟩ := DataW.trod_int Try.underlying3 k3
    simp only [List.cons.injEq, and_true] at q3
    obtain ⟨m0, m1, zs, s0, s1, s2, s3⟩ := open_image k4
    subst q0 r0 r1 r2 r3 q2 q3 s0 s1
    exact ⟨⟨z0, x0, x1, x2, x3, z5, z6, m0, m1, zs⟩, c9, rfl, s2, wf_u32 w2, s3, (wf_i64 w3).2⟩
end
end Go.Proofs.Ytedhgdjlcddchaa
