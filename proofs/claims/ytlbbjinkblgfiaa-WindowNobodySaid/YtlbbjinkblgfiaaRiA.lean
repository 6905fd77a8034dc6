/- Arguments that are rows of rectangles, or a place, opened. -/
import Derived.Test.YtlbbjinkblgfiaaRhA
import Derived.Test.YtlbbjinkblgfiaaOpen
import Derived.Deep.Slices
import Derived.Deep.Fields
import Derived.SizedLaws
namespace Go.Proofs.Ytlbbjinkblgfiaa
open Go.RowKit Go.WideShapes Go.ChangeShapes Go.ChangeAt Go.Deep
theorem cs_int : Try.prog.cellsOf 3 = 1 := by kernel_rfl
theorem cs_rect : Try.prog.cellsOf 23 = 4 := by kernel_rfl
theorem cs_point : Try.prog.cellsOf 26 = 2 := by kernel_rfl
theorem list_of {α : Type} {P : Nat → α → Prop} (n : Nat) (h : ∀ i, i < n → ∃ t, P i t) : ∃ l : List α, l.length = n ∧ ∀ (i : Nat) (t : α), l[i]? = some t → P i t := by
  induction n with
  | zero => exact ⟨[], rfl, fun i t ht => by simp at ht⟩
  | succ n ih =>
    obtain ⟨l, hl, hp⟩ := ih (fun i hi => h i (by omega))
    obtain ⟨t, ht⟩ := h n (by omega)
    refine ⟨l ++ [t], by simp [hl], fun i u hu => ?_⟩
    by_cases hi : i < n
    · rw [List.getElem?_append_left (by omega)] at hu
      exact hp i u hu
    · have hi' := (List.getElem?_eq_some_iff.1 hu).1
      simp at hi'
      have : i = n := by omega
      subst this
      rw [List.getElem?_append_right (by omega), hl] at hu
      simp at hu
      subst hu
      exact ht
section
variable {H : Type} {enc : TypeId × Value → H} {w : World} {fuel : Nat} {x : DataW H × List MemPlace}
theorem cell_spot {w : World} {a : Addr} {u : Value} (h : w.cell? a = some u) : a = ⟨a.block, a.off, none⟩ := by
  obtain ⟨b, o, s⟩ := a
  have : s = none := World.cell?_spot h
  subst this; rfl
theorem open_rect {c0 c1 c2 c3 : Value} (h : DataW.trod enc Try.prog w 0 (fun _ => true) true fuel 23 [c0, c1, c2, c3] = some x) :
    ∃ x y a e : Int, c0 = .int .i64 x ∧ c1 = .int .i64 y ∧ c2 = .int .i64 a ∧ c3 = .int .i64 e := by
  obtain ⟨xs, n, _, hx, _, hlen, hg⟩ := DataW.trod_struct Try.underlying23 h
  obtain ⟨y0, e0⟩ : ∃ y, xs[0]? = some y := ⟨_, List.getElem?_eq_getElem (by rw [hlen]; decide)⟩
  have k0 : DataW.trod enc Try.prog w 0 (fun _ => true) true n 3 [c0] = some y0 := by
    have h := (hg 0 _ rfl).trans e0
    simpa [cs_int] using h
  obtain ⟨y1, e1⟩ : ∃ y, xs[1]? = some y := ⟨_, List.getElem?_eq_getElem (by rw [hlen]; decide)⟩
  have k1 : DataW.trod enc Try.prog w 0 (fun _ => true) true n 3 [c1] = some y1 := by
    have h := (hg 1 _ rfl).trans e1
    simpa [cs_int] using h
  obtain ⟨y2, e2⟩ : ∃ y, xs[2]? = some y := ⟨_, List.getElem?_eq_getElem (by rw [hlen]; decide)⟩
  have k2 : DataW.trod enc Try.prog w 0 (fun _ => true) true n 3 [c2] = some y2 := by
    have h := (hg 2 _ rfl).trans e2
    simpa [cs_int] using h
  obtain ⟨y3, e3⟩ : ∃ y, xs[3]? = some y := ⟨_, List.getElem?_eq_getElem (by rw [hlen]; decide)⟩
  have k3 : DataW.trod enc Try.prog w 0 (fun _ => true) true n 3 [c3] = some y3 := by
    have h := (hg 3 _ rfl).trans e3
    simpa [cs_int] using h
  obtain ⟨z0, q0, _, w0⟩ := DataW.trod_int Try.underlying3 k0
  simp only [List.cons.injEq, and_true] at q0
  obtain ⟨z1, q1, _, w1⟩ := DataW.trod_int Try.underlying3 k1
  simp only [List.cons.injEq, and_true] at q1
  obtain ⟨z2, q2, _, w2⟩ := DataW.trod_int Try.underlying3 k2
  simp only [List.cons.injEq, and_true] at q2
  obtain ⟨z3, q3, _, w3⟩ := DataW.trod_int Try.underlying3 k3
  simp only [List.cons.injEq, and_true] at q3
  exact ⟨z0, z1, z2, z3, q0, q1, q2, q3⟩
end
section
variable {H : Type} {enc : TypeId × Value → H} {w : World}
theorem bytes_rect : Try.prog.bytesOf 23 = 32 := by kernel_rfl
set_option maxRecDepth 100000 in
theorem point_of {b0 : Nat} {v : Value} {d : DataW H} {q : List MemPlace} (hv : Value.okWide Try.prog w .any b0 26 v) (h : DataW.Trod enc Try.prog w 0 (fun _ => true) true 26 v d q) : ∃ x y : Int, v = .agg #[.int .i64 x, .int .i64 y] := by
  obtain ⟨⟨l⟩, rfl, hsz⟩ := okWide_struct Try.underlying26 hv
  obtain ⟨fuel, h⟩ := h
  match l, hsz.trans cs_point with
  | [c0, c1], _ =>
    obtain ⟨xs, n, _, hx, _, hlen, hg⟩ := DataW.trod_struct Try.underlying26 h
    obtain ⟨y0, e0⟩ : ∃ y, xs[0]? = some y := ⟨_, List.getElem?_eq_getElem (by rw [hlen]; decide)⟩
    have k0 : DataW.trod enc Try.prog w 0 (fun _ => true) true n 3 [c0] = some y0 := by
      have h := (hg 0 _ rfl).trans e0
      simpa [cs_int, Value.cells] using h
    obtain ⟨y1, e1⟩ : ∃ y, xs[1]? = some y := ⟨_, List.getElem?_eq_getElem (by rw [hlen]; decide)⟩
    have k1 : DataW.trod enc Try.prog w 0 (fun _ => true) true n 3 [c1] = some y1 := by
      have h := (hg 1 _ rfl).trans e1
      simpa [cs_int, Value.cells] using h
    obtain ⟨z0, q0, _, w0⟩ := DataW.trod_int Try.underlying3 k0
    simp only [List.cons.injEq, and_true] at q0
    obtain ⟨z1, q1, _, w1⟩ := DataW.trod_int Try.underlying3 k1
    simp only [List.cons.injEq, and_true] at q1
    subst q0 q1
    exact ⟨z0, z1, rfl⟩
end
end Go.Proofs.Ytlbbjinkblgfiaa
