/- Arguments that are rows of rectangles, or a place, opened. -/
import Derived.Test.YtfabknabkcfpjaaRhA
import Derived.Test.YtfabknabkcfpjaaOpen
import Derived.Deep.Slices
import Derived.Deep.Fields
import Derived.SizedLaws
namespace Go.Proofs.Ytfabknabkcfpjaa
open Go.RowKit Go.WideShapes Go.ChangeShapes Go.ChangeAt Go.Deep
theorem cs_int : Try.prog.cellsOf 3 = 1 := by kernel_rfl
theorem cs_rect : Try.prog.cellsOf 40 = 4 := by kernel_rfl
theorem cs_point : Try.prog.cellsOf 32 = 2 := by kernel_rfl
theorem list_of {α : Type} {P : Nat → α → Prop} (n : Nat) (h : ∀ i, i < n → ∃ t, P i t) : ∃ l : List α, l.length = n ∧ ∀ (i : Nat) (t : α), l[i]? = some t → P i t := by
  induction n with
  | zero => exact ⟨[], rfl, fun i t ht => by simp at ht⟩
  | succ n ih =>
    obtain ⟨l, hl, hp⟩ := ih (fun i hi => h i (by omega))
    obtain ⟨t, ht⟩ := h n (by omega)
    refine ⟨l ++ [t], by simp [hl], fun i u hu => ?_⟩
    by_cases hi : i < n
    · rw [List.getElem?_append_left (by omega)] at hu
      exact hp i u hu
    · have hi' := (List.getElem?_eq_some_iff.1 hu).1
      simp at hi'
      have : i = n := by omega
      subst this
      rw [List.getElem?_append_right (by omega), hl] at hu
      simp at hu
      subst hu
      exact ht
section
variable {H : Type} {enc : TypeId × Value → H} {w : World} {fuel : Nat} {x : DataW H × List MemPlace}
theorem cell_spot {w : World} {a : Addr} {u : Value} (h : w.cell? a = some u) : a = ⟨a.block, a.off, none⟩ := by
  obtain ⟨b, o, s⟩ := a
  have : s = none := World.cell?_spot h
  subst this; rfl
theorem open_rect {c0 c1 c2 c3 : Value} (h : DataW.trod enc Try.prog w 0 (fun _ => true) true fuel 40 [c0, c1, c2, c3] = some x) :
    ∃ x y a e : Int, c0 = .int .i64 x ∧ c1 = .int .i64 y ∧ c2 = .int .i64 a ∧ c3 = .int .i64 e := by
  obtain ⟨xs, n, _, hx, _, hlen, hg⟩ := DataW.trod_struct Try.underlying40 h
  obtain ⟨y0, e0⟩ : ∃ y, xs[0]? = some y := ⟨_, List.getElem?_eq_getElem (by rw [hlen]; decide)⟩
  have k0 : DataW.trod enc Try.prog w 0 (fun _ => true) true n 3 [c0] = some y0 := by
    have h := (hg 0 _ rfl).trans e0
    simpa [cs_int] using h
  obtain ⟨y1, e1⟩ : ∃ y, xs[1]? = some y := ⟨_, List.getElem?_eq_getElem (by rw [hlen]; decide)⟩
  have k1 : DataW.trod enc Try.prog w 0 (fun _ => true) true n 3 [c1] = some y1 := by
    have h := (hg 1 _ rfl).trans e1
    simpa [cs_int] using h
  obtain ⟨y2, e2⟩ : ∃ y, xs[2]? = some y := ⟨_, List.getElem?_eq_getElem (by rw [hlen]; decide)⟩
  have k2 : DataW.trod enc Try.prog w 0 (fun _ => true) true n 3 [c2] = some y2 := by
    have h := (hg 2 _ rfl).trans e2
    simpa [cs_int] using h
  obtain ⟨y3, e3⟩ : ∃ y, xs[3]? = some y := ⟨_, List.getElem?_eq_getElem (by rw [hlen]; decide)⟩
  have k3 : DataW.trod enc Try.prog w 0 (fun _ => true) true n 3 [c3] = some y3 := by
    have h := (hg 3 _ rfl).trans e3
    simpa [cs_int] using h
  obtain ⟨z0, q0, _, w0⟩ := DataW.trod_int Try.underlying3 k0
  simp only [List.cons.injEq, and_true] at q0
  obtain ⟨z1, q1, _, w1⟩ := DataW.trod_int Try.underlying3 k1
  simp only [List.cons.injEq, and_true] at q1
  obtain ⟨z2, q2, _, w2⟩ := DataW.trod_int Try.underlying3 k2
  simp only [List.cons.injEq, and_true] at q2
  obtain ⟨z3, q3, _, w3⟩ := DataW.trod_int Try.underlying3 k3
  simp only [List.cons.injEq, and_true] at q3
  exact ⟨z0, z1, z2, z3, q0, q1, q2, q3⟩
end
section
variable {H : Type} {enc : TypeId × Value → H} {w : World}
set_option maxRecDepth 100000 in
theorem rects_of {b0 : Nat} {v : Value} {d : DataW H} {q : List MemPlace} (hv : Value.okWide Try.prog w .any b0 22 v) (h : DataW.Trod enc Try.prog w 0 (fun _ => true) true 22 v d q) :
    ∃ rs, RdK encR 4 w v rs ∧ (rs = [] ∨ ∃ el sp, d = .slice el sp ∧ el.length = rs.length) := by
  obtain ⟨a0, len, cap, rfl⟩ := okWide_slice Try.underlying22 hv
  obtain ⟨fuel, hf⟩ := h
  rcases open_slice Try.underlying22 hf with ⟨hcs, _⟩ | ⟨a, len', cap', m, n, D, Pl, hcs, _, hl, hm, hmm, hd, hi⟩
  · simp only [Value.cells, List.cons.injEq, Value.slice.injEq, and_true] at hcs
    obtain ⟨rfl, rfl, rfl⟩ := hcs
    exact ⟨[], RdK.nil _ _, .inl rfl⟩
  · simp only [Value.cells, List.cons.injEq, Value.slice.injEq, and_true] at hcs
    obtain ⟨rfl, rfl, rfl⟩ := hcs
    simp only [if_true] at hmm
    subst hmm
    have hel : ∀ i, i < len → ∃ t : Rc, ∀ (k : Nat) (u : Value), (encR t)[k]? = some u → w.cell? (a.add (i * 4 + k)) = some u := by
      intro i hlt
      obtain ⟨cs', hc, ht⟩ := hi i (by omega)
      rw [cs_rect] at hc
      obtain ⟨_, hlen, hat⟩ := World.cells?_some hc
      match cs', hlen with
      | [c0, c1, c2, c3], _ =>
        obtain ⟨x, y, a', e, rfl, rfl, rfl, rfl⟩ := open_rect ht
        refine ⟨⟨x, y, a', e⟩, fun k u hu => ?_⟩
        have hk : k < 4 := by have := (List.getElem?_eq_some_iff.1 hu).1; simpa [encR] using this
        have := hat k hk
        rw [← Go.Deep.add_add, this]
        exact hu
    obtain ⟨ts, hts, hp⟩ := list_of len hel
    refine ⟨ts, ⟨some a, m, by rw [hts], fun j t ht => ?_⟩, .inr ⟨_, _, (Prod.mk.inj hd).1, by simp [hts]⟩⟩
    have h1 := hp j t ht
    have h0 : 0 < ts.length := by have := (List.getElem?_eq_some_iff.1 ht).1; omega
    have k1 := hp 0 _ (List.getElem?_eq_getElem h0)
    have h10 := k1 0 _ rfl
    rw [show 0 * 4 + 0 = 0 from rfl, show a.add 0 = a by unfold Addr.add; simp] at h10
    have e : a = ⟨a.block, a.off, none⟩ := cell_spot h10
    refine ⟨a.block, a.off, by rw [← e], block_of_cell h10, fun k u hu => ?_⟩
    have := h1 k u hu
    rw [e, Addr.add_lit] at this
    rw [← this, Nat.add_assoc]
theorem bytes_rect : Try.prog.bytesOf 40 = 32 := by kernel_rfl
theorem rects_small {ts : List TypeId} {ds : List (DataW H)} {j : Nat} {d : DataW H} {rs : List Rc} (hsz : (DataW.weightsEach Try.prog ts ds).all (· ≤ reachBytes) = true) (ht : ts[j]? = some 22) (hd : ds[j]? = some d)
    (h : rs = [] ∨ ∃ el sp, d = .slice el sp ∧ el.length = rs.length) : rs.length ≤ 4398046511104 := by
  rcases h with rfl | ⟨el, sp, rfl, hl⟩
  · simp
  · have h1 := sized_slice hsz ht hd Try.underlying22
    rw [bytes_rect] at h1
    have h2 := reachBytes_lt
    rw [hl] at h1
    have h3 : (2 : Nat) ^ 47 = 140737488355328 := by decide
    omega
set_option maxRecDepth 100000 in
theorem point_of {b0 : Nat} {v : Value} {d : DataW H} {q : List MemPlace} (hv : Value.okWide Try.prog w .any b0 32 v) (h : DataW.Trod enc Try.prog w 0 (fun _ => true) true 32 v d q) : ∃ x y : Int, v = .agg #[.int .i64 x, .int .i64 y] := by
  obtain ⟨⟨l⟩, rfl, hsz⟩ := okWide_struct Try.underlying32 hv
  obtain ⟨fuel, h⟩ := h
  match l, hsz.trans cs_point with
  | [c0, c1], _ =>
    obtain ⟨xs, n, _, hx, _, hlen, hg⟩ := DataW.trod_struct Try.underlying32 h
    obtain ⟨y0, e0⟩ : ∃ y, xs[0]? = some y := ⟨_, List.getElem?_eq_getElem (by rw [hlen]; decide)⟩
    have k0 : DataW.trod enc Try.prog w 0 (fun _ => true) true n 3 [c0] = some y0 := by
      have h := (hg 0 _ rfl).trans e0
      simpa [cs_int, Value.cells] using h
    obtain ⟨y1, e1⟩ : ∃ y, xs[1]? = some y := ⟨_, List.getElem?_eq_getElem (by rw [hlen]; decide)⟩
    have k1 : DataW.trod enc Try.prog w 0 (fun _ => true) true n 3 [c1] = some y1 := by
      have h := (hg 1 _ rfl).trans e1
      simpa [cs_int, Value.cells] using h
    obtain ⟨z0, q0, _, w0⟩ := DataW.trod_int Try.underlying3 k0
    simp only [List.cons.injEq, and_true] at q0
    obtain ⟨z1, q1, _, w1⟩ := DataW.trod_int Try.underlying3 k1
    simp only [List.cons.injEq, and_true] at q1
    subst q0 q1
    exact ⟨z0, z1, rfl⟩
end
end Go.Proofs.Ytfabknabkcfpjaa
