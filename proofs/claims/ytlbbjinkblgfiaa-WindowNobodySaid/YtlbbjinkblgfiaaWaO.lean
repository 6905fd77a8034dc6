/- Arguments opened: an act, a row of acts. -/
import Derived.Test.YtlbbjinkblgfiaaRiA
import Derived.Test.YtlbbjinkblgfiaaWiA
namespace Go.Proofs.Ytlbbjinkblgfiaa
open Go.RowKit Go.WideShapes Go.ChangeShapes Go.ChangeAt Go.Deep
structure Ac where
  kind : Int
  win : Int
  other : Int
  x : Int
  y : Int
  a : Int
  e : Int
def Ac.cells (t : Ac) : List Value := [.int .i64 t.kind, .int .i64 t.win, .int .i64 t.other, .int .i64 t.x, .int .i64 t.y, .int .i64 t.a, .int .i64 t.e]
def Ac.ok (t : Ac) : Prop := I64 t.win ∧ I64 t.other
theorem i64_of {z : Int} (h : (Lit.int .i64 z).wf = true) : I64 z := by
  unfold I64
  simp [Lit.wf, IntKind.min, IntKind.max, IntKind.signed, IntKind.bits] at h
  omega
theorem cs_act : Try.prog.cellsOf 39 = 7 := by kernel_rfl
section
variable {H : Type} {enc : TypeId × Value → H} {w : World} {fuel : Nat} {x : DataW H × List MemPlace}
set_option maxRecDepth 100000 in
theorem open_act {c0 c1 c2 c3 c4 c5 c6 : Value} (h : DataW.trod enc Try.prog w 0 (fun _ => true) true fuel 39 [c0, c1, c2, c3, c4, c5, c6] = some x) : ∃ t : Ac, [c0, c1, c2, c3, c4, c5, c6] = t.cells ∧ t.ok := by
  obtain ⟨xs, n, _, hx, _, hlen, hg⟩ := DataW.trod_struct Try.underlying39 h
  obtain ⟨y0, e0⟩ : ∃ y, xs[0]? = some y := ⟨_, List.getElem?_eq_getElem (by rw [hlen]; decide)⟩
  have k0 : DataW.trod enc Try.prog w 0 (fun _ => true) true n 3 [c0] = some y0 := by
    have h := (hg 0 _ rfl).trans e0
    simpa [cs_int, cs_rect] using h
  obtain ⟨y1, e1⟩ : ∃ y, xs[1]? = some y := ⟨_, List.getElem?_eq_getElem (by rw [hlen]; decide)⟩
  have k1 : DataW.trod enc Try.prog w 0 (fun _ => true) true n 3 [c1] = some y1 := by
    have h := (hg 1 _ rfl).trans e1
    simpa [cs_int, cs_rect] using h
  obtain ⟨y2, e2⟩ : ∃ y, xs[2]? = some y := ⟨_, List.getElem?_eq_getElem (by rw [hlen]; decide)⟩
  have k2 : DataW.trod enc Try.prog w 0 (fun _ => true) true n 3 [c2] = some y2 := by
    have h := (hg 2 _ rfl).trans e2
    simpa [cs_int, cs_rect] using h
  obtain ⟨y3, e3⟩ : ∃ y, xs[3]? = some y := ⟨_, List.getElem?_eq_getElem (by rw [hlen]; decide)⟩
  have k3 : DataW.trod enc Try.prog w 0 (fun _ => true) true n 23 [c3, c4, c5, c6] = some y3 := by
    have h := (hg 3 _ rfl).trans e3
    simpa [cs_int, cs_rect] using h
  obtain ⟨z0, q0, _, w0⟩ := DataW.trod_int Try.underlying3 k0
  simp only [List.cons.injEq, and_true] at q0
  obtain ⟨z1, q1, _, w1⟩ := DataW.trod_int Try.underlying3 k1
  simp only [List.cons.injEq, and_true] at q1
  obtain ⟨z2, q2, _, w2⟩ := DataW.trod_int Try.underlying3 k2
  simp only [List.cons.injEq, and_true] at q2
  obtain ⟨x3, x4, x5, x6, q3, q4, q5, q6⟩ := open_rect k3
  exact ⟨⟨z0, z1, z2, x3, x4, x5, x6⟩, by rw [q0, q1, q2, q3, q4, q5, q6]; rfl, i64_of w1, i64_of w2⟩
end
section
variable {H : Type} {enc : TypeId × Value → H} {w : World}
set_option maxRecDepth 100000 in
theorem act_of {b0 : Nat} {v : Value} {d : DataW H} {q : List MemPlace} (hv : Value.okWide Try.prog w .any b0 39 v) (h : DataW.Trod enc Try.prog w 0 (fun _ => true) true 39 v d q) : ∃ t : Ac, v = .agg ⟨t.cells⟩ ∧ t.ok := by
  obtain ⟨⟨l⟩, rfl, hsz⟩ := okWide_struct Try.underlying39 hv
  obtain ⟨fuel, hf⟩ := h
  match l, hsz.trans cs_act with
  | [c0, c1, c2, c3, c4, c5, c6], _ =>
    obtain ⟨t, h1, h2⟩ := open_act hf
    exact ⟨t, by rw [← h1], h2⟩
/-- A row of acts. -/
def IsActs (B : Nat) (w : World) (v : Value) (ts : List Ac) : Prop :=
  ∃ p c, v = .slice p ts.length c ∧ ts.length ≤ 9223372036854775807 ∧ ∀ (j : Nat) (t : Ac), ts[j]? = some t → ∃ b o, p = some ⟨b, o, none⟩ ∧ b < B ∧
    (∀ (i : Nat) (u : Value), t.cells[i]? = some u → w.cell? ⟨b, o + j * 7 + i, none⟩ = some u) ∧ t.ok
theorem IsActs.below {B : Nat} {w w' : World} {v : Value} {ts : List Ac} (h : IsActs B w v ts) (hb : Below B w w') : IsActs B w' v ts := by
  obtain ⟨p, c, h1, h2, h3⟩ := h
  refine ⟨p, c, h1, h2, fun j t hu => ?_⟩
  obtain ⟨b, o, h4, h5, h6, h8⟩ := h3 j t hu
  exact ⟨b, o, h4, h5, fun i u hi => (hb.cell (p := ⟨b, o + j * 7 + i, none⟩) h5).trans (h6 i u hi), h8⟩
set_option maxRecDepth 100000 in
theorem acts_of {b0 : Nat} {v : Value} {d : DataW H} {q : List MemPlace} (hv : Value.okWide Try.prog w .any b0 24 v) (h : DataW.Trod enc Try.prog w 0 (fun _ => true) true 24 v d q) :
    ∃ ts, IsActs w.heap.size w v ts := by
  obtain ⟨a0, len, cap, rfl⟩ := okWide_slice Try.underlying24 hv
  obtain ⟨fuel, hf⟩ := h
  rcases open_slice Try.underlying24 hf with ⟨hcs, _⟩ | ⟨a, len', cap', m, n, D, Pl, hcs, _, hl, hm, hmm, _, hi⟩
  · simp only [Value.cells, List.cons.injEq, Value.slice.injEq, and_true] at hcs
    obtain ⟨rfl, rfl, rfl⟩ := hcs
    exact ⟨[], none, 0, rfl, by simp, fun j t ht => by simp at ht⟩
  · simp only [Value.cells, List.cons.injEq, Value.slice.injEq, and_true] at hcs
    obtain ⟨rfl, rfl, rfl⟩ := hcs
    simp only [if_true] at hmm
    subst hmm
    have hel : ∀ i, i < len → ∃ t : Ac, (∀ (k : Nat) (u : Value), t.cells[k]? = some u → w.cell? (a.add (i * 7 + k)) = some u) ∧ t.ok := by
      intro i hlt
      obtain ⟨cs', hc, ht⟩ := hi i (by omega)
      rw [cs_act] at hc
      obtain ⟨_, hlen, hat⟩ := World.cells?_some hc
      match cs', hlen with
      | [c0, c1, c2, c3, c4, c5, c6], _ =>
        obtain ⟨t, h1, h2⟩ := open_act ht
        refine ⟨t, fun k u hu => ?_, h2⟩
        have hk : k < 7 := by have := (List.getElem?_eq_some_iff.1 hu).1; simpa [Ac.cells] using this
        have := hat k hk
        rw [← Go.Deep.add_add, this, h1]
        exact hu
    obtain ⟨ts, hts, hp⟩ := list_of len hel
    refine ⟨ts, some a, m, by rw [hts], by rw [hts]; unfold maxLen at hm; omega, fun j t ht => ?_⟩
    obtain ⟨h1, h3⟩ := hp j t ht
    have h0 : 0 < ts.length := by have := (List.getElem?_eq_some_iff.1 ht).1; omega
    obtain ⟨k1, _⟩ := hp 0 _ (List.getElem?_eq_getElem h0)
    have h10 := k1 0 _ rfl
    rw [show 0 * 7 + 0 = 0 from rfl, show a.add 0 = a by unfold Addr.add; simp] at h10
    have e : a = ⟨a.block, a.off, none⟩ := cell_spot h10
    refine ⟨a.block, a.off, by rw [← e], block_of_cell h10, fun k u hu => ?_, h3⟩
    have := h1 k u hu
    rw [e, Addr.add_lit] at this
    rw [← this, Nat.add_assoc]
end
end Go.Proofs.Ytlbbjinkblgfiaa
