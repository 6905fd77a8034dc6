/- Arguments opened: a rectangle, a step, a row of steps. -/
import Derived.Test.YtfdgpbdppenhmaaGreatSrP
import Derived.Test.YtfdgpbdppenhmaaGreatSba
import Derived.Deep.Slices
import Derived.Deep.Fields
namespace Go.Proofs.YtfdgpbdppenhmaaGreat
open Go.RowKit Go.WideShapes Go.ChangeShapes Go.ChangeAt Go.Deep
/-- A step: who asks, and what. -/
structure A8 where
  actor : Int
  q : Rq
def A8.cells (t : A8) : List Value := [.int .i64 t.actor, .int .i64 t.q.kind, .int .i64 t.q.win, .int .i64 t.q.other, .int .i64 t.q.x, .int .i64 t.q.y, .int .i64 t.q.a, .int .i64 t.q.e, .string t.q.p.name, .string t.q.p.typ, .string t.q.p.data]
structure A8.ok (t : A8) : Prop where
  actor : I64 t.actor
  win : I64 t.q.win
  other : I64 t.q.other
  name : t.q.p.name.size ≤ maxLen
  typ : t.q.p.typ.size ≤ maxLen
  data : t.q.p.data.size ≤ maxLen
theorem cs8_rect : Tryz.prog.cellsOf 23 = 4 := by kernel_rfl
theorem cs8_req : Tryz.prog.cellsOf 37 = 10 := by kernel_rfl
theorem cs8_act : Tryz.prog.cellsOf 39 = 11 := by kernel_rfl
section
variable {H : Type} {enc : TypeId × Value → H} {w : World} {fuel : Nat} {x : DataW H × List MemPlace}
set_option maxRecDepth 100000 in
set_option maxHeartbeats 1000000 in
theorem open8_rect {c0 c1 c2 c3 : Value} (h : DataW.trod enc Tryz.prog w 0 (fun _ => true) true fuel 23 [c0, c1, c2, c3] = some x) :
    ∃ x y a e : Int, c0 = .int .i64 x ∧ c1 = .int .i64 y ∧ c2 = .int .i64 a ∧ c3 = .int .i64 e := by
  obtain ⟨xs, n, _, hx, _, hlen, hg⟩ := DataW.trod_struct Tryz.underlying23 h
  obtain ⟨y0, e0⟩ : ∃ y, xs[0]? = some y := ⟨_, List.getElem?_eq_getElem (by rw [hlen]; decide)⟩
  have k0 : DataW.trod enc Tryz.prog w 0 (fun _ => true) true n 3 [c0] = some y0 := by
    have h := (hg 0 _ rfl).trans e0
    simpa [Pp.cs_int, Pp.cs_str, Pp.cs_prop, cs8_rect, cs8_req] using h
  obtain ⟨y1, e1⟩ : ∃ y, xs[1]? = some y := ⟨_, List.getElem?_eq_getElem (by rw [hlen]; decide)⟩
  have k1 : DataW.trod enc Tryz.prog w 0 (fun _ => true) true n 3 [c1] = some y1 := by
    have h := (hg 1 _ rfl).trans e1
    simpa [Pp.cs_int, Pp.cs_str, Pp.cs_prop, cs8_rect, cs8_req] using h
  obtain ⟨y2, e2⟩ : ∃ y, xs[2]? = some y := ⟨_, List.getElem?_eq_getElem (by rw [hlen]; decide)⟩
  have k2 : DataW.trod enc Tryz.prog w 0 (fun _ => true) true n 3 [c2] = some y2 := by
    have h := (hg 2 _ rfl).trans e2
    simpa [Pp.cs_int, Pp.cs_str, Pp.cs_prop, cs8_rect, cs8_req] using h
  obtain ⟨y3, e3⟩ : ∃ y, xs[3]? = some y := ⟨_, List.getElem?_eq_getElem (by rw [hlen]; decide)⟩
  have k3 : DataW.trod enc Tryz.prog w 0 (fun _ => true) true n 3 [c3] = some y3 := by
    have h := (hg 3 _ rfl).trans e3
    simpa [Pp.cs_int, Pp.cs_str, Pp.cs_prop, cs8_rect, cs8_req] using h
  obtain ⟨z0, q0, _, w0⟩ := DataW.trod_int Tryz.underlying3 k0
  simp only [List.cons.injEq, and_true] at q0
  obtain ⟨z1, q1, _, w1⟩ := DataW.trod_int Tryz.underlying3 k1
  simp only [List.cons.injEq, and_true] at q1
  obtain ⟨z2, q2, _, w2⟩ := DataW.trod_int Tryz.underlying3 k2
  simp only [List.cons.injEq, and_true] at q2
  obtain ⟨z3, q3, _, w3⟩ := DataW.trod_int Tryz.underlying3 k3
  simp only [List.cons.injEq, and_true] at q3
  exact ⟨z0, z1, z2, z3, q0, q1, q2, q3⟩
set_option maxRecDepth 100000 in
set_option maxHeartbeats 1000000 in
theorem open8_req {c0 c1 c2 c3 c4 c5 c6 c7 c8 c9 : Value} (h : DataW.trod enc Tryz.prog w 0 (fun _ => true) true fuel 37 [c0, c1, c2, c3, c4, c5, c6, c7, c8, c9] = some x) :
    ∃ q : Rq, [c0, c1, c2, c3, c4, c5, c6, c7, c8, c9] = (rqL q).toList ∧ I64 q.win ∧ I64 q.other ∧ q.p.name.size ≤ maxLen ∧ q.p.typ.size ≤ maxLen ∧ q.p.data.size ≤ maxLen := by
  obtain ⟨xs, n, _, hx, _, hlen, hg⟩ := DataW.trod_struct Tryz.underlying37 h
  obtain ⟨y0, e0⟩ : ∃ y, xs[0]? = some y := ⟨_, List.getElem?_eq_getElem (by rw [hlen]; decide)⟩
  have k0 : DataW.trod enc Tryz.prog w 0 (fun _ => true) true n 3 [c0] = some y0 := by
    have h := (hg 0 _ rfl).trans e0
    simpa [Pp.cs_int, Pp.cs_str, Pp.cs_prop, cs8_rect, cs8_req] using h
  obtain ⟨y1, e1⟩ : ∃ y, xs[1]? = some y := ⟨_, List.getElem?_eq_getElem (by rw [hlen]; decide)⟩
  have k1 : DataW.trod enc Tryz.prog w 0 (fun _ => true) true n 3 [c1] = some y1 := by
    have h := (hg 1 _ rfl).trans e1
    simpa [Pp.cs_int, Pp.cs_str, Pp.cs_prop, cs8_rect, cs8_req] using h
  obtain ⟨y2, e2⟩ : ∃ y, xs[2]? = some y := ⟨_, List.getElem?_eq_getElem (by rw [hlen]; decide)⟩
  have k2 : DataW.trod enc Tryz.prog w 0 (fun _ => true) true n 3 [c2] = some y2 := by
    have h := (hg 2 _ rfl).trans e2
    simpa [Pp.cs_int, Pp.cs_str, Pp.cs_prop, cs8_rect, cs8_req] using h
  obtain ⟨y3, e3⟩ : ∃ y, xs[3]? = some y := ⟨_, List.getElem?_eq_getElem (by rw [hlen]; decide)⟩
  have k3 : DataW.trod enc Tryz.prog w 0 (fun _ => true) true n 23 [c3, c4, c5, c6] = some y3 := by
    have h := (hg 3 _ rfl).trans e3
    simpa [Pp.cs_int, Pp.cs_str, Pp.cs_prop, cs8_rect, cs8_req] using h
  obtain ⟨y4, e4⟩ : ∃ y, xs[4]? = some y := ⟨_, List.getElem?_eq_getElem (by rw [hlen]; decide)⟩
  have k4 : DataW.trod enc Tryz.prog w 0 (fun _ => true) true n 35 [c7, c8, c9] = some y4 := by
    have h := (hg 4 _ rfl).trans e4
    simpa [Pp.cs_int, Pp.cs_str, Pp.cs_prop, cs8_rect, cs8_req] using h
  obtain ⟨z0, q0, _, w0⟩ := DataW.trod_int Tryz.underlying3 k0
  simp only [List.cons.injEq, and_true] at q0
  obtain ⟨z1, q1, _, w1⟩ := DataW.trod_int Tryz.underlying3 k1
  simp only [List.cons.injEq, and_true] at q1
  obtain ⟨z2, q2, _, w2⟩ := DataW.trod_int Tryz.underlying3 k2
  simp only [List.cons.injEq, and_true] at q2
  obtain ⟨x, y, a, e, r0, r1, r2, r3⟩ := open8_rect k3
  obtain ⟨p, s0, s1, s2, t0, t1, t2⟩ := Pp.open_prop k4
  exact ⟨⟨z0, z1, z2, x, y, a, e, p⟩, by rw [q0, q1, q2, r0, r1, r2, r3, s0, s1, s2], Pp.i64_of w1, Pp.i64_of w2, t0, t1, t2⟩
set_option maxRecDepth 100000 in
set_option maxHeartbeats 1000000 in
theorem open8_act {c0 c1 c2 c3 c4 c5 c6 c7 c8 c9 c10 : Value} (h : DataW.trod enc Tryz.prog w 0 (fun _ => true) true fuel 39 [c0, c1, c2, c3, c4, c5, c6, c7, c8, c9, c10] = some x) :
    ∃ t : A8, [c0, c1, c2, c3, c4, c5, c6, c7, c8, c9, c10] = t.cells ∧ t.ok := by
  obtain ⟨xs, n, _, hx, _, hlen, hg⟩ := DataW.trod_struct Tryz.underlying39 h
  obtain ⟨y0, e0⟩ : ∃ y, xs[0]? = some y := ⟨_, List.getElem?_eq_getElem (by rw [hlen]; decide)⟩
  have k0 : DataW.trod enc Tryz.prog w 0 (fun _ => true) true n 3 [c0] = some y0 := by
    have h := (hg 0 _ rfl).trans e0
    simpa [Pp.cs_int, Pp.cs_str, Pp.cs_prop, cs8_rect, cs8_req] using h
  obtain ⟨y1, e1⟩ : ∃ y, xs[1]? = some y := ⟨_, List.getElem?_eq_getElem (by rw [hlen]; decide)⟩
  have k1 : DataW.trod enc Tryz.prog w 0 (fun _ => true) true n 37 [c1, c2, c3, c4, c5, c6, c7, c8, c9, c10] = some y1 := by
    have h := (hg 1 _ rfl).trans e1
    simpa [Pp.cs_int, Pp.cs_str, Pp.cs_prop, cs8_rect, cs8_req] using h
  obtain ⟨z0, q0, _, w0⟩ := DataW.trod_int Tryz.underlying3 k0
  simp only [List.cons.injEq, and_true] at q0
  obtain ⟨q, r0, r1, r2, r3, r4, r5⟩ := open8_req k1
  refine ⟨⟨z0, q⟩, ?_, Pp.i64_of w0, r1, r2, r3, r4, r5⟩
  rw [q0]
  exact congrArg (List.cons _) r0
end
section
variable {H : Type} {enc : TypeId × Value → H} {w : World}
set_option maxRecDepth 100000 in
theorem rect8_of {b0 : Nat} {v : Value} {d : DataW H} {q : List MemPlace} (hv : Value.okWide Tryz.prog w .any b0 23 v) (h : DataW.Trod enc Tryz.prog w 0 (fun _ => true) true 23 v d q) : ∃ x y a e : Int, v = .agg #[.int .i64 x, .int .i64 y, .int .i64 a, .int .i64 e] := by
  obtain ⟨⟨l⟩, rfl, hsz⟩ := okWide_struct Tryz.underlying23 hv
  obtain ⟨fuel, hf⟩ := h
  match l, hsz.trans cs8_rect with
  | [c0, c1, c2, c3], _ =>
    obtain ⟨x, y, a, e, rfl, rfl, rfl, rfl⟩ := open8_rect hf
    exact ⟨x, y, a, e, rfl⟩
set_option maxRecDepth 100000 in
theorem act8_of {b0 : Nat} {v : Value} {d : DataW H} {q : List MemPlace} (hv : Value.okWide Tryz.prog w .any b0 39 v) (h : DataW.Trod enc Tryz.prog w 0 (fun _ => true) true 39 v d q) : ∃ t : A8, v = .agg ⟨t.cells⟩ ∧ t.ok := by
  obtain ⟨⟨l⟩, rfl, hsz⟩ := okWide_struct Tryz.underlying39 hv
  obtain ⟨fuel, hf⟩ := h
  match l, hsz.trans cs8_act with
  | [c0, c1, c2, c3, c4, c5, c6, c7, c8, c9, c10], _ =>
    obtain ⟨t, h1, h2⟩ := open8_act hf
    exact ⟨t, by rw [← h1], h2⟩
/-- A row of steps. -/
def IsA8 (B : Nat) (w : World) (v : Value) (ts : List A8) : Prop :=
  ∃ p c, v = .slice p ts.length c ∧ ts.length ≤ 9223372036854775807 ∧ ∀ (j : Nat) (t : A8), ts[j]? = some t → ∃ b o, p = some ⟨b, o, none⟩ ∧ b < B ∧
    (∀ (i : Nat) (u : Value), t.cells[i]? = some u → w.cell? ⟨b, o + j * 11 + i, none⟩ = some u) ∧ t.ok
theorem IsA8.below {B : Nat} {w w' : World} {v : Value} {ts : List A8} (h : IsA8 B w v ts) (hb : Below B w w') : IsA8 B w' v ts := by
  obtain ⟨p, c, h1, h2, h3⟩ := h
  refine ⟨p, c, h1, h2, fun j t hu => ?_⟩
  obtain ⟨b, o, h4, h5, h6, h8⟩ := h3 j t hu
  exact ⟨b, o, h4, h5, fun i u hi => (hb.cell (p := ⟨b, o + j * 11 + i, none⟩) h5).trans (h6 i u hi), h8⟩
set_option maxRecDepth 100000 in
theorem acts8_of {b0 : Nat} {v : Value} {d : DataW H} {q : List MemPlace} (hv : Value.okWide Tryz.prog w .any b0 24 v) (h : DataW.Trod enc Tryz.prog w 0 (fun _ => true) true 24 v d q) :
    ∃ ts, IsA8 w.heap.size w v ts := by
  obtain ⟨a0, len, cap, rfl⟩ := okWide_slice Tryz.underlying24 hv
  obtain ⟨fuel, hf⟩ := h
  rcases open_slice Tryz.underlying24 hf with ⟨hcs, _⟩ | ⟨a, len', cap', m, n, D, Pl, hcs, _, hl, hm, hmm, _, hi⟩
  · simp only [Value.cells, List.cons.injEq, Value.slice.injEq, and_true] at hcs
    obtain ⟨rfl, rfl, rfl⟩ := hcs
    exact ⟨[], none, 0, rfl, by simp, fun j t ht => by simp at ht⟩
  · simp only [Value.cells, List.cons.injEq, Value.slice.injEq, and_true] at hcs
    obtain ⟨rfl, rfl, rfl⟩ := hcs
    simp only [if_true] at hmm
    subst hmm
    have hel : ∀ i, i < len → ∃ t : A8, (∀ (k : Nat) (u : Value), t.cells[k]? = some u → w.cell? (a.add (i * 11 + k)) = some u) ∧ t.ok := by
      intro i hlt
      obtain ⟨cs', hc, ht⟩ := hi i (by omega)
      rw [cs8_act] at hc
      obtain ⟨_, hlen, hat⟩ := World.cells?_some hc
      match cs', hlen with
      | [c0, c1, c2, c3, c4, c5, c6, c7, c8, c9, c10], _ =>
        obtain ⟨t, h1, h2⟩ := open8_act ht
        refine ⟨t, fun k u hu => ?_, h2⟩
        have hk : k < 11 := by have := (List.getElem?_eq_some_iff.1 hu).1; simpa [A8.cells] using this
        have := hat k hk
        rw [← Go.Deep.add_add, this, h1]
        exact hu
    obtain ⟨ts, hts, hp⟩ := Pp.list_of len hel
    refine ⟨ts, some a, m, by rw [hts], by rw [hts]; unfold maxLen at hm; omega, fun j t ht => ?_⟩
    obtain ⟨h1, h3⟩ := hp j t ht
    have h0 : 0 < ts.length := by have := (List.getElem?_eq_some_iff.1 ht).1; omega
    obtain ⟨k1, _⟩ := hp 0 _ (List.getElem?_eq_getElem h0)
    have h10 := k1 0 _ rfl
    rw [show 0 * 11 + 0 = 0 from rfl, show a.add 0 = a by unfold Addr.add; simp] at h10
    have e : a = ⟨a.block, a.off, none⟩ := Pp.cell_spot h10
    refine ⟨a.block, a.off, by rw [← e], block_of_cell h10, fun k u hu => ?_, h3⟩
    have := h1 k u hu
    rw [e, Addr.add_lit, ← Nat.add_assoc] at this
    exact this
end
end Go.Proofs.YtfdgpbdppenhmaaGreat
