/- Arguments opened: an act, a row of acts, a text. -/
import Derived.Test.YtfflgkbemfichaaDoorPrH
import Derived.Test.YtfflgkbemfichaaDoorOpen
import Derived.Deep.Slices
import Derived.Deep.Fields
namespace Go.Proofs.YtfflgkbemfichaaDoor
open Go.RowKit Go.WideShapes Go.ChangeShapes Go.ChangeAt Go.Deep
structure Ac where
  kind : Int
  win : Int
  p : Pr
def Ac.cells (t : Ac) : List Value := [.int .i64 t.kind, .int .i64 t.win, .string t.p.name, .string t.p.typ, .string t.p.data]
def Ac.ok (t : Ac) : Prop := I64 t.win ∧ t.p.name.size ≤ maxLen ∧ t.p.typ.size ≤ maxLen ∧ t.p.data.size ≤ maxLen
theorem i64_of {z : Int} (h : (Lit.int .i64 z).wf = true) : I64 z := by
  unfold I64
  simp [Lit.wf, IntKind.min, IntKind.max, IntKind.signed, IntKind.bits] at h
  omega
theorem cs_int : Tryd.prog.cellsOf 3 = 1 := by kernel_rfl
theorem cs_str : Tryd.prog.cellsOf 9 = 1 := by kernel_rfl
theorem cs_prop : Tryd.prog.cellsOf 27 = 3 := by kernel_rfl
theorem cs_act : Tryd.prog.cellsOf 29 = 5 := by kernel_rfl
theorem list_of {α : Type} {P : Nat → α → Prop} (n : Nat) (h : ∀ i, i < n → ∃ t, P i t) : ∃ l : List α, l.length = n ∧ ∀ (i : Nat) (t : α), l[i]? = some t → P i t := by
  induction n with
  | zero => exact ⟨[], rfl, fun i t ht => by simp at ht⟩
  | succ n ih =>
    obtain ⟨l, hl, hp⟩ := ih (fun i hi => h i (by omega))
    obtain ⟨t, ht⟩ := h n (by omega)
    refine ⟨l ++ [t], by simp [hl], fun i u hu => ?_⟩
    by_cases hi : i < n
    · rw [List.getElem?_append_left (by omega)] at hu
      exact hp i u hu
    · have hi' := (List.getElem?_eq_some_iff.1 hu).1
      simp at hi'
      have : i = n := by omega
      subst this
      rw [List.getElem?_append_right (by omega), hl] at hu
      simp at hu
      subst hu
      exact ht
section
variable {H : Type} {enc : TypeId × Value → H} {w : World} {fuel : Nat} {x : DataW H × List MemPlace}
theorem cell_spot {w : World} {a : Addr} {u : Value} (h : w.cell? a = some u) : a = ⟨a.block, a.off, none⟩ := by
  obtain ⟨b, o, s⟩ := a
  have : s = none := World.cell?_spot h
  subst this; rfl
theorem open_prop {c0 c1 c2 : Value} (h : DataW.trod enc Tryd.prog w 0 (fun _ => true) true fuel 27 [c0, c1, c2] = some x) :
    ∃ p : Pr, c0 = .string p.name ∧ c1 = .string p.typ ∧ c2 = .string p.data ∧ p.name.size ≤ maxLen ∧ p.typ.size ≤ maxLen ∧ p.data.size ≤ maxLen := by
  obtain ⟨xs, n, _, hx, _, hlen, hg⟩ := DataW.trod_struct Tryd.underlying27 h
  obtain ⟨y0, e0⟩ : ∃ y, xs[0]? = some y := ⟨_, List.getElem?_eq_getElem (by rw [hlen]; decide)⟩
  have k0 : DataW.trod enc Tryd.prog w 0 (fun _ => true) true n 9 [c0] = some y0 := by
    have h := (hg 0 _ rfl).trans e0
    simpa [cs_str] using h
  obtain ⟨y1, e1⟩ : ∃ y, xs[1]? = some y := ⟨_, List.getElem?_eq_getElem (by rw [hlen]; decide)⟩
  have k1 : DataW.trod enc Tryd.prog w 0 (fun _ => true) true n 9 [c1] = some y1 := by
    have h := (hg 1 _ rfl).trans e1
    simpa [cs_str] using h
  obtain ⟨y2, e2⟩ : ∃ y, xs[2]? = some y := ⟨_, List.getElem?_eq_getElem (by rw [hlen]; decide)⟩
  have k2 : DataW.trod enc Tryd.prog w 0 (fun _ => true) true n 9 [c2] = some y2 := by
    have h := (hg 2 _ rfl).trans e2
    simpa [cs_str] using h
  obtain ⟨z0, q0, _, w0⟩ := DataW.trod_string Tryd.underlying9 k0
  simp only [List.cons.injEq, and_true] at q0
  obtain ⟨z1, q1, _, w1⟩ := DataW.trod_string Tryd.underlying9 k1
  simp only [List.cons.injEq, and_true] at q1
  obtain ⟨z2, q2, _, w2⟩ := DataW.trod_string Tryd.underlying9 k2
  simp only [List.cons.injEq, and_true] at q2
  exact ⟨⟨z0, z1, z2⟩, q0, q1, q2, w0, w1, w2⟩
set_option maxRecDepth 100000 in
theorem open_act {c0 c1 c2 c3 c4 : Value} (h : DataW.trod enc Tryd.prog w 0 (fun _ => true) true fuel 29 [c0, c1, c2, c3, c4] = some x) : ∃ t : Ac, [c0, c1, c2, c3, c4] = t.cells ∧ t.ok := by
  obtain ⟨xs, n, _, hx, _, hlen, hg⟩ := DataW.trod_struct Tryd.underlying29 h
  obtain ⟨y0, e0⟩ : ∃ y, xs[0]? = some y := ⟨_, List.getElem?_eq_getElem (by rw [hlen]; decide)⟩
  have k0 : DataW.trod enc Tryd.prog w 0 (fun _ => true) true n 3 [c0] = some y0 := by
    have h := (hg 0 _ rfl).trans e0
    simpa [cs_int, cs_prop] using h
  obtain ⟨y1, e1⟩ : ∃ y, xs[1]? = some y := ⟨_, List.getElem?_eq_getElem (by rw [hlen]; decide)⟩
  have k1 : DataW.trod enc Tryd.prog w 0 (fun _ => true) true n 3 [c1] = some y1 := by
    have h := (hg 1 _ rfl).trans e1
    simpa [cs_int, cs_prop] using h
  obtain ⟨y2, e2⟩ : ∃ y, xs[2]? = some y := ⟨_, List.getElem?_eq_getElem (by rw [hlen]; decide)⟩
  have k2 : DataW.trod enc Tryd.prog w 0 (fun _ => true) true n 27 [c2, c3, c4] = some y2 := by
    have h := (hg 2 _ rfl).trans e2
    simpa [cs_int, cs_prop] using h
  obtain ⟨z0, q0, _, w0⟩ := DataW.trod_int Tryd.underlying3 k0
  simp only [List.cons.injEq, and_true] at q0
  obtain ⟨z1, q1, _, w1⟩ := DataW.trod_int Tryd.underlying3 k1
  simp only [List.cons.injEq, and_true] at q1
  obtain ⟨p, r0, r1, r2, s0, s1, s2⟩ := open_prop k2
  exact ⟨⟨z0, z1, p⟩, by rw [q0, q1, r0, r1, r2]; rfl, i64_of w1, s0, s1, s2⟩
end
section
variable {H : Type} {enc : TypeId × Value → H} {w : World}
set_option maxRecDepth 100000 in
theorem int_of {b0 : Nat} {v : Value} {d : DataW H} {q : List MemPlace} (hv : Value.okWide Tryd.prog w .any b0 3 v) (h : DataW.Trod enc Tryd.prog w 0 (fun _ => true) true 3 v d q) : ∃ i : Int, v = .int .i64 i ∧ I64 i := by
  obtain ⟨a, rfl, _, _, hw⟩ := open_int Tryd.underlying3 hv h
  exact ⟨a, rfl, i64_of hw⟩
set_option maxRecDepth 100000 in
theorem str_of {b0 : Nat} {v : Value} {d : DataW H} {q : List MemPlace} (hv : Value.okWide Tryd.prog w .any b0 9 v) (h : DataW.Trod enc Tryd.prog w 0 (fun _ => true) true 9 v d q) : ∃ s : ByteArray, v = .string s ∧ s.size ≤ maxLen := by
  have h' := h
  obtain ⟨s, rfl, hd, _, _⟩ := Go.ChangeMaps.open_string Tryd.underlying9 hv h
  obtain ⟨fuel, hf⟩ := h'
  obtain ⟨s', q0, _, w0⟩ := DataW.trod_string Tryd.underlying9 hf
  simp only [Value.cells, List.cons.injEq, Value.string.injEq, and_true] at q0
  subst q0
  exact ⟨_, rfl, w0⟩
set_option maxRecDepth 100000 in
theorem act_of {b0 : Nat} {v : Value} {d : DataW H} {q : List MemPlace} (hv : Value.okWide Tryd.prog w .any b0 29 v) (h : DataW.Trod enc Tryd.prog w 0 (fun _ => true) true 29 v d q) : ∃ t : Ac, v = .agg ⟨t.cells⟩ ∧ t.ok := by
  obtain ⟨⟨l⟩, rfl, hsz⟩ := okWide_struct Tryd.underlying29 hv
  obtain ⟨fuel, hf⟩ := h
  match l, hsz.trans cs_act with
  | [c0, c1, c2, c3, c4], _ =>
    obtain ⟨t, h1, h2⟩ := open_act hf
    exact ⟨t, by rw [← h1], h2⟩
/-- A row of acts. -/
def IsActs (B : Nat) (w : World) (v : Value) (ts : List Ac) : Prop :=
  ∃ p c, v = .slice p ts.length c ∧ ts.length ≤ 9223372036854775807 ∧ ∀ (j : Nat) (t : Ac), ts[j]? = some t → ∃ b o, p = some ⟨b, o, none⟩ ∧ b < B ∧
    (∀ (i : Nat) (u : Value), t.cells[i]? = some u → w.cell? ⟨b, o + j * 5 + i, none⟩ = some u) ∧ t.ok
theorem IsActs.below {B : Nat} {w w' : World} {v : Value} {ts : List Ac} (h : IsActs B w v ts) (hb : Below B w w') : IsActs B w' v ts := by
  obtain ⟨p, c, h1, h2, h3⟩ := h
  refine ⟨p, c, h1, h2, fun j t hu => ?_⟩
  obtain ⟨b, o, h4, h5, h6, h8⟩ := h3 j t hu
  exact ⟨b, o, h4, h5, fun i u hi => (hb.cell (p := ⟨b, o + j * 5 + i, none⟩) h5).trans (h6 i u hi), h8⟩
theorem IsActs.grow {w w' : World} {v : Value} {ts : List Ac} (h : IsActs w.heap.size w v ts) (hb : Below w.heap.size w w') : IsActs w'.heap.size w' v ts := by
  obtain ⟨p, c, h1, h2, h3⟩ := h.below hb
  exact ⟨p, c, h1, h2, fun j t hu => by obtain ⟨b, o, h4, h5, h6⟩ := h3 j t hu; exact ⟨b, o, h4, Nat.lt_of_lt_of_le h5 hb.size, h6⟩⟩
set_option maxRecDepth 100000 in
theorem acts_of {b0 : Nat} {v : Value} {d : DataW H} {q : List MemPlace} (hv : Value.okWide Tryd.prog w .any b0 22 v) (h : DataW.Trod enc Tryd.prog w 0 (fun _ => true) true 22 v d q) :
    ∃ ts, IsActs w.heap.size w v ts := by
  obtain ⟨a0, len, cap, rfl⟩ := okWide_slice Tryd.underlying22 hv
  obtain ⟨fuel, hf⟩ := h
  rcases open_slice Tryd.underlying22 hf with ⟨hcs, _⟩ | ⟨a, len', cap', m, n, D, Pl, hcs, _, hl, hm, hmm, _, hi⟩
  · simp only [Value.cells, List.cons.injEq, Value.slice.injEq, and_true] at hcs
    obtain ⟨rfl, rfl, rfl⟩ := hcs
    exact ⟨[], none, 0, rfl, by simp, fun j t ht => by simp at ht⟩
  · simp only [Value.cells, List.cons.injEq, Value.slice.injEq, and_true] at hcs
    obtain ⟨rfl, rfl, rfl⟩ := hcs
    simp only [if_true] at hmm
    subst hmm
    have hel : ∀ i, i < len → ∃ t : Ac, (∀ (k : Nat) (u : Value), t.cells[k]? = some u → w.cell? (a.add (i * 5 + k)) = some u) ∧ t.ok := by
      intro i hlt
      obtain ⟨cs', hc, ht⟩ := hi i (by omega)
      rw [cs_act] at hc
      obtain ⟨_, hlen, hat⟩ := World.cells?_some hc
      match cs', hlen with
      | [c0, c1, c2, c3, c4], _ =>
        obtain ⟨t, h1, h2⟩ := open_act ht
        refine ⟨t, fun k u hu => ?_, h2⟩
        have hk : k < 5 := by have := (List.getElem?_eq_some_iff.1 hu).1; simpa [Ac.cells] using this
        have := hat k hk
        rw [← Go.Deep.add_add, this, h1]
        exact hu
    obtain ⟨ts, hts, hp⟩ := list_of len hel
    refine ⟨ts, some a, m, by rw [hts], by rw [hts]; unfold maxLen at hm; omega, fun j t ht => ?_⟩
    obtain ⟨h1, h3⟩ := hp j t ht
    have h0 : 0 < ts.length := by have := (List.getElem?_eq_some_iff.1 ht).1; omega
    obtain ⟨k1, _⟩ := hp 0 _ (List.getElem?_eq_getElem h0)
    have h10 := k1 0 _ rfl
    rw [show 0 * 5 + 0 = 0 from rfl, show a.add 0 = a by unfold Addr.add; simp] at h10
    have e : a = ⟨a.block, a.off, none⟩ := cell_spot h10
    refine ⟨a.block, a.off, by rw [← e], block_of_cell h10, fun k u hu => ?_, h3⟩
    have := h1 k u hu
    rw [e, Addr.add_lit] at this
    rw [← this, Nat.add_assoc]
end
end Go.Proofs.YtfflgkbemfichaaDoor
