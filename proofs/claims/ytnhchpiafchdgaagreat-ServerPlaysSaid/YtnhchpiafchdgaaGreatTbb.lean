/- Texts SuK SuQ SrT SuS. -/
import Derived.Test.YtnhchpiafchdgaaGreatTba
import Derived.Test.YtnhchpiafchdgaaGreatTat
import Derived.Test.YtnhchpiafchdgaaGreatTas
import Derived.Test.YtnhchpiafchdgaaGreatTan
import Derived.Deep.Slices
import Derived.Deep.Fields
import Derived.Test.YtnhchpiafchdgaaGreatTaa
namespace Go.Proofs.YtnhchpiafchdgaaGreat
open Go.RowKit Go.Shelf Go.Maps
section
variable {w : World} {r : Nat} {Z : Zl} {X : Xs} {k : Nat}
theorem rdo_c (h : Ref w r Z X) (hV : V0 X k) (hML : X.M.length ≤ 1000) (hk : k + 1 ≤ 1000) (a : Int) (q : Rq) (hi : I64 q.win) (ho : I64 q.other) (z1 : q.p.name.size ≤ maxLen) (z2 : q.p.typ.size ≤ maxLen) :
   Calls Tryz.prog 38 #[refP r, .int .i64 a, rqV q] w fun ex w' => ex = .returned (.tuple #[.int .i64 (X.do a q).1, .int .i64 (X.do a q).2.1]) ∧ RefTo w r Z (X.do a q).2.2 w' := by
 cases hw : X.wrong a q.kind
 · by_cases h1 : q.kind = 1
   · have e : X.do a q = X.create a q := by unfold Xs.do; rw [hw, if_neg (by decide), if_pos h1]
     rw [e]
     exact rdo_create h hV hML hk a q hw h1 ho
   · have e : X.do a q = (0, (X.other a q).1, (X.other a q).2.look) := by unfold Xs.do; rw [hw, if_neg (by decide), if_neg h1]
     rw [e]
     exact rdo_other h hV hML hk a q hw h1 hi ho z1 z2
 · have e : X.do a q = (0, 1, X) := by unfold Xs.do; rw [hw, if_pos rfl]
   rw [e]
   exact rdo_wrong h a q hw
end
end Go.Proofs.YtnhchpiafchdgaaGreat
namespace Go.Proofs.YtnhchpiafchdgaaGreat
open Go.RowKit Go.Shelf Go.Maps
theorem V0.back {X : Xs} {k : Nat} (h : V0 X k) {m : Md} (hi : I64 m.win) : V0 (X.back m) k := by
 unfold Xs.back
 split
 · have h1 := h.put hi
   exact h1.setsav (i := m.win) (on := false) (fun e => by cases e)
 · exact h
theorem V0.backs {k : Nat} : ∀ {K : List Md} {X : Xs}, V0 X k → (∀ m ∈ K, I64 m.win) → V0 (K.foldl Xs.back X) k
 | [], _, h, _ => h
 | m :: K, X, h, hj => V0.backs (K := K) (X := X.back m) (V0.back h (hj m (by simp))) fun x hx => hj x (by simp [hx])
theorem V0.ended {X : Xs} {k : Nat} (h : V0 X k) {m : Md} (hi : I64 m.win) : V0 (X.end m) k := by
 unfold Xs.end
 split
 · exact h.destroyed hi
 · exact h
theorem V0.ends {k : Nat} : ∀ {K : List Md} {X : Xs}, V0 X k → (∀ m ∈ K, I64 m.win) → V0 (K.foldl Xs.end X) k
 | [], _, h, _ => h
 | m :: K, X, h, hj => V0.ends (K := K) (X := X.end m) (V0.ended h (hj m (by simp))) fun x hx => hj x (by simp [hx])
theorem back_len : ∀ (K : List Md) (X : Xs), (K.foldl Xs.back X).M.length = X.M.length := fun K X => by
 rw [backF]
 show (offB K X.M).length = _
 rw [offB_map, List.length_map]
theorem own_sav (i j : Int) (on : Bool) (M : List Md) : ownM i (setSav j on M) = ownM i M := by
 unfold ownM
 rw [mfind_sav]
 cases findM i M with
 | none => rfl
 | some m =>
  simp only [Option.map_some]
  split <;> rfl
theorem own_offB (i : Int) : ∀ (K M : List Md), ownM i (offB K M) = ownM i M
 | [], _ => rfl
 | m :: K, M => by
  show ownM i (offB K (if m.sav = true then setSav m.win false M else M)) = _
  rw [own_offB i K]
  split
  · exact own_sav i m.win false M
  · rfl
theorem back_own (i : Int) (K : List Md) (X : Xs) : ownM i (K.foldl Xs.back X).M = ownM i X.M := by
 rw [backF]
 exact own_offB i K X.M
theorem end_len1 (X : Xs) (m : Md) : (X.end m).M.length ≤ X.M.length := by
 unfold Xs.end
 split
 · unfold Xs.destroy
   split
   · exact Nat.le_refl _
   · exact (fold_parts _ _).2.2.2.2.2.1.length_le
 · exact Nat.le_refl _
theorem end_len : ∀ (K : List Md) (X : Xs), (K.foldl Xs.end X).M.length ≤ X.M.length
 | [], _ => Nat.le_refl _
 | m :: K, X => Nat.le_trans (end_len K (X.end m)) (end_len1 X m)
section
variable {w w' wr : World} {r : Nat} {Z Z1 : Zl} {X X' : Xs} {k : Nat}
abbrev OM (w : World) (v : Value) (M : List Md) : Prop := OwK encM 99 3 w 0 v M
theorem Ref.apartM (h : Ref w r Z X) {v : Value} {M : List Md} (ho : OM w v M) {q : Nat} (hq : v.ownBlock = some q) : ¬ Z.foot r q := by
 rintro (hf | hf)
 · exact h.ne_row ho (by decide) hq hf
 · obtain ⟨cs, h1⟩ := ok_block ho hq
   obtain ⟨cs', h2⟩ := ok_block h.e hf
   exact absurd rfl (h1.ne_ h2 (by decide))
def LqS (w : World) (r : Nat) (Z : Zl) (v : Value) (M0 : List Md) (X' : Xs) (wr : World) : Prop :=
 ∃ Z1, Ref wr r Z1 X' ∧ Turn (Z.foot r) (Z1.foot r) w wr ∧ OM wr v M0
theorem LqS.turn {v : Value} {M0 : List Md} {X'' : Xs} (hY : Ref wr r Z1 X' ∧ Turn (Z.foot r) (Z1.foot r) w wr ∧ OM wr v M0) (k1 : RefTo wr r Z1 X'' w') : LqS w r Z v M0 X'' w' := by
 obtain ⟨h1, h2, h3⟩ := hY
 obtain ⟨Y2, h5, h6⟩ := k1
 exact ⟨Y2, h5, h2.trans h6, row_kept h3 fun b hb => h6.block b (OwK.lt h3 hb).2 (h1.apartM h3 hb)⟩
theorem mad_at {p : Option Addr} {n c j : Nat} {M : List Md} {m : Md} (h : OM w (.slice p n c) M) (hv : M[j]? = some m) : ∃ g, p = some ⟨g, 0, none⟩ ∧
   w.cell? ⟨g, j * 3, none⟩ = some (.int .i64 m.win) ∧ w.cell? ⟨g, j * 3 + 1, none⟩ = some (.int .i64 m.own) ∧ w.cell? ⟨g, j * 3 + 2, none⟩ = some (.bool m.sav) := by
 obtain ⟨hl, h1⟩ := id h
 rcases h1 with ⟨e, hn⟩ | ⟨g, cap, cur, e, _⟩
 · have := (List.getElem?_eq_some_iff.1 hv).1
   first
    | omega
    | (exfalso; cases e; simp_all)
 · simp only [Value.slice.injEq] at e
   obtain ⟨rfl, -, rfl⟩ := e
   have hc := mad_cells h hv
   exact ⟨g, rfl, hc.1, hc.2.1, hc.2.2.1⟩
end
end Go.Proofs.YtnhchpiafchdgaaGreat
namespace Go.Proofs.YtnhchpiafchdgaaGreat
open Go.RowKit Go.WideShapes Go.ChangeShapes Go.ChangeAt Go.Deep
structure A8 where
 actor : Int
 q : Rq
def A8.cells (t : A8) : List Value := [.int .i64 t.actor, .int .i64 t.q.kind, .int .i64 t.q.win, .int .i64 t.q.other, .int .i64 t.q.x, .int .i64 t.q.y, .int .i64 t.q.a, .int .i64 t.q.e, .string t.q.p.name, .string t.q.p.typ, .string t.q.p.data]
structure A8.ok (t : A8) : Prop where
 actor : I64 t.actor
 win : I64 t.q.win
 other : I64 t.q.other
 name : t.q.p.name.size ≤ maxLen
 typ : t.q.p.typ.size ≤ maxLen
 data : t.q.p.data.size ≤ maxLen
theorem cs8_rect : Tryz.prog.cellsOf 23 = 4 := by kernel_rfl
theorem cs8_req : Tryz.prog.cellsOf 37 = 10 := by kernel_rfl
theorem cs8_act : Tryz.prog.cellsOf 39 = 11 := by kernel_rfl
section
variable {H : Type} {enc : TypeId × Value → H} {w : World} {fuel : Nat} {x : DataW H × List MemPlace}
set_option maxRecDepth 100000 in
set_option maxHeartbeats 1000000 in
theorem open8_rect {c0 c1 c2 c3 : Value} (h : DataW.trod enc Tryz.prog w 0 (fun _ => true) true fuel 23 [c0, c1, c2, c3] = some x) :
  ∃ x y a e : Int, c0 = .int .i64 x ∧ c1 = .int .i64 y ∧ c2 = .int .i64 a ∧ c3 = .int .i64 e := by
 obtain ⟨xs, n, _, hx, _, hlen, hg⟩ := DataW.trod_struct Tryz.underlying23 h
 obtain ⟨y0, e0⟩ : ∃ y, xs[0]? = some y := ⟨_, List.getElem?_eq_getElem (by rw [hlen]; decide)⟩
 have k0 : DataW.trod enc Tryz.prog w 0 (fun _ => true) true n 3 [c0] = some y0 := by
  have h := (hg 0 _ rfl).trans e0
  simpa [Pp.cs_int, Pp.cs_str, Pp.cs_prop, cs8_rect, cs8_req] using h
 obtain ⟨y1, e1⟩ : ∃ y, xs[1]? = some y := ⟨_, List.getElem?_eq_getElem (by rw [hlen]; decide)⟩
 have k1 : DataW.trod enc Tryz.prog w 0 (fun _ => true) true n 3 [c1] = some y1 := by
  have h := (hg 1 _ rfl).trans e1
  simpa [Pp.cs_int, Pp.cs_str, Pp.cs_prop, cs8_rect, cs8_req] using h
 obtain ⟨y2, e2⟩ : ∃ y, xs[2]? = some y := ⟨_, List.getElem?_eq_getElem (by rw [hlen]; decide)⟩
 have k2 : DataW.trod enc Tryz.prog w 0 (fun _ => true) true n 3 [c2] = some y2 := by
  have h := (hg 2 _ rfl).trans e2
  simpa [Pp.cs_int, Pp.cs_str, Pp.cs_prop, cs8_rect, cs8_req] using h
 obtain ⟨y3, e3⟩ : ∃ y, xs[3]? = some y := ⟨_, List.getElem?_eq_getElem (by rw [hlen]; decide)⟩
 have k3 : DataW.trod enc Tryz.prog w 0 (fun _ => true) true n 3 [c3] = some y3 := by
  have h := (hg 3 _ rfl).trans e3
  simpa [Pp.cs_int, Pp.cs_str, Pp.cs_prop, cs8_rect, cs8_req] using h
 obtain ⟨z0, q0, _, w0⟩ := DataW.trod_int Tryz.underlying3 k0
 simp only [List.cons.injEq, and_true] at q0
 obtain ⟨z1, q1, _, w1⟩ := DataW.trod_int Tryz.underlying3 k1
 simp only [List.cons.injEq, and_true] at q1
 obtain ⟨z2, q2, _, w2⟩ := DataW.trod_int Tryz.underlying3 k2
 simp only [List.cons.injEq, and_true] at q2
 obtain ⟨z3, q3, _, w3⟩ := DataW.trod_int Tryz.underlying3 k3
 simp only [List.cons.injEq, and_true] at q3
 exact ⟨z0, z1, z2, z3, q0, q1, q2, q3⟩
set_option maxRecDepth 100000 in
set_option maxHeartbeats 1000000 in
theorem open8_req {c0 c1 c2 c3 c4 c5 c6 c7 c8 c9 : Value} (h : DataW.trod enc Tryz.prog w 0 (fun _ => true) true fuel 37 [c0, c1, c2, c3, c4, c5, c6, c7, c8, c9] = some x) :
  ∃ q : Rq, [c0, c1, c2, c3, c4, c5, c6, c7, c8, c9] = (rqL q).toList ∧ I64 q.win ∧ I64 q.other ∧ q.p.name.size ≤ maxLen ∧ q.p.typ.size ≤ maxLen ∧ q.p.data.size ≤ maxLen := by
 obtain ⟨xs, n, _, hx, _, hlen, hg⟩ := DataW.trod_struct Tryz.underlying37 h
 obtain ⟨y0, e0⟩ : ∃ y, xs[0]? = some y := ⟨_, List.getElem?_eq_getElem (by rw [hlen]; decide)⟩
 have k0 : DataW.trod enc Tryz.prog w 0 (fun _ => true) true n 3 [c0] = some y0 := by
  have h := (hg 0 _ rfl).trans e0
  simpa [Pp.cs_int, Pp.cs_str, Pp.cs_prop, cs8_rect, cs8_req] using h
 obtain ⟨y1, e1⟩ : ∃ y, xs[1]? = some y := ⟨_, List.getElem?_eq_getElem (by rw [hlen]; decide)⟩
 have k1 : DataW.trod enc Tryz.prog w 0 (fun _ => true) true n 3 [c1] = some y1 := by
  have h := (hg 1 _ rfl).trans e1
  simpa [Pp.cs_int, Pp.cs_str, Pp.cs_prop, cs8_rect, cs8_req] using h
 obtain ⟨y2, e2⟩ : ∃ y, xs[2]? = some y := ⟨_, List.getElem?_eq_getElem (by rw [hlen]; decide)⟩
 have k2 : DataW.trod enc Tryz.prog w 0 (fun _ => true) true n 3 [c2] = some y2 := by
  have h := (hg 2 _ rfl).trans e2
  simpa [Pp.cs_int, Pp.cs_str, Pp.cs_prop, cs8_rect, cs8_req] using h
 obtain ⟨y3, e3⟩ : ∃ y, xs[3]? = some y := ⟨_, List.getElem?_eq_getElem (by rw [hlen]; decide)⟩
 have k3 : DataW.trod enc Tryz.prog w 0 (fun _ => true) true n 23 [c3, c4, c5, c6] = some y3 := by
  have h := (hg 3 _ rfl).trans e3
  simpa [Pp.cs_int, Pp.cs_str, Pp.cs_prop, cs8_rect, cs8_req] using h
 obtain ⟨y4, e4⟩ : ∃ y, xs[4]? = some y := ⟨_, List.getElem?_eq_getElem (by rw [hlen]; decide)⟩
 have k4 : DataW.trod enc Tryz.prog w 0 (fun _ => true) true n 35 [c7, c8, c9] = some y4 := by
  have h := (hg 4 _ rfl).trans e4
  simpa [Pp.cs_int, Pp.cs_str, Pp.cs_prop, cs8_rect, cs8_req] using h
 obtain ⟨z0, q0, _, w0⟩ := DataW.trod_int Tryz.underlying3 k0
 simp only [List.cons.injEq, and_true] at q0
 obtain ⟨z1, q1, _, w1⟩ := DataW.trod_int Tryz.underlying3 k1
 simp only [List.cons.injEq, and_true] at q1
 obtain ⟨z2, q2, _, w2⟩ := DataW.trod_int Tryz.underlying3 k2
 simp only [List.cons.injEq, and_true] at q2
 obtain ⟨x, y, a, e, r0, r1, r2, r3⟩ := open8_rect k3
 obtain ⟨p, s0, s1, s2, t0, t1, t2⟩ := Pp.open_prop k4
 exact ⟨⟨z0, z1, z2, x, y, a, e, p⟩, by rw [q0, q1, q2, r0, r1, r2, r3, s0, s1, s2], Pp.i64_of w1, Pp.i64_of w2, t0, t1, t2⟩
set_option maxRecDepth 100000 in
set_option maxHeartbeats 1000000 in
theorem open8_act {c0 c1 c2 c3 c4 c5 c6 c7 c8 c9 c10 : Value} (h : DataW.trod enc Tryz.prog w 0 (fun _ => true) true fuel 39 [c0, c1, c2, c3, c4, c5, c6, c7, c8, c9, c10] = some x) :
  ∃ t : A8, [c0, c1, c2, c3, c4, c5, c6, c7, c8, c9, c10] = t.cells ∧ t.ok := by
 obtain ⟨xs, n, _, hx, _, hlen, hg⟩ := DataW.trod_struct Tryz.underlying39 h
 obtain ⟨y0, e0⟩ : ∃ y, xs[0]? = some y := ⟨_, List.getElem?_eq_getElem (by rw [hlen]; decide)⟩
 have k0 : DataW.trod enc Tryz.prog w 0 (fun _ => true) true n 3 [c0] = some y0 := by
  have h := (hg 0 _ rfl).trans e0
  simpa [Pp.cs_int, Pp.cs_str, Pp.cs_prop, cs8_rect, cs8_req] using h
 obtain ⟨y1, e1⟩ : ∃ y, xs[1]? = some y := ⟨_, List.getElem?_eq_getElem (by rw [hlen]; decide)⟩
 have k1 : DataW.trod enc Tryz.prog w 0 (fun _ => true) true n 37 [c1, c2, c3, c4, c5, c6, c7, c8, c9, c10] = some y1 := by
  have h := (hg 1 _ rfl).trans e1
  simpa [Pp.cs_int, Pp.cs_str, Pp.cs_prop, cs8_rect, cs8_req] using h
 obtain ⟨z0, q0, _, w0⟩ := DataW.trod_int Tryz.underlying3 k0
 simp only [List.cons.injEq, and_true] at q0
 obtain ⟨q, r0, r1, r2, r3, r4, r5⟩ := open8_req k1
 refine ⟨⟨z0, q⟩, ?_, Pp.i64_of w0, r1, r2, r3, r4, r5⟩
 rw [q0]
 exact congrArg (List.cons _) r0
end
section
variable {H : Type} {enc : TypeId × Value → H} {w : World}
set_option maxRecDepth 100000 in
theorem rect8_of {b0 : Nat} {v : Value} {d : DataW H} {q : List MemPlace} (hv : Value.okWide Tryz.prog w .any b0 23 v) (h : DataW.Trod enc Tryz.prog w 0 (fun _ => true) true 23 v d q) : ∃ x y a e : Int, v = .agg #[.int .i64 x, .int .i64 y, .int .i64 a, .int .i64 e] := by
 obtain ⟨⟨l⟩, rfl, hsz⟩ := okWide_struct Tryz.underlying23 hv
 obtain ⟨fuel, hf⟩ := h
 match l, hsz.trans cs8_rect with
 | [c0, c1, c2, c3], _ =>
  obtain ⟨x, y, a, e, rfl, rfl, rfl, rfl⟩ := open8_rect hf
  exact ⟨x, y, a, e, rfl⟩
set_option maxRecDepth 100000 in
theorem act8_of {b0 : Nat} {v : Value} {d : DataW H} {q : List MemPlace} (hv : Value.okWide Tryz.prog w .any b0 39 v) (h : DataW.Trod enc Tryz.prog w 0 (fun _ => true) true 39 v d q) : ∃ t : A8, v = .agg ⟨t.cells⟩ ∧ t.ok := by
 obtain ⟨⟨l⟩, rfl, hsz⟩ := okWide_struct Tryz.underlying39 hv
 obtain ⟨fuel, hf⟩ := h
 match l, hsz.trans cs8_act with
 | [c0, c1, c2, c3, c4, c5, c6, c7, c8, c9, c10], _ =>
  obtain ⟨t, h1, h2⟩ := open8_act hf
  exact ⟨t, by rw [← h1], h2⟩
def IsA8 (B : Nat) (w : World) (v : Value) (ts : List A8) : Prop :=
 ∃ p c, v = .slice p ts.length c ∧ ts.length ≤ 9223372036854775807 ∧ ∀ (j : Nat) (t : A8), ts[j]? = some t → ∃ b o, p = some ⟨b, o, none⟩ ∧ b < B ∧
  (∀ (i : Nat) (u : Value), t.cells[i]? = some u → w.cell? ⟨b, o + j * 11 + i, none⟩ = some u) ∧ t.ok
theorem IsA8.below {B : Nat} {w w' : World} {v : Value} {ts : List A8} (h : IsA8 B w v ts) (hb : Below B w w') : IsA8 B w' v ts := by
 obtain ⟨p, c, h1, h2, h3⟩ := h
 refine ⟨p, c, h1, h2, fun j t hu => ?_⟩
 obtain ⟨b, o, h4, h5, h6, h8⟩ := h3 j t hu
 exact ⟨b, o, h4, h5, fun i u hi => (hb.cell (p := ⟨b, o + j * 11 + i, none⟩) h5).trans (h6 i u hi), h8⟩
set_option maxRecDepth 100000 in
theorem acts8_of {b0 : Nat} {v : Value} {d : DataW H} {q : List MemPlace} (hv : Value.okWide Tryz.prog w .any b0 24 v) (h : DataW.Trod enc Tryz.prog w 0 (fun _ => true) true 24 v d q) :
   ∃ ts, IsA8 w.heap.size w v ts := by
 obtain ⟨a0, len, cap, rfl⟩ := okWide_slice Tryz.underlying24 hv
 obtain ⟨fuel, hf⟩ := h
 rcases open_slice Tryz.underlying24 hf with ⟨hcs, _⟩ | ⟨a, len', cap', m, n, D, Pl, hcs, _, hl, hm, hmm, _, hi⟩
 · simp only [Value.cells, List.cons.injEq, Value.slice.injEq, and_true] at hcs
   obtain ⟨rfl, rfl, rfl⟩ := hcs
   exact ⟨[], none, 0, rfl, by simp, fun j t ht => by simp at ht⟩
 · simp only [Value.cells, List.cons.injEq, Value.slice.injEq, and_true] at hcs
   obtain ⟨rfl, rfl, rfl⟩ := hcs
   simp only [if_true] at hmm
   subst hmm
   have hel : ∀ i, i < len → ∃ t : A8, (∀ (k : Nat) (u : Value), t.cells[k]? = some u → w.cell? (a.add (i * 11 + k)) = some u) ∧ t.ok := by
    intro i hlt
    obtain ⟨cs', hc, ht⟩ := hi i (by omega)
    rw [cs8_act] at hc
    obtain ⟨_, hlen, hat⟩ := World.cells?_some hc
    match cs', hlen with
    | [c0, c1, c2, c3, c4, c5, c6, c7, c8, c9, c10], _ =>
     obtain ⟨t, h1, h2⟩ := open8_act ht
     refine ⟨t, fun k u hu => ?_, h2⟩
     have hk : k < 11 := by have := (List.getElem?_eq_some_iff.1 hu).1; simpa [A8.cells] using this
     have := hat k hk
     rw [← Go.Deep.add_add, this, h1]
     exact hu
   obtain ⟨ts, hts, hp⟩ := Pp.list_of len hel
   refine ⟨ts, some a, m, by rw [hts], by rw [hts]; unfold maxLen at hm; omega, fun j t ht => ?_⟩
   obtain ⟨h1, h3⟩ := hp j t ht
   have h0 : 0 < ts.length := by have := (List.getElem?_eq_some_iff.1 ht).1; omega
   obtain ⟨k1, _⟩ := hp 0 _ (List.getElem?_eq_getElem h0)
   have h10 := k1 0 _ rfl
   rw [show 0 * 11 + 0 = 0 from rfl, show a.add 0 = a by unfold Addr.add; simp] at h10
   have e : a = ⟨a.block, a.off, none⟩ := Pp.cell_spot h10
   refine ⟨a.block, a.off, by rw [← e], block_of_cell h10, fun k u hu => ?_, h3⟩
   have := h1 k u hu
   rw [e, Addr.add_lit, ← Nat.add_assoc] at this
   exact this
end
end Go.Proofs.YtnhchpiafchdgaaGreat
namespace Go.Proofs.YtnhchpiafchdgaaGreat
open Go.RowKit Go.Shelf Go.Maps
theorem not_own_map {w : World} {g : Nat} {T : TypeId} {cs : Array Value} (h : Blk w g T cs) {K : TypeId} {el : Value → Option (DataW Unit × List MemPlace)} {b n : Nat} {D : DataW Unit} (hm : w.ownsMap Tryz.prog K el b n D) : g ≠ b := by
 rintro rfl
 obtain ⟨es, clock, h1, _⟩ := hm
 unfold Blk at h
 rw [h] at h1
 cases h1
section
variable {w w' w0 : World} {s r : Nat} {Y Y' : Yl} {Z Z' : Zl} {X X' : Xs} {k k' : Nat}
theorem srv_ne (h : Srv w s Y X k) {g : Nat} {T : TypeId} {cs : Array Value} (hg : Blk w g T cs) (h1 : T ≠ 80) (h2 : T ≠ 105) (h3 : T ≠ 102) (h4 : T ≠ 3) (h5 : T ≠ 108) (h6 : T ≠ 71) : ¬ Y.foot s g := by
 obtain ⟨col, hc⟩ := h
 rintro (e | e | e | e | e | e)
 · subst e
   exact Blk.ne_ hg hc.srv h1 rfl
 · exact foot_ne hc.tree hg h2 h3 h4 e
 · obtain ⟨cnt, ht, -⟩ := hc.tab
   rcases e with e | e | ⟨i, hi, hv⟩
   · subst e
     exact Blk.ne_ hg ht.tab h5 rfl
   · obtain ⟨D, hD, _⟩ := ht.map
     exact not_own_map hg hD e
   · obtain ⟨D, hD, _⟩ := ht.inner i _ hi hv
     exact not_own_map hg hD rfl
 · obtain ⟨n, hn, D, hD, _⟩ := hc.mak
   exact not_own_map hg hD e
 · obtain ⟨n, hn, D, hD, _⟩ := hc.sav
   exact not_own_map hg hD e
 · obtain ⟨cs', hcs⟩ := ok_block hc.row e
   exact Blk.ne_ hg hcs h6 rfl
theorem ref_stays (h : Srv w s Y X k) (hR : Ref w r Z X') (hd : ∀ b, Y.foot s b → ¬ Z.foot r b) {F' : Nat → Prop} (hT : Turn (Y.foot s) F' w w') : Ref w' r Z X' := by
 refine hR.kept fun b hb => hT.block b (hR.lt hb) fun hf => ?_
 rcases hb with hb | hb | hb | hb | hb
 · exact hd b hf (.inl hb)
 · obtain ⟨cs, hc⟩ := ok_block hR.l hb
   exact srv_ne h hc (by decide) (by decide) (by decide) (by decide) (by decide) (by decide) hf
 · obtain ⟨cs, hc⟩ := ok_block (enc := Pp.encH) (k := 4) hR.p hb
   exact srv_ne h hc (by decide) (by decide) (by decide) (by decide) (by decide) (by decide) hf
 · obtain ⟨cs, hc⟩ := ok_block hR.m hb
   exact srv_ne h hc (by decide) (by decide) (by decide) (by decide) (by decide) (by decide) hf
 · exact hd b hf (.inr hb)
theorem srv_stays (h : Srv w s Y X k) (hd : ∀ b, Y.foot s b → ¬ Z.foot r b) {F' : Nat → Prop} (hT : Turn (Z.foot r) F' w w') : Srv w' s Y X k := by
 obtain ⟨col, hc⟩ := h
 exact ⟨_, hc.kept hT.size fun b hb => hT.block b (hc.foot_lt hb) (hd b hb)⟩
structure Bs (w0 : World) (s r : Nat) (Y : Yl) (Z : Zl) (X : Xs) (k : Nat) (w : World) : Prop where
 c : Srv w s Y X k
 d : Ref w r Z X
 be : Below w0.heap.size w0 w
 yf : ∀ b, Y.foot s b → w0.heap.size ≤ b ∧ ¬ Z.foot r b
 zf : ∀ b, Z.foot r b → w0.heap.size ≤ b
structure Bm (w0 : World) (s r : Nat) (Y : Yl) (Z : Zl) (X X' : Xs) (k : Nat) (w : World) : Prop where
 c : Srv w s Y X' k
 d : Ref w r Z X
 be : Below w0.heap.size w0 w
 yf : ∀ b, Y.foot s b → w0.heap.size ≤ b ∧ ¬ Z.foot r b
 zf : ∀ b, Z.foot r b → w0.heap.size ≤ b
theorem Bs.next (h : Bs w0 s r Y Z X k w) (hb : Below w.heap.size w w') : Bs w0 s r Y Z X k w' := ⟨h.c.next hb, h.d.next hb, hb.on h.be h.be.size, h.yf, h.zf⟩
theorem Bs.code (h : Bs w0 s r Y Z X k w) (hT : SrvTo w s Y X' k' w') : ∃ Y', Bm w0 s r Y' Z X X' k' w' := by
 obtain ⟨Y', h1, h2⟩ := hT
 refine ⟨Y', h1, ref_stays h.c h.d (fun b hb => (h.yf b hb).2) h2, ⟨h2.os.trans h.be.os, h2.tape.trans h.be.tape, h2.output.trans h.be.output, Nat.le_trans h.be.size h2.size, fun i hi => (h2.block i (Nat.lt_of_lt_of_le hi h.be.size) fun hf => by have := (h.yf i hf).1; omega).trans (h.be.block i hi)⟩, fun b hb => ?_, h.zf⟩
 rcases h2.foot b hb with h3 | h3
 · exact h.yf b h3
 · exact ⟨Nat.le_trans h.be.size h3, fun hf => by have := h.d.foot_lt hf; omega⟩
theorem Bm.next (h : Bm w0 s r Y Z X X' k w) (hb : Below w.heap.size w w') : Bm w0 s r Y Z X X' k w' := ⟨h.c.next hb, h.d.next hb, hb.on h.be h.be.size, h.yf, h.zf⟩
theorem V0.mlen (h : V0 X k) : X.M.length ≤ 1000 := by
 have h1 : (X.M.map (·.win)).Nodup := by
  rw [List.nodup_iff_pairwise_ne, List.pairwise_map]
  exact h.up.imp fun hab => by omega
 have h2 : ∀ x ∈ X.M.map (·.win), x ∈ X.L.map (·.id) := fun x hx => by
  obtain ⟨m, hm, rfl⟩ := List.mem_map.1 hx
  obtain ⟨v, hv, e⟩ := (h.same m.win).2 ⟨m, hm, rfl⟩
  exact List.mem_map.2 ⟨v, hv, e⟩
 have h3 := nodup_le h1 h2
 rw [List.length_map, List.length_map] at h3
 have := h.s.len
 have := h.s.most
 omega
end
end Go.Proofs.YtnhchpiafchdgaaGreat
