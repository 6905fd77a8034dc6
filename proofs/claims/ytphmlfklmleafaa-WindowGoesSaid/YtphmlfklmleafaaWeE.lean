/- Destroy, Reparent, Raise of a window that is there, as the laws ask of them. -/
import Derived.Test.YtphmlfklmleafaaWeB
namespace Go.Proofs.Ytphmlfklmleafaa
open Go.RowKit Go.Shelf Go.Maps
/-- The document's list in its block. -/
def Li (w : World) (rb : Nat) (R : RT) (L : List Win) : Prop := ∃ p c, Blk w rb 36 (refA R (.slice p L.length c)) ∧ RO w (.slice p L.length c) L
section
variable {R : RT} {L : List Win} {k : Nat} {w0 w w' : World} {t rb : Nat}
theorem Li.next (h : Li w rb R L) (hb : Below w.heap.size w w') : Li w' rb R L := by
  obtain ⟨p, c, h1, h2⟩ := h
  exact ⟨p, c, h1.next hb, OwK.below h2 hb⟩
theorem Bo.li (hB : Bo w0 t rb R L w) : Li w rb R L := by
  obtain ⟨l, sv, h1, h2, h3, -⟩ := hB
  obtain ⟨p, c, rfl⟩ := OwK.slice h3
  exact ⟨p, c, h2, h3⟩
/-- What a law reads of the list: its slice, and of each window the cells. -/
theorem Li.cells (h : Li w rb R L) : ∃ p c, w.cell? ⟨rb, 5, none⟩ = some (.slice p L.length c) ∧ ∀ (j : Nat) (v : Win), L[j]? = some v → ∃ b o, p = some ⟨b, o, none⟩ ∧ w.cell? ⟨b, o + j * 7, none⟩ = some (.int .i64 v.id) ∧ w.cell? ⟨b, o + j * 7 + 1, none⟩ = some (.int .i64 v.par) ∧ w.cell? ⟨b, o + j * 7 + 2, none⟩ = some (.int .i64 v.x) ∧ w.cell? ⟨b, o + j * 7 + 3, none⟩ = some (.int .i64 v.y) ∧
      w.cell? ⟨b, o + j * 7 + 4, none⟩ = some (.int .i64 v.w) ∧ w.cell? ⟨b, o + j * 7 + 5, none⟩ = some (.int .i64 v.h) ∧ w.cell? ⟨b, o + j * 7 + 6, none⟩ = some (.bool v.on) := by
  obtain ⟨p, c, h1, h2⟩ := h
  have h3 := RO.rd h2
  obtain ⟨p', c', e, hc⟩ := h3
  injection e with e1 _ e3
  subst e1
  refine ⟨p, c, h1.at_ (i := 5) rfl, fun j v hv => ?_⟩
  obtain ⟨b, o, h4, h5, h6⟩ := hc j v hv
  exact ⟨b, o, h4, RW.cells h6⟩
theorem gone_last (R : RT) {v : Win} {d : Nd} (hd : ndL R L v.id = some d) : ∃ ys, goneL R L v = ys ++ [v.id] := by
  unfold goneL
  simp only [allL, hd]
  exact ⟨_, rfl⟩
/-- Destroyed. -/
theorem Bo.ends (S : Sane R L k) (hB : Bo w0 t rb R L w) {v : Win} (hv : v ∈ L) : Sane R (dropAll (goneL R L v) L) k ∧ Calls Try.prog 20 #[treeP t, .int .i64 v.id] w fun ex w' => ∃ gv, ex = .returned (.tuple #[gv, .int .i64 0]) ∧ RdI w' gv (goneL R L v) ∧ Co w0 t R (dropAll (goneL R L v) L) w' ∧ Li w' rb R L := by
  have hn := S.nums (nd_of S.uniq hv)
  obtain ⟨L', err, xs, S', _, _, h1, h2⟩ := both_destroy S (i := v.id) ⟨by omega, by omega⟩
  obtain ⟨rfl, rfl, rfl⟩ := h1 v hv rfl
  refine ⟨S', ?_⟩
  obtain ⟨l, sv, h3, h4, h5, h6, h7, h8⟩ := hB
  refine (h2 w t l h3).mono fun ex w' hh => ?_
  obtain ⟨gv, e1, e2, e3, e4⟩ := hh
  obtain ⟨l', k1, k2, k3⟩ := CT.out e4 h6 h8
  have h9 := CT.ref h3 e4 h4
  have h10 := CT.row h3 e4 h5
  obtain ⟨p, c, rfl⟩ := OwK.slice h5
  exact ⟨gv, e1, e2, ⟨l', k1, k2, k3⟩, p, c, h9, h10⟩
/-- Raised. -/
theorem raise_some (S : Sane R L k) {v : Win} (hv : v ∈ L) : Sane R (dropL v.id L ++ [v]) k ∧ (dropL v.id L ++ [v]).length = L.length ∧ (∃ dp, ndL R L v.par = some dp ∧ ndL R (dropL v.id L ++ [v]) = upd (ndL R L) v.par (some ⟨dp.win, strike v.id dp.kids ++ [v.id]⟩)) ∧
    ∀ (w0 w : World) (t : Nat), Co w0 t R L w → Calls Try.prog 25 #[treeP t, .int .i64 v.id] w fun ex w' => ex = .returned (.int .i64 0) ∧ Co w0 t R (dropL v.id L ++ [v]) w' ∧ ∀ g cs, Blk w g 50 cs → Blk w' g 50 cs := by
  have hn := S.nums (nd_of S.uniq hv)
  have hd := nd_of S.uniq hv
  obtain ⟨g1, g2⟩ := raise_list S.toGood hv
  obtain ⟨dp, hdp⟩ := par_there S.toGood hv
  have hl := drop_one S hv
  have hz : v.id ≠ 0 := by have := (S.pos v hv).1; omega
  refine ⟨⟨g1, S.low, S.last, by have := S.len; simp; omega, S.most⟩, by simp; omega, ⟨dp, hdp, g2 _ hdp⟩, fun w0 w t hC => ?_⟩
  obtain ⟨l, hT, h6, h8⟩ := hC
  obtain ⟨r, hr⟩ := root_b hT
  obtain ⟨b, hb⟩ := hT.block hd
  obtain ⟨bp, hbp⟩ := hT.block hdp
  refine (raise_c hT hr ⟨by omega, by omega⟩ hb hd hz hbp hdp (par_ne S.toGood hv) ((S.wide _ _ hd).2) (S.kids _ _ hdp)).mono fun ex w' hh => ⟨hh.1, ?_⟩
  have e4 : CT R (dropL v.id L ++ [v]) t l w w' := CT.to hh.2 (g2 _ hdp).symm rfl (by simp; omega)
  obtain ⟨l', k1, k2, k3⟩ := CT.out e4 h6 h8
  obtain ⟨lx, _, kx⟩ := e4
  exact ⟨⟨l', k1, k2, k3⟩, fun g cs hbl => kx.blk hbl (foot_ne hT hbl ty1.1 ty1.2.1 ty1.2.2)⟩
/-- Put into another one. -/
def movedW (v : Win) (q x y : Int) : Win := ⟨v.id, q, x, y, v.w, v.h, v.on⟩
theorem repar_some (S : Sane R L k) {v : Win} (hv : v ∈ L) {q : Int} {dq : Nd} (hdq : ndL R L q = some dq) (x y : Int) : ∃ err L', Sane R L' k ∧ (err = 0 → L' = dropL v.id L ++ [movedW v q x y] ∧ q ≠ v.id) ∧
    ∀ (W : World) (t : Nat) (l : Lay), TB W t l R L → Calls Try.prog 21 #[treeP t, .int .i64 v.id, .int .i64 q, .agg #[.int .i64 x, .int .i64 y]] W fun ex w' => ex = .returned (.int .i64 err) ∧ CT R L' t l W w' := by
  have hd := nd_of S.uniq hv
  have hn := S.nums hd
  have hnq := S.nums hdq
  have h1 : v.id ≠ 0 := by have := (S.pos v hv).1; omega
  obtain ⟨dp, hdp⟩ := par_there S.toGood hv
  have hc : ∀ (n : Nat) (W : World) (t : Nat) (l : Lay), TB W t l R L → (l.nb q = none ∨ Way (ndL R L) n q) → Calls Try.prog 21 #[treeP t, .int .i64 v.id, .int .i64 q, .agg #[.int .i64 x, .int .i64 y]] W fun ex w' => ReparR W t l (ndL R L) R.last (L.length + 1) v.id q x y ⟨v, kidsL L v.id⟩ dp n ex w' := fun n W t l hT hcase => by
    obtain ⟨r, hr⟩ := root_b hT
    obtain ⟨b, hb⟩ := hT.block hd
    obtain ⟨bp, hbp⟩ := hT.block hdp
    exact repar_c hT S.wide hr ⟨by omega, by omega⟩ ⟨by omega, by omega⟩ hb hd h1 hbp hdp (par_ne S.toGood hv) ((S.wide _ _ hd).2) S.kids n hcase
  obtain ⟨n, hw⟩ := S.any hdq
  have hnb : ∀ (W : World) (t : Nat) (l : Lay), TB W t l R L → ¬ l.nb q = none := fun W t l hT e => by
    obtain ⟨b, hb⟩ := hT.block hdq
    rw [e] at hb; cases hb
  cases hth : thruB (ndL R L) n q v.id with
  | true =>
    refine ⟨61, L, S, (fun e => by cases e), fun W t l hT => (hc n W t l hT (.inr hw)).mono fun ex w' hh => ?_⟩
    unfold ReparR at hh
    rw [if_neg (hnb W t l hT), if_pos hth] at hh
    exact ⟨hh.1, CT.same hT hh.2⟩
  | false =>
    cases hr : rightB x y v.w v.h with
    | false =>
      refine ⟨10, L, S, (fun e => by cases e), fun W t l hT => (hc n W t l hT (.inr hw)).mono fun ex w' hh => ?_⟩
      unfold ReparR at hh
      rw [if_neg (hnb W t l hT), if_neg (by rw [hth]; simp), if_pos hr] at hh
      exact ⟨hh.1, CT.same hT hh.2⟩
    | true =>
      obtain ⟨g1, g2⟩ := repar_list S.toGood hv (x := x) (y := y) hdq hw hth
      have hl := drop_one S hv
      refine ⟨0, dropL v.id L ++ [movedW v q x y], ⟨g1, S.low, S.last, by have := S.len; simp; omega, S.most⟩, fun _ => ⟨rfl, fun e => ?_⟩, fun W t l hT => (hc n W t l hT (.inr hw)).mono fun ex w' hh => ?_⟩
      · cases n with
        | zero => simp [thruB, e] at hth
        | succ n => simp [thruB, e] at hth
      · unfold ReparR at hh
        rw [if_neg (hnb W t l hT), if_neg (by rw [hth]; simp), if_neg (by show ¬ rightB x y v.w v.h = false; rw [hr]; simp)] at hh
        exact ⟨hh.1, CT.to hh.2 (g2 _ _ hd hdp).symm rfl (by simp; omega)⟩
/-- Rows that the tree does not hold stay as they are. -/
theorem Co.keeps {L' : List Win} {w2 : World} {gv : Value} {xs : List Int} {l : Lay} (hT : TB w t l R L) (hk : w2.ownsRow w.heap.size 3 1 gv xs.length (xs.map (Value.int .i64))) (hC : CT R L' t l w2 w') : w'.ownsRow w.heap.size 3 1 gv xs.length (xs.map (Value.int .i64)) := by
  obtain ⟨l', _, hk'⟩ := hC
  obtain ⟨h1, h2⟩ := hk
  refine ⟨h1, ?_⟩
  rcases h2 with h2 | ⟨g, cap, cur, rfl, h3, h4, h5⟩
  · exact .inl h2
  · have hlt : g < w2.heap.size := (Array.getElem?_eq_some_iff.1 h4).1
    exact .inr ⟨g, cap, cur, rfl, h3, (hk'.block g hlt (fun hf => by have := hT.foot_lt hf; omega)).trans h4, h5⟩
theorem Bo.goes {err : Int} {L' : List Win} {i q x y : Int} (hc : ∀ (W : World) (t : Nat) (l : Lay), TB W t l R L → Calls Try.prog 21 #[treeP t, .int .i64 i, .int .i64 q, .agg #[.int .i64 x, .int .i64 y]] W fun ex w' => ex = .returned (.int .i64 err) ∧ CT R L' t l W w') (hB : Bo w0 t rb R L w)
    {w2 : World} (hb : Below w.heap.size w w2) {gv : Value} {xs : List Int} (hk : w2.ownsRow w.heap.size 3 1 gv xs.length (xs.map (Value.int .i64))) :
    Calls Try.prog 21 #[treeP t, .int .i64 i, .int .i64 q, .agg #[.int .i64 x, .int .i64 y]] w2 fun ex w' => ex = .returned (.int .i64 err) ∧ Co w0 t R L' w' ∧ RdI w' gv xs := by
  obtain ⟨l, sv, h3, h4, h5, h6, h7, h8⟩ := hB
  refine (hc w2 t l (h3.next hb)).mono fun ex w' hh => ⟨hh.1, ?_⟩
  obtain ⟨l', k1, k2, k3⟩ := CT.out hh.2 (hb.on h6 h6.size) h8
  exact ⟨⟨l', k1, k2, k3⟩, RdI.of (Co.keeps h3 hk hh.2)⟩
/-- Found in the changed list. -/
theorem moved_nd (S : Sane R L k) {v : Win} (hv : v ∈ L) {q x y : Int} (S' : Sane R (dropL v.id L ++ [movedW v q x y]) k) (hq : q ≠ v.id) : ndL R (dropL v.id L ++ [movedW v q x y]) v.id = some ⟨movedW v q x y, kidsL L v.id⟩ := by
  have hm : movedW v q x y ∈ dropL v.id L ++ [movedW v q x y] := List.mem_append_right _ (List.mem_singleton.2 rfl)
  have h1 := nd_of S'.uniq hm
  have h2 : kidsL (dropL v.id L ++ [movedW v q x y]) v.id = kidsL L v.id := by
    rw [kids_app, kids_drop, kids_one, if_neg (show (movedW v q x y).par ≠ v.id from hq), List.append_nil]
    refine List.filter_eq_self.2 fun c hc => ?_
    obtain ⟨u, hu, h3, h4, -⟩ := kid_of S.toGood hc
    refine decide_eq_true (fun e => ?_)
    have := same_id S.nodup hu hv (h3.trans e)
    subst this
    exact par_ne S.toGood hu h4
  rw [show (movedW v q x y).id = v.id from rfl, h2] at h1
  exact h1
theorem moved_kids {v : Win} {q x y : Int} : ∃ ys, kidsL (dropL v.id L ++ [movedW v q x y]) q = ys ++ [v.id] := by
  rw [kids_app, kids_one, if_pos (show (movedW v q x y).par = q from rfl)]
  exact ⟨_, rfl⟩
end
end Go.Proofs.Ytphmlfklmleafaa
