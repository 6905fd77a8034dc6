/- A tree's calls as plain functions of its list (pure). -/
import Derived.Test.YtfdgpbdppenhmaaGreatSav
namespace Go.Proofs.YtfdgpbdppenhmaaGreat
open Go.RowKit Go.Shelf Go.Maps
/-- How far it is up to the root, at most n steps. -/
def upsN (nd : Int → Option Nd) : Nat → Int → Nat
  | 0, _ => 0
  | n + 1, i => if i = 0 then 0 else upsN nd n (parOf nd i) + 1
theorem ups_way {nd : Int → Option Nd} : ∀ {m n : Nat} {i : Int}, Way nd m i → m ≤ n → upsN nd n i = m
  | 0, 0, _, _, _ => rfl
  | 0, n + 1, i, h, _ => by unfold upsN; rw [if_pos h.1]
  | m + 1, 0, _, _, h => by omega
  | m + 1, n + 1, i, ⟨h0, d, hd, h⟩, hm => by
    unfold upsN
    rw [if_neg h0, par_of hd, ups_way h (by omega)]
abbrev upsL (R : RT) (L : List Win) (i : Int) : Nat := upsN (ndL R L) (L.length + 1) i
theorem ups_eq {R : RT} {L : List Win} {m : Nat} {i : Int} (h : Way (ndL R L) m i) : upsL R L i = m := ups_way h (by have := h.le; omega)
def thereL (R : RT) (L : List Win) (i : Int) : Bool := (ndL R L i).isSome
def winL (R : RT) (L : List Win) (i : Int) : Win := ((ndL R L i).map (·.win)).getD zeroW
def viewL (R : RT) (L : List Win) (i : Int) : Bool := thereL R L i && viewB (ndL R L) (upsL R L i) i
def absXL (R : RT) (L : List Win) (i : Int) : Int := if thereL R L i = true then IntKind.i64.wrap (absX (ndL R L) (upsL R L i) i) else 0
def absYL (R : RT) (L : List Win) (i : Int) : Int := if thereL R L i = true then IntKind.i64.wrap (absY (ndL R L) (upsL R L i) i) else 0
/-- The window i turned. -/
def putW (f : Win → Win) (i : Int) (L : List Win) : List Win :=
  match placeN i L with
  | none => L
  | some j => match L[j]? with
    | none => L
    | some v => L.set j (f v)
theorem putW_at {f : Win → Win} {i : Int} {L : List Win} {j : Nat} {v : Win} (h1 : placeN i L = some j) (h2 : L[j]? = some v) : putW f i L = L.set j (f v) := by
  unfold putW; rw [h1]; dsimp only; rw [h2]
theorem find_at {i : Int} {L : List Win} {j : Nat} {v : Win} (h1 : placeN i L = some j) (h2 : L[j]? = some v) : findL i L = some v := by unfold findL; rw [h1]; exact h2
def tMap (on : Bool) (i : Int) (L : List Win) : List Win × Int := if askL L i ≠ 0 then (L, askL L i) else (putW (fun v => ⟨v.id, v.par, v.x, v.y, v.w, v.h, on⟩) i L, 0)
def tConf (i x y a e : Int) (L : List Win) : List Win × Int := if askL L i ≠ 0 then (L, askL L i) else if rightB x y a e = false then (L, 10) else (putW (fun v => ⟨v.id, v.par, x, y, a, e, v.on⟩) i L, 0)
def tRaise (i : Int) (L : List Win) : List Win × Int := if askL L i ≠ 0 then (L, askL L i) else (match findL i L with | none => L | some v => dropL i L ++ [v], 0)
def tLower (i : Int) (L : List Win) : List Win × Int := if askL L i ≠ 0 then (L, askL L i) else (match findL i L with | none => L | some v => v :: dropL i L, 0)
def tRepar (R : RT) (i q x y : Int) (L : List Win) : List Win × Int :=
  if askL L i ≠ 0 then (L, askL L i) else if isL L q = false then (L, 6) else if thruB (ndL R L) (upsL R L q) q i = true then (L, 61)
  else match findL i L with
    | none => (L, 0)
    | some v => if rightB x y v.w v.h = false then (L, 10) else (dropL i L ++ [⟨i, q, x, y, v.w, v.h, v.on⟩], 0)
def goneI (R : RT) (L : List Win) (i : Int) : List Int := allL (ndL R L) (L.length + 1) i
def tDestroy (R : RT) (i : Int) (L : List Win) : List Win × List Int × Int := if askL L i ≠ 0 then (L, [], askL L i) else (dropAll (goneI R L i) L, goneI R L i, 0)
def tCreate (R : RT) (q x y a e : Int) (L : List Win) : RT × List Win × Int × Int :=
  if isL L q = false then (R, L, 0, 6) else if rightB x y a e = false then (R, L, 0, 10)
  else ({ R with last := R.last + 1 }, L ++ [⟨R.last + 1, q, x, y, a, e, false⟩], R.last + 1, 0)
/-- What both sides show of a window. -/
structure Shows (R : RT) (L : List Win) (i : Int) : Prop where
  cget : ∀ (W : World) (t : Nat) (l : Lay), TB W t l R L → Calls Tryz.prog 48 #[treeP t, .int .i64 i] W fun e w' => e = .returned (.tuple #[winV (winL R L i), .bool (thereL R L i)]) ∧ Below W.heap.size W w'
  rget : ∀ (W : World) (sv : Value), RW W sv L → Calls Tryz.prog 39 #[refV R sv, .int .i64 i] W fun e w' => e = .returned (.tuple #[winV (winL R L i), .bool (thereL R L i)]) ∧ Below W.heap.size W w'
  cabs : ∀ (W : World) (t : Nat) (l : Lay), TB W t l R L → Calls Tryz.prog 51 #[treeP t, .int .i64 i] W fun e w' => e = .returned (.tuple #[.agg #[.int .i64 (absXL R L i), .int .i64 (absYL R L i)], .bool (thereL R L i)]) ∧ Below W.heap.size W w'
  rabs : ∀ (W : World) (sv : Value), RW W sv L → Calls Tryz.prog 41 #[refV R sv, .int .i64 i] W fun e w' => e = .returned (.tuple #[.agg #[.int .i64 (absXL R L i), .int .i64 (absYL R L i)], .bool (thereL R L i)]) ∧ Below W.heap.size W w'
  ckids : ∀ (W : World) (t : Nat) (l : Lay), TB W t l R L → Calls Tryz.prog 49 #[treeP t, .int .i64 i] W fun e w' => ∃ v', e = .returned v' ∧ RdI w' v' (kidsL L i) ∧ Below W.heap.size W w'
  rkids : ∀ (W : World) (sv : Value), RW W sv L → Calls Tryz.prog 23 #[refV R sv, .int .i64 i] W fun e w' => ∃ v', e = .returned v' ∧ RdI w' v' (kidsL L i) ∧ Below W.heap.size W w'
  cview : ∀ (W : World) (t : Nat) (l : Lay), TB W t l R L → Calls Tryz.prog 44 #[treeP t, .int .i64 i] W fun e w' => e = .returned (.bool (viewL R L i)) ∧ W = w'
  rview : ∀ (W : World) (sv : Value), RW W sv L → Calls Tryz.prog 42 #[refV R sv, .int .i64 i] W fun e w' => e = .returned (.bool (viewL R L i)) ∧ Below W.heap.size W w'
section
variable {R : RT} {L : List Win} {k : Nat}
theorem no_kids (S : Sane R L k) {i : Int} (hn : ndL R L i = none) : kidsL L i = [] := by
  unfold kidsL
  rw [List.map_eq_nil_iff, List.filter_eq_nil_iff]
  intro u hu hp
  obtain ⟨d, hd⟩ := par_there S.toGood hu
  rw [show u.par = i by simpa using hp, hn] at hd
  cases hd
theorem shows_all (S : Sane R L k) {i : Int} (hi : I64 i) : Shows R L i := by
  have hL : L.length ≤ 1048576 := by have := S.big; omega
  cases hn : ndL R L i with
  | none =>
    have e1 : thereL R L i = false := by unfold thereL; rw [hn]; rfl
    have e2 : winL R L i = zeroW := by unfold winL; rw [hn]; rfl
    have e3 : viewL R L i = false := by unfold viewL; rw [e1]; rfl
    have e4 : absXL R L i = 0 := by unfold absXL; rw [if_neg (by rw [e1]; decide)]
    have e5 : absYL R L i = 0 := by unfold absYL; rw [if_neg (by rw [e1]; decide)]
    have hg : getR R L i = none := by
      unfold ndL at hn
      cases h : getR R L i with
      | none => rfl
      | some v => rw [h] at hn; cases hn
    have hk := no_kids S hn
    constructor
    · rw [e1, e2]; exact fun W t l hT => get_none hT hi (none_b hT hn)
    · rw [e1, e2]; exact fun W sv hR => by
        have h := rget_c (R := R) hR hL i
        rw [hg] at h
        exact h
    · rw [e1, e4, e5]; exact fun W t l hT => abs_none hT hi (none_b hT hn)
    · rw [e1, e4, e5]; exact fun W sv hR => rabs_none hR hL hg
    · rw [hk]; exact fun W t l hT => (kids_none hT hi (none_b hT hn)).mono fun e w' h => ⟨_, h.1, ⟨none, 0, rfl, fun j x hx => by simp at hx⟩, h.2 ▸ Below.refl _ _⟩
    · rw [hk]; exact fun W sv hR => by
        have h := rkids_c (R := R) hR hL i
        rw [hk] at h
        exact h.mono fun e w' ⟨v', h1, h2, h3⟩ => ⟨v', h1, RdI.of (xs := []) h2, h3⟩
    · rw [e3]; exact fun W t l hT => view_none hT hi (none_b hT hn)
    · rw [e3]; exact fun W sv hR => rview_none hR hL hg
  | some d =>
    obtain ⟨m, hm⟩ := S.any hn
    obtain ⟨h1, h2⟩ := ndL_some hn
    have e1 : thereL R L i = true := by unfold thereL; rw [hn]; rfl
    have e2 : winL R L i = d.win := by unfold winL; rw [hn]; rfl
    have e3 : viewL R L i = viewB (ndL R L) m i := by unfold viewL; rw [e1, ups_eq hm]; rfl
    have e4 : absXL R L i = IntKind.i64.wrap (absX (ndL R L) m i) := by unfold absXL; rw [if_pos e1, ups_eq hm]
    have e5 : absYL R L i = IntKind.i64.wrap (absY (ndL R L) m i) := by unfold absYL; rw [if_pos e1, ups_eq hm]
    constructor
    · rw [e1, e2]; exact fun W t l hT => get_c hT hi hn
    · rw [e1, e2]; exact fun W sv hR => by
        have h := rget_c (R := R) hR hL i
        rw [h1] at h
        exact h
    · rw [e1, e4, e5]; exact fun W t l hT => abs_c S.wide m i W hT hm
    · rw [e1, e4, e5]; exact fun W sv hR => rabs_c hR hL hm hm.le
    · exact fun W t l hT => (kids_c hT hi hn (by have := S.kids _ _ hn; omega)).mono fun e w' h => by
        obtain ⟨v', k1, k2⟩ := h
        rw [h2] at k2
        exact ⟨v', k1, RdI.of k2.1, k2.2⟩
    · exact fun W sv hR => (rkids_c (R := R) hR hL i).mono fun e w' ⟨v', h1, h2, h3⟩ => ⟨v', h1, RdI.of h2, h3⟩
    · rw [e3]; exact fun W t l hT => view_c S.wide m i W hT hm
    · rw [e3]; exact fun W sv hR => rview_c hR hL hm hm.le
theorem isL_there (R : RT) (L : List Win) (q : Int) : isL L q = thereL R L q := isL_nd R L q
theorem t_map (S : Sane R L k) {i : Int} (hi : I64 i) (on : Bool) : Sane R (tMap on i L).1 k ∧ (∀ x y a e, RefC (if on = true then 3 else 4) i x y a e R L (tMap on i L).1 (tMap on i L).2) ∧
    ∀ (W : World) (t : Nat) (l : Lay), TB W t l R L → Calls Tryz.prog 120 #[treeP t, .int .i64 i, .bool on] W fun ex w' => ex = .returned (.int .i64 (tMap on i L).2) ∧ CT R (tMap on i L).1 t l W w' := by
  rcases three R L i with ⟨h1, h2, h3⟩ | ⟨rfl, h2⟩ | ⟨h1, h2, j, v, h3, h4, rfl⟩
  · rw [show tMap on i L = (L, 6) by unfold tMap; rw [if_pos (by omega), h2]]
    refine ⟨S, fun x y a e W sv hR => rchange_no hR S.big h2 (by omega), fun W t l hT => ?_⟩
    obtain ⟨r, hr⟩ := root_b hT
    exact (map_f (refuse_none hT hr hi (none_b hT h1)) rfl).mono fun ex w' hh => ⟨hh.1, CT.same hT hh.2⟩
  · rw [show tMap on 0 L = (L, 1) by unfold tMap; rw [if_pos (by omega), h2]]
    refine ⟨S, fun x y a e W sv hR => rchange_no hR S.big h2 (by omega), fun W t l hT => ?_⟩
    obtain ⟨r, hr⟩ := root_b hT
    exact (map_f (refuse_root hT hr) rfl).mono fun ex w' hh => ⟨hh.1, CT.same hT hh.2⟩
  · have hv := List.mem_of_getElem? h4
    have hd := nd_of S.uniq hv
    obtain ⟨g1, g2⟩ := set_list S.toGood (v' := ⟨v.id, v.par, v.x, v.y, v.w, v.h, on⟩) h4 rfl rfl
    rw [show tMap on v.id L = (L.set j ⟨v.id, v.par, v.x, v.y, v.w, v.h, on⟩, 0) by unfold tMap; rw [if_neg (by omega), putW_at h3 h4]]
    refine ⟨⟨g1, S.low, S.last, by rw [List.length_set]; exact S.len, S.most⟩, fun x y a e W sv hR => ?_, fun W t l hT => ?_⟩
    · cases on with
      | true => exact rchange_map hR S.big h3 h4 h1
      | false => exact rchange_unmap hR S.big h3 h4 h1
    · obtain ⟨r, hr⟩ := root_b hT
      obtain ⟨b, hb⟩ := hT.block hd
      exact (map_c hT hr hi hb hd h1 on).mono fun ex w' hh => ⟨hh.1, CT.to hh.2 (g2 _ hd).symm rfl (by rw [List.length_set])⟩
theorem t_conf (S : Sane R L k) {i : Int} (hi : I64 i) (x y a e : Int) : Sane R (tConf i x y a e L).1 k ∧ RefC 0 i x y a e R L (tConf i x y a e L).1 (tConf i x y a e L).2 ∧
    ∀ (W : World) (t : Nat) (l : Lay), TB W t l R L → Calls Tryz.prog 121 #[treeP t, .int .i64 i, .agg #[.int .i64 x, .int .i64 y, .int .i64 a, .int .i64 e]] W fun ex w' => ex = .returned (.int .i64 (tConf i x y a e L).2) ∧ CT R (tConf i x y a e L).1 t l W w' := by
  rcases three R L i with ⟨h1, h2, h3⟩ | ⟨rfl, h2⟩ | ⟨h1, h2, j, v, h3, h4, rfl⟩
  · rw [show tConf i x y a e L = (L, 6) by unfold tConf; rw [if_pos (by omega), h2]]
    refine ⟨S, fun W sv hR => rchange_no hR S.big h2 (by omega), fun W t l hT => ?_⟩
    obtain ⟨r, hr⟩ := root_b hT
    exact (conf_f (refuse_none hT hr hi (none_b hT h1)) rfl).mono fun ex w' hh => ⟨hh.1, CT.same hT hh.2⟩
  · rw [show tConf 0 x y a e L = (L, 1) by unfold tConf; rw [if_pos (by omega), h2]]
    refine ⟨S, fun W sv hR => rchange_no hR S.big h2 (by omega), fun W t l hT => ?_⟩
    obtain ⟨r, hr⟩ := root_b hT
    exact (conf_f (refuse_root hT hr) rfl).mono fun ex w' hh => ⟨hh.1, CT.same hT hh.2⟩
  · have hv := List.mem_of_getElem? h4
    have hd := nd_of S.uniq hv
    cases hq : rightB x y a e with
    | false =>
      rw [show tConf v.id x y a e L = (L, 10) by unfold tConf; rw [if_neg (by omega), if_pos hq]]
      refine ⟨S, fun W sv hR => rchange_wrong hR S.big h3 h4 h1 hq, fun W t l hT => ?_⟩
      obtain ⟨r, hr⟩ := root_b hT
      obtain ⟨b, hb⟩ := hT.block hd
      exact (conf_wrong hT hr hi hb h1 hq).mono fun ex w' hh => ⟨hh.1, CT.same hT hh.2⟩
    | true =>
      obtain ⟨g1, g2⟩ := set_list S.toGood (v' := ⟨v.id, v.par, x, y, a, e, v.on⟩) h4 rfl rfl
      rw [show tConf v.id x y a e L = (L.set j ⟨v.id, v.par, x, y, a, e, v.on⟩, 0) by unfold tConf; rw [if_neg (by omega), if_neg (by rw [hq]; decide), putW_at h3 h4]]
      refine ⟨⟨g1, S.low, S.last, by rw [List.length_set]; exact S.len, S.most⟩, fun W sv hR => rchange_conf hR S.big h3 h4 h1 hq, fun W t l hT => ?_⟩
      obtain ⟨r, hr⟩ := root_b hT
      obtain ⟨b, hb⟩ := hT.block hd
      exact (conf_c hT hr hi hb hd h1 hq).mono fun ex w' hh => ⟨hh.1, CT.to hh.2 (g2 _ hd).symm rfl (by rw [List.length_set])⟩
theorem t_raise (S : Sane R L k) {i : Int} (hi : I64 i) : Sane R (tRaise i L).1 k ∧ (∀ x y a e, RefC 1 i x y a e R L (tRaise i L).1 (tRaise i L).2) ∧
    ∀ (W : World) (t : Nat) (l : Lay), TB W t l R L → Calls Tryz.prog 122 #[treeP t, .int .i64 i] W fun ex w' => ex = .returned (.int .i64 (tRaise i L).2) ∧ CT R (tRaise i L).1 t l W w' := by
  rcases three R L i with ⟨h1, h2, h3⟩ | ⟨rfl, h2⟩ | ⟨h1, h2, j, v, h3, h4, rfl⟩
  · rw [show tRaise i L = (L, 6) by unfold tRaise; rw [if_pos (by omega), h2]]
    refine ⟨S, fun x y a e W sv hR => rchange_no hR S.big h2 (by omega), fun W t l hT => ?_⟩
    obtain ⟨r, hr⟩ := root_b hT
    exact (raise_f (refuse_none hT hr hi (none_b hT h1)) rfl).mono fun ex w' hh => ⟨hh.1, CT.same hT hh.2⟩
  · rw [show tRaise 0 L = (L, 1) by unfold tRaise; rw [if_pos (by omega), h2]]
    refine ⟨S, fun x y a e W sv hR => rchange_no hR S.big h2 (by omega), fun W t l hT => ?_⟩
    obtain ⟨r, hr⟩ := root_b hT
    exact (raise_f (refuse_root hT hr) rfl).mono fun ex w' hh => ⟨hh.1, CT.same hT hh.2⟩
  · have hv := List.mem_of_getElem? h4
    have hd := nd_of S.uniq hv
    obtain ⟨g1, g2⟩ := raise_list S.toGood hv
    obtain ⟨dp, hdp⟩ := par_there S.toGood hv
    have hl := drop_one S hv
    rw [show tRaise v.id L = (dropL v.id L ++ [v], 0) by unfold tRaise; rw [if_neg (by omega), find_at h3 h4]]
    refine ⟨⟨g1, S.low, S.last, by have := S.len; simp; omega, S.most⟩, fun x y a e W sv hR => rchange_raise hR S.big h3 h4 h1, fun W t l hT => ?_⟩
    obtain ⟨r, hr⟩ := root_b hT
    obtain ⟨b, hb⟩ := hT.block hd
    obtain ⟨bp, hbp⟩ := hT.block hdp
    exact (raise_c hT hr hi hb hd h1 hbp hdp (par_ne S.toGood hv) ((S.wide _ _ hd).2) (S.kids _ _ hdp)).mono fun ex w' hh => ⟨hh.1, CT.to hh.2 (g2 _ hdp).symm rfl (by simp; omega)⟩
theorem t_lower (S : Sane R L k) {i : Int} (hi : I64 i) : Sane R (tLower i L).1 k ∧ (∀ x y a e, RefC 2 i x y a e R L (tLower i L).1 (tLower i L).2) ∧
    ∀ (W : World) (t : Nat) (l : Lay), TB W t l R L → Calls Tryz.prog 123 #[treeP t, .int .i64 i] W fun ex w' => ex = .returned (.int .i64 (tLower i L).2) ∧ CT R (tLower i L).1 t l W w' := by
  rcases three R L i with ⟨h1, h2, h3⟩ | ⟨rfl, h2⟩ | ⟨h1, h2, j, v, h3, h4, rfl⟩
  · rw [show tLower i L = (L, 6) by unfold tLower; rw [if_pos (by omega), h2]]
    refine ⟨S, fun x y a e W sv hR => rchange_no hR S.big h2 (by omega), fun W t l hT => ?_⟩
    obtain ⟨r, hr⟩ := root_b hT
    exact (lower_f (refuse_none hT hr hi (none_b hT h1)) rfl).mono fun ex w' hh => ⟨hh.1, CT.same hT hh.2⟩
  · rw [show tLower 0 L = (L, 1) by unfold tLower; rw [if_pos (by omega), h2]]
    refine ⟨S, fun x y a e W sv hR => rchange_no hR S.big h2 (by omega), fun W t l hT => ?_⟩
    obtain ⟨r, hr⟩ := root_b hT
    exact (lower_f (refuse_root hT hr) rfl).mono fun ex w' hh => ⟨hh.1, CT.same hT hh.2⟩
  · have hv := List.mem_of_getElem? h4
    have hd := nd_of S.uniq hv
    obtain ⟨g1, g2⟩ := lower_list S.toGood hv
    obtain ⟨dp, hdp⟩ := par_there S.toGood hv
    have hl := drop_one S hv
    rw [show tLower v.id L = (v :: dropL v.id L, 0) by unfold tLower; rw [if_neg (by omega), find_at h3 h4]]
    refine ⟨⟨g1, S.low, S.last, by have := S.len; simp; omega, S.most⟩, fun x y a e W sv hR => rchange_lower hR S.big h3 h4 h1, fun W t l hT => ?_⟩
    obtain ⟨r, hr⟩ := root_b hT
    obtain ⟨b, hb⟩ := hT.block hd
    obtain ⟨bp, hbp⟩ := hT.block hdp
    exact (lower_c hT hr hi hb hd h1 hbp hdp (par_ne S.toGood hv) ((S.wide _ _ hd).2) (S.kids _ _ hdp)).mono fun ex w' hh => ⟨hh.1, CT.to hh.2 (g2 _ hdp).symm rfl (by simp; omega)⟩
theorem t_create (S : Sane R L k) (hk : k + 1 ≤ 1000) {q : Int} (hq : I64 q) (x y a e : Int) : Sane (tCreate R q x y a e L).1 (tCreate R q x y a e L).2.1 (k + 1) ∧
    (∀ (W : World) (sv : Value), RO W sv L → Calls Tryz.prog 62 #[refV R sv, .int .i64 q, .agg #[.int .i64 x, .int .i64 y, .int .i64 a, .int .i64 e]] W fun ex w' => CrR W (tCreate R q x y a e L).1 (tCreate R q x y a e L).2.1 (tCreate R q x y a e L).2.2.1 (tCreate R q x y a e L).2.2.2 ex w') ∧
    ∀ (W : World) (t : Nat) (l : Lay), TB W t l R L → Calls Tryz.prog 91 #[treeP t, .int .i64 q, .agg #[.int .i64 x, .int .i64 y, .int .i64 a, .int .i64 e]] W fun ex w' => ex = .returned (.tuple #[.int .i64 (tCreate R q x y a e L).2.2.1, .int .i64 (tCreate R q x y a e L).2.2.2]) ∧ CT (tCreate R q x y a e L).1 (tCreate R q x y a e L).2.1 t l W w' := by
  have hfr : ndL R L (R.last + 1) = none := by
    cases hd : ndL R L (R.last + 1) with
    | none => rfl
    | some d =>
      obtain ⟨h1, h2⟩ := getR_some (ndL_some hd).1
      rcases h2 with ⟨h2, _⟩ | ⟨_, h2⟩
      · have := S.low; omega
      · have := (S.pos _ h2).2; omega
  have hc : ∀ (W : World) (t : Nat) (l : Lay), TB W t l R L → Calls Tryz.prog 91 #[treeP t, .int .i64 q, .agg #[.int .i64 x, .int .i64 y, .int .i64 a, .int .i64 e]] W fun ex w' => CreateR W t l (ndL R L) R.last (L.length + 1) q x y a e ex w' := fun W t l hT => by
    obtain ⟨r, hr⟩ := root_b hT
    exact create_c hT hr hq S.low (by have := S.last; have := S.most; omega) hfr (by have := S.len; have := S.most; omega) S.kids
  have S1 := S.le (Nat.le_succ k) hk
  have hi := isL_nd R L q
  have hlen := S.len
  have hmost := S.most
  cases hd : ndL R L q with
  | none =>
    rw [hd] at hi
    rw [show tCreate R q x y a e L = (R, L, 0, 6) by unfold tCreate; rw [if_pos (show isL L q = false from hi)]]
    refine ⟨S1, fun W sv hR => rcreate_no hR (by omega) (.inl ⟨hi, rfl⟩), fun W t l hT => (hc W t l hT).mono fun ex w' hh => ?_⟩
    unfold CreateR at hh
    rw [hd] at hh
    exact ⟨hh.1, CT.same hT hh.2⟩
  | some dq =>
    rw [hd] at hi
    have hi' : ¬ isL L q = false := by rw [hi]; simp
    cases hr : rightB x y a e with
    | false =>
      rw [show tCreate R q x y a e L = (R, L, 0, 10) by unfold tCreate; rw [if_neg hi', if_pos hr]]
      refine ⟨S1, fun W sv hR => rcreate_no hR (by omega) (.inr (.inl ⟨hi, hr, rfl⟩)), fun W t l hT => (hc W t l hT).mono fun ex w' hh => ?_⟩
      unfold CreateR at hh
      rw [hd] at hh
      dsimp only at hh
      rw [if_pos hr] at hh
      exact ⟨hh.1, CT.same hT hh.2⟩
    | true =>
      obtain ⟨g1, g2⟩ := create_list S.toGood S.low (x := x) (y := y) (a := a) (e := e) hd
      have hw : wrap64 (R.last + 1) = R.last + 1 := (IntWalk.i64_left _).symm.trans (IntWalk.i64_in _ (by have := S.low; have := S.last; omega))
      rw [show tCreate R q x y a e L = ({ R with last := R.last + 1 }, L ++ [⟨R.last + 1, q, x, y, a, e, false⟩], R.last + 1, 0) by unfold tCreate; rw [if_neg hi', if_neg (by rw [hr]; simp)]]
      refine ⟨⟨g1, by have := S.low; show 0 ≤ R.last + 1; omega, by have := S.last; show R.last + 1 ≤ ((k + 1 : Nat) : Int); omega, by simp; omega, hk⟩, fun W sv hR => rcreate_yes hR (by omega) ⟨hi, hr, by omega⟩ hw, fun W t l hT => (hc W t l hT).mono fun ex w' hh => ?_⟩
      unfold CreateR at hh
      rw [hd] at hh
      dsimp only at hh
      rw [if_neg (by rw [hr]; simp), if_neg (by omega)] at hh
      obtain ⟨h1, bk, h2⟩ := hh
      exact ⟨h1, CT.to h2 g2.symm rfl (by simp)⟩
theorem t_repar (S : Sane R L k) {i q : Int} (hi : I64 i) (hq : I64 q) (x y : Int) : Sane R (tRepar R i q x y L).1 k ∧
    (∀ (W : World) (sv : Value), RO W sv L → Calls Tryz.prog 57 #[refV R sv, .int .i64 i, .int .i64 q, .agg #[.int .i64 x, .int .i64 y]] W fun ex w' => ChR W R (tRepar R i q x y L).1 (tRepar R i q x y L).2 ex w') ∧
    ∀ (W : World) (t : Nat) (l : Lay), TB W t l R L → Calls Tryz.prog 76 #[treeP t, .int .i64 i, .int .i64 q, .agg #[.int .i64 x, .int .i64 y]] W fun ex w' => ex = .returned (.int .i64 (tRepar R i q x y L).2) ∧ CT R (tRepar R i q x y L).1 t l W w' := by
  rcases three R L i with ⟨h1, h2, h3⟩ | ⟨rfl, h2⟩ | ⟨h1, h2, j, v, h3, h4, rfl⟩
  · rw [show tRepar R i q x y L = (L, 6) by unfold tRepar; rw [if_pos (by omega), h2]]
    refine ⟨S, fun W sv hR => rrepar_no hR S.big h2 (by omega), fun W t l hT => ?_⟩
    obtain ⟨r, hr⟩ := root_b hT
    exact (repar_f (refuse_none hT hr hi (none_b hT h1)) rfl).mono fun ex w' hh => ⟨hh.1, CT.same hT hh.2⟩
  · rw [show tRepar R 0 q x y L = (L, 1) by unfold tRepar; rw [if_pos (by omega), h2]]
    refine ⟨S, fun W sv hR => rrepar_no hR S.big h2 (by omega), fun W t l hT => ?_⟩
    obtain ⟨r, hr⟩ := root_b hT
    exact (repar_f (refuse_root hT hr) rfl).mono fun ex w' hh => ⟨hh.1, CT.same hT hh.2⟩
  · have hv := List.mem_of_getElem? h4
    have hd := nd_of S.uniq hv
    obtain ⟨dp, hdp⟩ := par_there S.toGood hv
    have hc : ∀ (n : Nat) (W : World) (t : Nat) (l : Lay), TB W t l R L → (l.nb q = none ∨ Way (ndL R L) n q) → Calls Tryz.prog 76 #[treeP t, .int .i64 v.id, .int .i64 q, .agg #[.int .i64 x, .int .i64 y]] W fun ex w' => ReparR W t l (ndL R L) R.last (L.length + 1) v.id q x y ⟨v, kidsL L v.id⟩ dp n ex w' := fun n W t l hT hcase => by
      obtain ⟨r, hr⟩ := root_b hT
      obtain ⟨b, hb⟩ := hT.block hd
      obtain ⟨bp, hbp⟩ := hT.block hdp
      exact repar_c hT S.wide hr hi hq hb hd h1 hbp hdp (par_ne S.toGood hv) ((S.wide _ _ hd).2) S.kids n hcase
    have hil := isL_nd R L q
    cases hdq : ndL R L q with
    | none =>
      rw [hdq] at hil
      rw [show tRepar R v.id q x y L = (L, 6) by unfold tRepar; rw [if_neg (by omega), if_pos (show isL L q = false from hil)]]
      refine ⟨S, fun W sv hR => rrepar_refuse hR S.big h3 h4 h1 (m := 0) S.no0 (fun hh => by rw [hil] at hh; cases hh) (Nat.zero_le _) (.inl ⟨hil, rfl⟩), fun W t l hT => (hc 0 W t l hT (.inl (none_b hT hdq))).mono fun ex w' hh => ?_⟩
      unfold ReparR at hh
      rw [if_pos (none_b hT hdq)] at hh
      exact ⟨hh.1, CT.same hT hh.2⟩
    | some dq =>
      rw [hdq] at hil
      have hil' : ¬ isL L q = false := by rw [hil]; simp
      obtain ⟨n, hn⟩ := S.any hdq
      have hun := ups_eq hn
      have hnb : ∀ (W : World) (t : Nat) (l : Lay), TB W t l R L → ¬ l.nb q = none := fun W t l hT e => by
        obtain ⟨b, hb⟩ := hT.block hdq
        rw [e] at hb; cases hb
      cases hth : thruB (ndL R L) n q v.id with
      | true =>
        rw [show tRepar R v.id q x y L = (L, 61) by unfold tRepar; rw [if_neg (by omega), if_neg hil', hun, if_pos hth]]
        refine ⟨S, fun W sv hR => rrepar_refuse hR S.big h3 h4 h1 S.no0 (fun _ => hn) hn.le (.inr (.inl ⟨hil, hth, rfl⟩)), fun W t l hT => (hc n W t l hT (.inr hn)).mono fun ex w' hh => ?_⟩
        unfold ReparR at hh
        rw [if_neg (hnb W t l hT), if_pos hth] at hh
        exact ⟨hh.1, CT.same hT hh.2⟩
      | false =>
        have hth' : ¬ thruB (ndL R L) n q v.id = true := by rw [hth]; simp
        cases hr : rightB x y v.w v.h with
        | false =>
          rw [show tRepar R v.id q x y L = (L, 10) by unfold tRepar; rw [if_neg (by omega), if_neg hil', hun, if_neg hth', find_at h3 h4]; dsimp only; rw [if_pos hr]]
          refine ⟨S, fun W sv hR => rrepar_refuse hR S.big h3 h4 h1 S.no0 (fun _ => hn) hn.le (.inr (.inr ⟨hil, hth, hr, rfl⟩)), fun W t l hT => (hc n W t l hT (.inr hn)).mono fun ex w' hh => ?_⟩
          unfold ReparR at hh
          rw [if_neg (hnb W t l hT), if_neg (by rw [hth]; simp), if_pos hr] at hh
          exact ⟨hh.1, CT.same hT hh.2⟩
        | true =>
          obtain ⟨g1, g2⟩ := repar_list S.toGood hv (x := x) (y := y) hdq hn hth
          have hl := drop_one S hv
          rw [show tRepar R v.id q x y L = (dropL v.id L ++ [⟨v.id, q, x, y, v.w, v.h, v.on⟩], 0) by unfold tRepar; rw [if_neg (by omega), if_neg hil', hun, if_neg hth', find_at h3 h4]; dsimp only; rw [if_neg (by rw [hr]; simp)]]
          refine ⟨⟨g1, S.low, S.last, by have := S.len; simp; omega, S.most⟩, fun W sv hR => rrepar_yes hR S.big h3 h4 h1 S.no0 (fun _ => hn) hn.le ⟨hil, hth, hr⟩, fun W t l hT => (hc n W t l hT (.inr hn)).mono fun ex w' hh => ?_⟩
          unfold ReparR at hh
          rw [if_neg (hnb W t l hT), if_neg (by rw [hth]; simp), if_neg (by show ¬ rightB x y v.w v.h = false; rw [hr]; simp)] at hh
          exact ⟨hh.1, CT.to hh.2 (g2 _ _ hd hdp).symm rfl (by simp; omega)⟩
theorem t_destroy (S : Sane R L k) {i : Int} (hi : I64 i) : Sane R (tDestroy R i L).1 k ∧ (tDestroy R i L).2.1.length ≤ 1000 ∧
    (∀ (W : World) (sv : Value), RO W sv L → Calls Tryz.prog 87 #[refV R sv, .int .i64 i] W fun ex w' => ∃ sv' gv, ex = .returned (.tuple #[refV R sv', gv, .int .i64 (tDestroy R i L).2.2]) ∧ RO w' sv' (tDestroy R i L).1 ∧ (RdI w' gv (tDestroy R i L).2.1 ∧ ∀ g, gv.ownBlock = some g → W.heap.size ≤ g) ∧ Below W.heap.size W w') ∧
    ∀ (W : World) (t : Nat) (l : Lay), TB W t l R L → Calls Tryz.prog 109 #[treeP t, .int .i64 i] W fun ex w' => ∃ v, ex = .returned (.tuple #[v, .int .i64 (tDestroy R i L).2.2]) ∧ RdI w' v (tDestroy R i L).2.1 ∧ (∀ b, v.ownBlock = some b → W.heap.size ≤ b) ∧ CTx R (tDestroy R i L).1 t l v W w' := by
  obtain ⟨L', err, xs, k1, k2, k3, k4, k5⟩ := both_destroy S hi
  rcases three R L i with ⟨h1, h2, h3⟩ | ⟨rfl, h2⟩ | ⟨h1, h2, j, v, h3, h4, rfl⟩
  · have hnil : ∀ W, RdI W (.slice none 0 0) [] := fun W => ⟨none, 0, rfl, fun j x hx => by simp at hx⟩
    rw [show tDestroy R i L = (L, [], 6) by unfold tDestroy; rw [if_pos (by omega), h2]]
    refine ⟨S, by simp, fun W sv hR => (rdestroy_no hR (by have := S.big; omega) h2 (by omega)).mono fun ex w' hh => ?_, fun W t l hT => ?_⟩
    · obtain ⟨sv', k1, k2, k3⟩ := hh
      exact ⟨sv', _, k1, k2, ⟨hnil _, fun g hg => by cases hg⟩, k3⟩
    · obtain ⟨r, hr⟩ := root_b hT
      exact (destroy_f (refuse_none hT hr hi (none_b hT h1)) rfl).mono fun ex w' hh => ⟨_, hh.1, hnil _, (fun b hb => by cases hb), CTx.same hT hh.2⟩
  · have hnil : ∀ W, RdI W (.slice none 0 0) [] := fun W => ⟨none, 0, rfl, fun j x hx => by simp at hx⟩
    rw [show tDestroy R 0 L = (L, [], 1) by unfold tDestroy; rw [if_pos (by omega), h2]]
    refine ⟨S, by simp, fun W sv hR => (rdestroy_no hR (by have := S.big; omega) h2 (by omega)).mono fun ex w' hh => ?_, fun W t l hT => ?_⟩
    · obtain ⟨sv', k1, k2, k3⟩ := hh
      exact ⟨sv', _, k1, k2, ⟨hnil _, fun g hg => by cases hg⟩, k3⟩
    · obtain ⟨r, hr⟩ := root_b hT
      exact (destroy_f (refuse_root hT hr) rfl).mono fun ex w' hh => ⟨_, hh.1, hnil _, (fun b hb => by cases hb), CTx.same hT hh.2⟩
  · obtain ⟨e1, e2, e3⟩ := k4 v (List.mem_of_getElem? h4) rfl
    subst e3
    subst e2
    subst e1
    rw [show tDestroy R v.id L = (dropAll (goneL R L v) L, goneL R L v, 0) by unfold tDestroy; rw [if_neg (by omega)]; rfl]
    exact ⟨k1, k2, k3, k5⟩
end
end Go.Proofs.YtfdgpbdppenhmaaGreat
