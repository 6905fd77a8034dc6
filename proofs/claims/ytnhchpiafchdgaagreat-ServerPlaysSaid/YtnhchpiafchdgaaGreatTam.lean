/- Texts SrA Saw. -/
import Derived.Test.YtnhchpiafchdgaaGreatTal
import Derived.Test.YtnhchpiafchdgaaGreatTab
import Derived.Deep.AppendLies
import Derived.Deep.RegionHeld3
import Derived.Deep.DeepCutAuto
import Derived.Deep.QuietTactic
import Derived.BigQuiet
import Derived.Laws.OwnMore
import Derived.Maps.AppendAt
import Derived.IntWalk
import Derived.Maps.OwnSet
import Derived.Maps.Views
import Derived.Test.YtnhchpiafchdgaaGreatSvS
import Derived.Laws.BitsAllLaws
import Derived.Laws.RangeAny
import Derived.Test.YtnhchpiafchdgaaGreatTaa
namespace Go.Proofs.YtnhchpiafchdgaaGreat
open Go.RowKit Go.Shelf Go.Maps
def upsN (nd : Int → Option Nd) : Nat → Int → Nat
 | 0, _ => 0
 | n + 1, i => if i = 0 then 0 else upsN nd n (parOf nd i) + 1
theorem ups_way {nd : Int → Option Nd} : ∀ {m n : Nat} {i : Int}, Way nd m i → m ≤ n → upsN nd n i = m
 | 0, 0, _, _, _ => rfl
 | 0, n + 1, i, h, _ => by unfold upsN; rw [if_pos h.1]
 | m + 1, 0, _, _, h => by omega
 | m + 1, n + 1, i, ⟨h0, d, hd, h⟩, hm => by
  unfold upsN
  rw [if_neg h0, par_of hd, ups_way h (by omega)]
abbrev upsL (R : RT) (L : List Win) (i : Int) : Nat := upsN (ndL R L) (L.length + 1) i
theorem ups_eq {R : RT} {L : List Win} {m : Nat} {i : Int} (h : Way (ndL R L) m i) : upsL R L i = m := ups_way h (by have := h.le; omega)
def thereL (R : RT) (L : List Win) (i : Int) : Bool := (ndL R L i).isSome
def winL (R : RT) (L : List Win) (i : Int) : Win := ((ndL R L i).map (·.win)).getD zeroW
def viewL (R : RT) (L : List Win) (i : Int) : Bool := thereL R L i && viewB (ndL R L) (upsL R L i) i
def absXL (R : RT) (L : List Win) (i : Int) : Int := if thereL R L i = true then IntKind.i64.wrap (absX (ndL R L) (upsL R L i) i) else 0
def absYL (R : RT) (L : List Win) (i : Int) : Int := if thereL R L i = true then IntKind.i64.wrap (absY (ndL R L) (upsL R L i) i) else 0
def putW (f : Win → Win) (i : Int) (L : List Win) : List Win :=
 match placeN i L with
 | none => L
 | some j => match L[j]? with
  | none => L
  | some v => L.set j (f v)
theorem putW_at {f : Win → Win} {i : Int} {L : List Win} {j : Nat} {v : Win} (h1 : placeN i L = some j) (h2 : L[j]? = some v) : putW f i L = L.set j (f v) := by
 unfold putW; rw [h1]; dsimp only; rw [h2]
theorem find_at {i : Int} {L : List Win} {j : Nat} {v : Win} (h1 : placeN i L = some j) (h2 : L[j]? = some v) : findL i L = some v := by unfold findL; rw [h1]; exact h2
def tMap (on : Bool) (i : Int) (L : List Win) : List Win × Int := if askL L i ≠ 0 then (L, askL L i) else (putW (fun v => ⟨v.id, v.par, v.x, v.y, v.w, v.h, on⟩) i L, 0)
def tConf (i x y a e : Int) (L : List Win) : List Win × Int := if askL L i ≠ 0 then (L, askL L i) else if rightB x y a e = false then (L, 10) else (putW (fun v => ⟨v.id, v.par, x, y, a, e, v.on⟩) i L, 0)
def tRaise (i : Int) (L : List Win) : List Win × Int := if askL L i ≠ 0 then (L, askL L i) else (match findL i L with | none => L | some v => dropL i L ++ [v], 0)
def tLower (i : Int) (L : List Win) : List Win × Int := if askL L i ≠ 0 then (L, askL L i) else (match findL i L with | none => L | some v => v :: dropL i L, 0)
def tRepar (R : RT) (i q x y : Int) (L : List Win) : List Win × Int :=
 if askL L i ≠ 0 then (L, askL L i) else if isL L q = false then (L, 6) else if thruB (ndL R L) (upsL R L q) q i = true then (L, 61)
 else match findL i L with
  | none => (L, 0)
  | some v => if rightB x y v.w v.h = false then (L, 10) else (dropL i L ++ [⟨i, q, x, y, v.w, v.h, v.on⟩], 0)
def goneI (R : RT) (L : List Win) (i : Int) : List Int := allL (ndL R L) (L.length + 1) i
def tDestroy (R : RT) (i : Int) (L : List Win) : List Win × List Int × Int := if askL L i ≠ 0 then (L, [], askL L i) else (dropAll (goneI R L i) L, goneI R L i, 0)
def tCreate (R : RT) (q x y a e : Int) (L : List Win) : RT × List Win × Int × Int :=
 if isL L q = false then (R, L, 0, 6) else if rightB x y a e = false then (R, L, 0, 10)
 else ({ R with last := R.last + 1 }, L ++ [⟨R.last + 1, q, x, y, a, e, false⟩], R.last + 1, 0)
structure Shows (R : RT) (L : List Win) (i : Int) : Prop where
 cget : ∀ (W : World) (t : Nat) (l : Lay), TB W t l R L → Calls Tryz.prog 48 #[treeP t, .int .i64 i] W fun e w' => e = .returned (.tuple #[winV (winL R L i), .bool (thereL R L i)]) ∧ Below W.heap.size W w'
 rget : ∀ (W : World) (sv : Value), RW W sv L → Calls Tryz.prog 39 #[refV R sv, .int .i64 i] W fun e w' => e = .returned (.tuple #[winV (winL R L i), .bool (thereL R L i)]) ∧ Below W.heap.size W w'
 cabs : ∀ (W : World) (t : Nat) (l : Lay), TB W t l R L → Calls Tryz.prog 51 #[treeP t, .int .i64 i] W fun e w' => e = .returned (.tuple #[.agg #[.int .i64 (absXL R L i), .int .i64 (absYL R L i)], .bool (thereL R L i)]) ∧ Below W.heap.size W w'
 rabs : ∀ (W : World) (sv : Value), RW W sv L → Calls Tryz.prog 41 #[refV R sv, .int .i64 i] W fun e w' => e = .returned (.tuple #[.agg #[.int .i64 (absXL R L i), .int .i64 (absYL R L i)], .bool (thereL R L i)]) ∧ Below W.heap.size W w'
 ckids : ∀ (W : World) (t : Nat) (l : Lay), TB W t l R L → Calls Tryz.prog 49 #[treeP t, .int .i64 i] W fun e w' => ∃ v', e = .returned v' ∧ RdI w' v' (kidsL L i) ∧ Below W.heap.size W w'
 rkids : ∀ (W : World) (sv : Value), RW W sv L → Calls Tryz.prog 23 #[refV R sv, .int .i64 i] W fun e w' => ∃ v', e = .returned v' ∧ RdI w' v' (kidsL L i) ∧ Below W.heap.size W w'
 cview : ∀ (W : World) (t : Nat) (l : Lay), TB W t l R L → Calls Tryz.prog 44 #[treeP t, .int .i64 i] W fun e w' => e = .returned (.bool (viewL R L i)) ∧ W = w'
 rview : ∀ (W : World) (sv : Value), RW W sv L → Calls Tryz.prog 42 #[refV R sv, .int .i64 i] W fun e w' => e = .returned (.bool (viewL R L i)) ∧ Below W.heap.size W w'
section
variable {R : RT} {L : List Win} {k : Nat}
theorem no_kids (S : Sane R L k) {i : Int} (hn : ndL R L i = none) : kidsL L i = [] := by
 unfold kidsL
 rw [List.map_eq_nil_iff, List.filter_eq_nil_iff]
 intro u hu hp
 obtain ⟨d, hd⟩ := par_there S.toGood hu
 rw [show u.par = i by simpa using hp, hn] at hd
 cases hd
theorem shows_all (S : Sane R L k) {i : Int} (hi : I64 i) : Shows R L i := by
 have hL : L.length ≤ 1048576 := by have := S.big; omega
 cases hn : ndL R L i with
 | none =>
  have e1 : thereL R L i = false := by unfold thereL; rw [hn]; rfl
  have e2 : winL R L i = zeroW := by unfold winL; rw [hn]; rfl
  have e3 : viewL R L i = false := by unfold viewL; rw [e1]; rfl
  have e4 : absXL R L i = 0 := by unfold absXL; rw [if_neg (by rw [e1]; decide)]
  have e5 : absYL R L i = 0 := by unfold absYL; rw [if_neg (by rw [e1]; decide)]
  have hg : getR R L i = none := by
    unfold ndL at hn
    cases h : getR R L i with
    | none => rfl
    | some v => rw [h] at hn; cases hn
  have hk := no_kids S hn
  constructor
  · rw [e1, e2]; exact fun W t l hT => get_none hT hi (none_b hT hn)
  · rw [e1, e2]; exact fun W sv hR => by
     have h := rget_c (R := R) hR hL i
     rw [hg] at h
     exact h
  · rw [e1, e4, e5]; exact fun W t l hT => abs_none hT hi (none_b hT hn)
  · rw [e1, e4, e5]; exact fun W sv hR => rabs_none hR hL hg
  · rw [hk]; exact fun W t l hT => (kids_none hT hi (none_b hT hn)).mono fun e w' h => ⟨_, h.1, ⟨none, 0, rfl, fun j x hx => by simp at hx⟩, h.2 ▸ Below.refl _ _⟩
  · rw [hk]; exact fun W sv hR => by
     have h := rkids_c (R := R) hR hL i
     rw [hk] at h
     exact h.mono fun e w' ⟨v', h1, h2, h3⟩ => ⟨v', h1, RdI.of (xs := []) h2, h3⟩
  · rw [e3]; exact fun W t l hT => view_none hT hi (none_b hT hn)
  · rw [e3]; exact fun W sv hR => rview_none hR hL hg
 | some d =>
  obtain ⟨m, hm⟩ := S.any hn
  obtain ⟨h1, h2⟩ := ndL_some hn
  have e1 : thereL R L i = true := by unfold thereL; rw [hn]; rfl
  have e2 : winL R L i = d.win := by unfold winL; rw [hn]; rfl
  have e3 : viewL R L i = viewB (ndL R L) m i := by unfold viewL; rw [e1, ups_eq hm]; rfl
  have e4 : absXL R L i = IntKind.i64.wrap (absX (ndL R L) m i) := by unfold absXL; rw [if_pos e1, ups_eq hm]
  have e5 : absYL R L i = IntKind.i64.wrap (absY (ndL R L) m i) := by unfold absYL; rw [if_pos e1, ups_eq hm]
  constructor
  · rw [e1, e2]; exact fun W t l hT => get_c hT hi hn
  · rw [e1, e2]; exact fun W sv hR => by
     have h := rget_c (R := R) hR hL i
     rw [h1] at h
     exact h
  · rw [e1, e4, e5]; exact fun W t l hT => abs_c S.wide m i W hT hm
  · rw [e1, e4, e5]; exact fun W sv hR => rabs_c hR hL hm hm.le
  · exact fun W t l hT => (kids_c hT hi hn (by have := S.kids _ _ hn; omega)).mono fun e w' h => by
     obtain ⟨v', k1, k2⟩ := h
     rw [h2] at k2
     exact ⟨v', k1, RdI.of k2.1, k2.2⟩
  · exact fun W sv hR => (rkids_c (R := R) hR hL i).mono fun e w' ⟨v', h1, h2, h3⟩ => ⟨v', h1, RdI.of h2, h3⟩
  · rw [e3]; exact fun W t l hT => view_c S.wide m i W hT hm
  · rw [e3]; exact fun W sv hR => rview_c hR hL hm hm.le
theorem isL_there (R : RT) (L : List Win) (q : Int) : isL L q = thereL R L q := isL_nd R L q
theorem t_map (S : Sane R L k) {i : Int} (hi : I64 i) (on : Bool) : Sane R (tMap on i L).1 k ∧ (∀ x y a e, RefC (if on = true then 3 else 4) i x y a e R L (tMap on i L).1 (tMap on i L).2) ∧
   ∀ (W : World) (t : Nat) (l : Lay), TB W t l R L → Calls Tryz.prog 120 #[treeP t, .int .i64 i, .bool on] W fun ex w' => ex = .returned (.int .i64 (tMap on i L).2) ∧ CT R (tMap on i L).1 t l W w' := by
 rcases three R L i with ⟨h1, h2, h3⟩ | ⟨rfl, h2⟩ | ⟨h1, h2, j, v, h3, h4, rfl⟩
 · rw [show tMap on i L = (L, 6) by unfold tMap; rw [if_pos (by omega), h2]]
   refine ⟨S, fun x y a e W sv hR => rchange_no hR S.big h2 (by omega), fun W t l hT => ?_⟩
   obtain ⟨r, hr⟩ := root_b hT
   exact (map_f (refuse_none hT hr hi (none_b hT h1)) rfl).mono fun ex w' hh => ⟨hh.1, CT.same hT hh.2⟩
 · rw [show tMap on 0 L = (L, 1) by unfold tMap; rw [if_pos (by omega), h2]]
   refine ⟨S, fun x y a e W sv hR => rchange_no hR S.big h2 (by omega), fun W t l hT => ?_⟩
   obtain ⟨r, hr⟩ := root_b hT
   exact (map_f (refuse_root hT hr) rfl).mono fun ex w' hh => ⟨hh.1, CT.same hT hh.2⟩
 · have hv := List.mem_of_getElem? h4
   have hd := nd_of S.uniq hv
   obtain ⟨g1, g2⟩ := set_list S.toGood (v' := ⟨v.id, v.par, v.x, v.y, v.w, v.h, on⟩) h4 rfl rfl
   rw [show tMap on v.id L = (L.set j ⟨v.id, v.par, v.x, v.y, v.w, v.h, on⟩, 0) by unfold tMap; rw [if_neg (by omega), putW_at h3 h4]]
   refine ⟨⟨g1, S.low, S.last, by rw [List.length_set]; exact S.len, S.most⟩, fun x y a e W sv hR => ?_, fun W t l hT => ?_⟩
   · cases on with
     | true => exact rchange_map hR S.big h3 h4 h1
     | false => exact rchange_unmap hR S.big h3 h4 h1
   · obtain ⟨r, hr⟩ := root_b hT
     obtain ⟨b, hb⟩ := hT.block hd
     exact (map_c hT hr hi hb hd h1 on).mono fun ex w' hh => ⟨hh.1, CT.to hh.2 (g2 _ hd).symm rfl (by rw [List.length_set])⟩
theorem t_conf (S : Sane R L k) {i : Int} (hi : I64 i) (x y a e : Int) : Sane R (tConf i x y a e L).1 k ∧ RefC 0 i x y a e R L (tConf i x y a e L).1 (tConf i x y a e L).2 ∧
   ∀ (W : World) (t : Nat) (l : Lay), TB W t l R L → Calls Tryz.prog 121 #[treeP t, .int .i64 i, .agg #[.int .i64 x, .int .i64 y, .int .i64 a, .int .i64 e]] W fun ex w' => ex = .returned (.int .i64 (tConf i x y a e L).2) ∧ CT R (tConf i x y a e L).1 t l W w' := by
 rcases three R L i with ⟨h1, h2, h3⟩ | ⟨rfl, h2⟩ | ⟨h1, h2, j, v, h3, h4, rfl⟩
 · rw [show tConf i x y a e L = (L, 6) by unfold tConf; rw [if_pos (by omega), h2]]
   refine ⟨S, fun W sv hR => rchange_no hR S.big h2 (by omega), fun W t l hT => ?_⟩
   obtain ⟨r, hr⟩ := root_b hT
   exact (conf_f (refuse_none hT hr hi (none_b hT h1)) rfl).mono fun ex w' hh => ⟨hh.1, CT.same hT hh.2⟩
 · rw [show tConf 0 x y a e L = (L, 1) by unfold tConf; rw [if_pos (by omega), h2]]
   refine ⟨S, fun W sv hR => rchange_no hR S.big h2 (by omega), fun W t l hT => ?_⟩
   obtain ⟨r, hr⟩ := root_b hT
   exact (conf_f (refuse_root hT hr) rfl).mono fun ex w' hh => ⟨hh.1, CT.same hT hh.2⟩
 · have hv := List.mem_of_getElem? h4
   have hd := nd_of S.uniq hv
   cases hq : rightB x y a e with
   | false =>
    rw [show tConf v.id x y a e L = (L, 10) by unfold tConf; rw [if_neg (by omega), if_pos hq]]
    refine ⟨S, fun W sv hR => rchange_wrong hR S.big h3 h4 h1 hq, fun W t l hT => ?_⟩
    obtain ⟨r, hr⟩ := root_b hT
    obtain ⟨b, hb⟩ := hT.block hd
    exact (conf_wrong hT hr hi hb h1 hq).mono fun ex w' hh => ⟨hh.1, CT.same hT hh.2⟩
   | true =>
    obtain ⟨g1, g2⟩ := set_list S.toGood (v' := ⟨v.id, v.par, x, y, a, e, v.on⟩) h4 rfl rfl
    rw [show tConf v.id x y a e L = (L.set j ⟨v.id, v.par, x, y, a, e, v.on⟩, 0) by unfold tConf; rw [if_neg (by omega), if_neg (by rw [hq]; decide), putW_at h3 h4]]
    refine ⟨⟨g1, S.low, S.last, by rw [List.length_set]; exact S.len, S.most⟩, fun W sv hR => rchange_conf hR S.big h3 h4 h1 hq, fun W t l hT => ?_⟩
    obtain ⟨r, hr⟩ := root_b hT
    obtain ⟨b, hb⟩ := hT.block hd
    exact (conf_c hT hr hi hb hd h1 hq).mono fun ex w' hh => ⟨hh.1, CT.to hh.2 (g2 _ hd).symm rfl (by rw [List.length_set])⟩
theorem t_raise (S : Sane R L k) {i : Int} (hi : I64 i) : Sane R (tRaise i L).1 k ∧ (∀ x y a e, RefC 1 i x y a e R L (tRaise i L).1 (tRaise i L).2) ∧
   ∀ (W : World) (t : Nat) (l : Lay), TB W t l R L → Calls Tryz.prog 122 #[treeP t, .int .i64 i] W fun ex w' => ex = .returned (.int .i64 (tRaise i L).2) ∧ CT R (tRaise i L).1 t l W w' := by
 rcases three R L i with ⟨h1, h2, h3⟩ | ⟨rfl, h2⟩ | ⟨h1, h2, j, v, h3, h4, rfl⟩
 · rw [show tRaise i L = (L, 6) by unfold tRaise; rw [if_pos (by omega), h2]]
   refine ⟨S, fun x y a e W sv hR => rchange_no hR S.big h2 (by omega), fun W t l hT => ?_⟩
   obtain ⟨r, hr⟩ := root_b hT
   exact (raise_f (refuse_none hT hr hi (none_b hT h1)) rfl).mono fun ex w' hh => ⟨hh.1, CT.same hT hh.2⟩
 · rw [show tRaise 0 L = (L, 1) by unfold tRaise; rw [if_pos (by omega), h2]]
   refine ⟨S, fun x y a e W sv hR => rchange_no hR S.big h2 (by omega), fun W t l hT => ?_⟩
   obtain ⟨r, hr⟩ := root_b hT
   exact (raise_f (refuse_root hT hr) rfl).mono fun ex w' hh => ⟨hh.1, CT.same hT hh.2⟩
 · have hv := List.mem_of_getElem? h4
   have hd := nd_of S.uniq hv
   obtain ⟨g1, g2⟩ := raise_list S.toGood hv
   obtain ⟨dp, hdp⟩ := par_there S.toGood hv
   have hl := drop_one S hv
   rw [show tRaise v.id L = (dropL v.id L ++ [v], 0) by unfold tRaise; rw [if_neg (by omega), find_at h3 h4]]
   refine ⟨⟨g1, S.low, S.last, by have := S.len; simp; omega, S.most⟩, fun x y a e W sv hR => rchange_raise hR S.big h3 h4 h1, fun W t l hT => ?_⟩
   obtain ⟨r, hr⟩ := root_b hT
   obtain ⟨b, hb⟩ := hT.block hd
   obtain ⟨bp, hbp⟩ := hT.block hdp
   exact (raise_c hT hr hi hb hd h1 hbp hdp (par_ne S.toGood hv) ((S.wide _ _ hd).2) (S.kids _ _ hdp)).mono fun ex w' hh => ⟨hh.1, CT.to hh.2 (g2 _ hdp).symm rfl (by simp; omega)⟩
theorem t_lower (S : Sane R L k) {i : Int} (hi : I64 i) : Sane R (tLower i L).1 k ∧ (∀ x y a e, RefC 2 i x y a e R L (tLower i L).1 (tLower i L).2) ∧
   ∀ (W : World) (t : Nat) (l : Lay), TB W t l R L → Calls Tryz.prog 123 #[treeP t, .int .i64 i] W fun ex w' => ex = .returned (.int .i64 (tLower i L).2) ∧ CT R (tLower i L).1 t l W w' := by
 rcases three R L i with ⟨h1, h2, h3⟩ | ⟨rfl, h2⟩ | ⟨h1, h2, j, v, h3, h4, rfl⟩
 · rw [show tLower i L = (L, 6) by unfold tLower; rw [if_pos (by omega), h2]]
   refine ⟨S, fun x y a e W sv hR => rchange_no hR S.big h2 (by omega), fun W t l hT => ?_⟩
   obtain ⟨r, hr⟩ := root_b hT
   exact (lower_f (refuse_none hT hr hi (none_b hT h1)) rfl).mono fun ex w' hh => ⟨hh.1, CT.same hT hh.2⟩
 · rw [show tLower 0 L = (L, 1) by unfold tLower; rw [if_pos (by omega), h2]]
   refine ⟨S, fun x y a e W sv hR => rchange_no hR S.big h2 (by omega), fun W t l hT => ?_⟩
   obtain ⟨r, hr⟩ := root_b hT
   exact (lower_f (refuse_root hT hr) rfl).mono fun ex w' hh => ⟨hh.1, CT.same hT hh.2⟩
 · have hv := List.mem_of_getElem? h4
   have hd := nd_of S.uniq hv
   obtain ⟨g1, g2⟩ := lower_list S.toGood hv
   obtain ⟨dp, hdp⟩ := par_there S.toGood hv
   have hl := drop_one S hv
   rw [show tLower v.id L = (v :: dropL v.id L, 0) by unfold tLower; rw [if_neg (by omega), find_at h3 h4]]
   refine ⟨⟨g1, S.low, S.last, by have := S.len; simp; omega, S.most⟩, fun x y a e W sv hR => rchange_lower hR S.big h3 h4 h1, fun W t l hT => ?_⟩
   obtain ⟨r, hr⟩ := root_b hT
   obtain ⟨b, hb⟩ := hT.block hd
   obtain ⟨bp, hbp⟩ := hT.block hdp
   exact (lower_c hT hr hi hb hd h1 hbp hdp (par_ne S.toGood hv) ((S.wide _ _ hd).2) (S.kids _ _ hdp)).mono fun ex w' hh => ⟨hh.1, CT.to hh.2 (g2 _ hdp).symm rfl (by simp; omega)⟩
theorem t_create (S : Sane R L k) (hk : k + 1 ≤ 1000) {q : Int} (hq : I64 q) (x y a e : Int) : Sane (tCreate R q x y a e L).1 (tCreate R q x y a e L).2.1 (k + 1) ∧
  (∀ (W : World) (sv : Value), RO W sv L → Calls Tryz.prog 62 #[refV R sv, .int .i64 q, .agg #[.int .i64 x, .int .i64 y, .int .i64 a, .int .i64 e]] W fun ex w' => CrR W (tCreate R q x y a e L).1 (tCreate R q x y a e L).2.1 (tCreate R q x y a e L).2.2.1 (tCreate R q x y a e L).2.2.2 ex w') ∧
  ∀ (W : World) (t : Nat) (l : Lay), TB W t l R L → Calls Tryz.prog 91 #[treeP t, .int .i64 q, .agg #[.int .i64 x, .int .i64 y, .int .i64 a, .int .i64 e]] W fun ex w' => ex = .returned (.tuple #[.int .i64 (tCreate R q x y a e L).2.2.1, .int .i64 (tCreate R q x y a e L).2.2.2]) ∧ CT (tCreate R q x y a e L).1 (tCreate R q x y a e L).2.1 t l W w' := by
 have hfr : ndL R L (R.last + 1) = none := by
  cases hd : ndL R L (R.last + 1) with
  | none => rfl
  | some d =>
   obtain ⟨h1, h2⟩ := getR_some (ndL_some hd).1
   rcases h2 with ⟨h2, _⟩ | ⟨_, h2⟩
   · have := S.low; omega
   · have := (S.pos _ h2).2; omega
 have hc : ∀ (W : World) (t : Nat) (l : Lay), TB W t l R L → Calls Tryz.prog 91 #[treeP t, .int .i64 q, .agg #[.int .i64 x, .int .i64 y, .int .i64 a, .int .i64 e]] W fun ex w' => CreateR W t l (ndL R L) R.last (L.length + 1) q x y a e ex w' := fun W t l hT => by
  obtain ⟨r, hr⟩ := root_b hT
  exact create_c hT hr hq S.low (by have := S.last; have := S.most; omega) hfr (by have := S.len; have := S.most; omega) S.kids
 have S1 := S.le (Nat.le_succ k) hk
 have hi := isL_nd R L q
 have hlen := S.len
 have hmost := S.most
 cases hd : ndL R L q with
 | none =>
  rw [hd] at hi
  rw [show tCreate R q x y a e L = (R, L, 0, 6) by unfold tCreate; rw [if_pos (show isL L q = false from hi)]]
  refine ⟨S1, fun W sv hR => rcreate_no hR (by omega) (.inl ⟨hi, rfl⟩), fun W t l hT => (hc W t l hT).mono fun ex w' hh => ?_⟩
  unfold CreateR at hh
  rw [hd] at hh
  exact ⟨hh.1, CT.same hT hh.2⟩
 | some dq =>
  rw [hd] at hi
  have hi' : ¬ isL L q = false := by rw [hi]; simp
  cases hr : rightB x y a e with
  | false =>
   rw [show tCreate R q x y a e L = (R, L, 0, 10) by unfold tCreate; rw [if_neg hi', if_pos hr]]
   refine ⟨S1, fun W sv hR => rcreate_no hR (by omega) (.inr (.inl ⟨hi, hr, rfl⟩)), fun W t l hT => (hc W t l hT).mono fun ex w' hh => ?_⟩
   unfold CreateR at hh
   rw [hd] at hh
   dsimp only at hh
   rw [if_pos hr] at hh
   exact ⟨hh.1, CT.same hT hh.2⟩
  | true =>
   obtain ⟨g1, g2⟩ := create_list S.toGood S.low (x := x) (y := y) (a := a) (e := e) hd
   have hw : wrap64 (R.last + 1) = R.last + 1 := (IntWalk.i64_left _).symm.trans (IntWalk.i64_in _ (by have := S.low; have := S.last; omega))
   rw [show tCreate R q x y a e L = ({ R with last := R.last + 1 }, L ++ [⟨R.last + 1, q, x, y, a, e, false⟩], R.last + 1, 0) by unfold tCreate; rw [if_neg hi', if_neg (by rw [hr]; simp)]]
   refine ⟨⟨g1, by have := S.low; show 0 ≤ R.last + 1; omega, by have := S.last; show R.last + 1 ≤ ((k + 1 : Nat) : Int); omega, by simp; omega, hk⟩, fun W sv hR => rcreate_yes hR (by omega) ⟨hi, hr, by omega⟩ hw, fun W t l hT => (hc W t l hT).mono fun ex w' hh => ?_⟩
   unfold CreateR at hh
   rw [hd] at hh
   dsimp only at hh
   rw [if_neg (by rw [hr]; simp), if_neg (by omega)] at hh
   obtain ⟨h1, bk, h2⟩ := hh
   exact ⟨h1, CT.to h2 g2.symm rfl (by simp)⟩
theorem t_repar (S : Sane R L k) {i q : Int} (hi : I64 i) (hq : I64 q) (x y : Int) : Sane R (tRepar R i q x y L).1 k ∧
   (∀ (W : World) (sv : Value), RO W sv L → Calls Tryz.prog 57 #[refV R sv, .int .i64 i, .int .i64 q, .agg #[.int .i64 x, .int .i64 y]] W fun ex w' => ChR W R (tRepar R i q x y L).1 (tRepar R i q x y L).2 ex w') ∧
   ∀ (W : World) (t : Nat) (l : Lay), TB W t l R L → Calls Tryz.prog 76 #[treeP t, .int .i64 i, .int .i64 q, .agg #[.int .i64 x, .int .i64 y]] W fun ex w' => ex = .returned (.int .i64 (tRepar R i q x y L).2) ∧ CT R (tRepar R i q x y L).1 t l W w' := by
 rcases three R L i with ⟨h1, h2, h3⟩ | ⟨rfl, h2⟩ | ⟨h1, h2, j, v, h3, h4, rfl⟩
 · rw [show tRepar R i q x y L = (L, 6) by unfold tRepar; rw [if_pos (by omega), h2]]
   refine ⟨S, fun W sv hR => rrepar_no hR S.big h2 (by omega), fun W t l hT => ?_⟩
   obtain ⟨r, hr⟩ := root_b hT
   exact (repar_f (refuse_none hT hr hi (none_b hT h1)) rfl).mono fun ex w' hh => ⟨hh.1, CT.same hT hh.2⟩
 · rw [show tRepar R 0 q x y L = (L, 1) by unfold tRepar; rw [if_pos (by omega), h2]]
   refine ⟨S, fun W sv hR => rrepar_no hR S.big h2 (by omega), fun W t l hT => ?_⟩
   obtain ⟨r, hr⟩ := root_b hT
   exact (repar_f (refuse_root hT hr) rfl).mono fun ex w' hh => ⟨hh.1, CT.same hT hh.2⟩
 · have hv := List.mem_of_getElem? h4
   have hd := nd_of S.uniq hv
   obtain ⟨dp, hdp⟩ := par_there S.toGood hv
   have hc : ∀ (n : Nat) (W : World) (t : Nat) (l : Lay), TB W t l R L → (l.nb q = none ∨ Way (ndL R L) n q) → Calls Tryz.prog 76 #[treeP t, .int .i64 v.id, .int .i64 q, .agg #[.int .i64 x, .int .i64 y]] W fun ex w' => ReparR W t l (ndL R L) R.last (L.length + 1) v.id q x y ⟨v, kidsL L v.id⟩ dp n ex w' := fun n W t l hT hcase => by
    obtain ⟨r, hr⟩ := root_b hT
    obtain ⟨b, hb⟩ := hT.block hd
    obtain ⟨bp, hbp⟩ := hT.block hdp
    exact repar_c hT S.wide hr hi hq hb hd h1 hbp hdp (par_ne S.toGood hv) ((S.wide _ _ hd).2) S.kids n hcase
   have hil := isL_nd R L q
   cases hdq : ndL R L q with
   | none =>
    rw [hdq] at hil
    rw [show tRepar R v.id q x y L = (L, 6) by unfold tRepar; rw [if_neg (by omega), if_pos (show isL L q = false from hil)]]
    refine ⟨S, fun W sv hR => rrepar_refuse hR S.big h3 h4 h1 (m := 0) S.no0 (fun hh => by rw [hil] at hh; cases hh) (Nat.zero_le _) (.inl ⟨hil, rfl⟩), fun W t l hT => (hc 0 W t l hT (.inl (none_b hT hdq))).mono fun ex w' hh => ?_⟩
    unfold ReparR at hh
    rw [if_pos (none_b hT hdq)] at hh
    exact ⟨hh.1, CT.same hT hh.2⟩
   | some dq =>
    rw [hdq] at hil
    have hil' : ¬ isL L q = false := by rw [hil]; simp
    obtain ⟨n, hn⟩ := S.any hdq
    have hun := ups_eq hn
    have hnb : ∀ (W : World) (t : Nat) (l : Lay), TB W t l R L → ¬ l.nb q = none := fun W t l hT e => by
     obtain ⟨b, hb⟩ := hT.block hdq
     rw [e] at hb; cases hb
    cases hth : thruB (ndL R L) n q v.id with
    | true =>
     rw [show tRepar R v.id q x y L = (L, 61) by unfold tRepar; rw [if_neg (by omega), if_neg hil', hun, if_pos hth]]
     refine ⟨S, fun W sv hR => rrepar_refuse hR S.big h3 h4 h1 S.no0 (fun _ => hn) hn.le (.inr (.inl ⟨hil, hth, rfl⟩)), fun W t l hT => (hc n W t l hT (.inr hn)).mono fun ex w' hh => ?_⟩
     unfold ReparR at hh
     rw [if_neg (hnb W t l hT), if_pos hth] at hh
     exact ⟨hh.1, CT.same hT hh.2⟩
    | false =>
     have hth' : ¬ thruB (ndL R L) n q v.id = true := by rw [hth]; simp
     cases hr : rightB x y v.w v.h with
     | false =>
      rw [show tRepar R v.id q x y L = (L, 10) by unfold tRepar; rw [if_neg (by omega), if_neg hil', hun, if_neg hth', find_at h3 h4]; dsimp only; rw [if_pos hr]]
      refine ⟨S, fun W sv hR => rrepar_refuse hR S.big h3 h4 h1 S.no0 (fun _ => hn) hn.le (.inr (.inr ⟨hil, hth, hr, rfl⟩)), fun W t l hT => (hc n W t l hT (.inr hn)).mono fun ex w' hh => ?_⟩
      unfold ReparR at hh
      rw [if_neg (hnb W t l hT), if_neg (by rw [hth]; simp), if_pos hr] at hh
      exact ⟨hh.1, CT.same hT hh.2⟩
     | true =>
      obtain ⟨g1, g2⟩ := repar_list S.toGood hv (x := x) (y := y) hdq hn hth
      have hl := drop_one S hv
      rw [show tRepar R v.id q x y L = (dropL v.id L ++ [⟨v.id, q, x, y, v.w, v.h, v.on⟩], 0) by unfold tRepar; rw [if_neg (by omega), if_neg hil', hun, if_neg hth', find_at h3 h4]; dsimp only; rw [if_neg (by rw [hr]; simp)]]
      refine ⟨⟨g1, S.low, S.last, by have := S.len; simp; omega, S.most⟩, fun W sv hR => rrepar_yes hR S.big h3 h4 h1 S.no0 (fun _ => hn) hn.le ⟨hil, hth, hr⟩, fun W t l hT => (hc n W t l hT (.inr hn)).mono fun ex w' hh => ?_⟩
      unfold ReparR at hh
      rw [if_neg (hnb W t l hT), if_neg (by rw [hth]; simp), if_neg (by show ¬ rightB x y v.w v.h = false; rw [hr]; simp)] at hh
      exact ⟨hh.1, CT.to hh.2 (g2 _ _ hd hdp).symm rfl (by simp; omega)⟩
theorem t_destroy (S : Sane R L k) {i : Int} (hi : I64 i) : Sane R (tDestroy R i L).1 k ∧ (tDestroy R i L).2.1.length ≤ 1000 ∧
   (∀ (W : World) (sv : Value), RO W sv L → Calls Tryz.prog 87 #[refV R sv, .int .i64 i] W fun ex w' => ∃ sv' gv, ex = .returned (.tuple #[refV R sv', gv, .int .i64 (tDestroy R i L).2.2]) ∧ RO w' sv' (tDestroy R i L).1 ∧ (RdI w' gv (tDestroy R i L).2.1 ∧ ∀ g, gv.ownBlock = some g → W.heap.size ≤ g) ∧ Below W.heap.size W w') ∧
   ∀ (W : World) (t : Nat) (l : Lay), TB W t l R L → Calls Tryz.prog 109 #[treeP t, .int .i64 i] W fun ex w' => ∃ v, ex = .returned (.tuple #[v, .int .i64 (tDestroy R i L).2.2]) ∧ RdI w' v (tDestroy R i L).2.1 ∧ (∀ b, v.ownBlock = some b → W.heap.size ≤ b) ∧ CTx R (tDestroy R i L).1 t l v W w' := by
 obtain ⟨L', err, xs, k1, k2, k3, k4, k5⟩ := both_destroy S hi
 rcases three R L i with ⟨h1, h2, h3⟩ | ⟨rfl, h2⟩ | ⟨h1, h2, j, v, h3, h4, rfl⟩
 · have hnil : ∀ W, RdI W (.slice none 0 0) [] := fun W => ⟨none, 0, rfl, fun j x hx => by simp at hx⟩
   rw [show tDestroy R i L = (L, [], 6) by unfold tDestroy; rw [if_pos (by omega), h2]]
   refine ⟨S, by simp, fun W sv hR => (rdestroy_no hR (by have := S.big; omega) h2 (by omega)).mono fun ex w' hh => ?_, fun W t l hT => ?_⟩
   · obtain ⟨sv', k1, k2, k3⟩ := hh
     exact ⟨sv', _, k1, k2, ⟨hnil _, fun g hg => by cases hg⟩, k3⟩
   · obtain ⟨r, hr⟩ := root_b hT
     exact (destroy_f (refuse_none hT hr hi (none_b hT h1)) rfl).mono fun ex w' hh => ⟨_, hh.1, hnil _, (fun b hb => by cases hb), CTx.same hT hh.2⟩
 · have hnil : ∀ W, RdI W (.slice none 0 0) [] := fun W => ⟨none, 0, rfl, fun j x hx => by simp at hx⟩
   rw [show tDestroy R 0 L = (L, [], 1) by unfold tDestroy; rw [if_pos (by omega), h2]]
   refine ⟨S, by simp, fun W sv hR => (rdestroy_no hR (by have := S.big; omega) h2 (by omega)).mono fun ex w' hh => ?_, fun W t l hT => ?_⟩
   · obtain ⟨sv', k1, k2, k3⟩ := hh
     exact ⟨sv', _, k1, k2, ⟨hnil _, fun g hg => by cases hg⟩, k3⟩
   · obtain ⟨r, hr⟩ := root_b hT
     exact (destroy_f (refuse_root hT hr) rfl).mono fun ex w' hh => ⟨_, hh.1, hnil _, (fun b hb => by cases hb), CTx.same hT hh.2⟩
 · obtain ⟨e1, e2, e3⟩ := k4 v (List.mem_of_getElem? h4) rfl
   subst e3
   subst e2
   subst e1
   rw [show tDestroy R v.id L = (dropAll (goneL R L v) L, goneL R L v, 0) by unfold tDestroy; rw [if_neg (by omega)]; rfl]
   exact ⟨k1, k2, k3, k5⟩
end
end Go.Proofs.YtnhchpiafchdgaaGreat
section
namespace Go.Proofs.YtnhchpiafchdgaaGreat.Pp
open Go.RowKit Go.Maps
def I64 (i : Int) : Prop := -9223372036854775808 ≤ i ∧ i ≤ 9223372036854775807
theorem cell_list (w : World) (t : TypeId) (l : List Value) : ∀ (j : Nat) (u : Value), l[j]? = some u → (w.alloc (.cells l.toArray t)).cell? ((⟨w.heap.size, 0, none⟩ : Addr).add j) = some u := by
 intro j u hu
 have h := (Blk.new w t l.toArray).cell j
 rw [Addr.add_lit, Nat.zero_add, h]
 simpa using hu
theorem cell_list_at (w : World) (t : TypeId) (l : List Value) (k : Nat) (hk : w.heap.size = k) : ∀ (j : Nat) (u : Value), l[j]? = some u → (w.alloc (.cells l.toArray t)).cell? ((⟨k, 0, none⟩ : Addr).add j) = some u := by subst hk; exact cell_list w t l
theorem intInfo : (Tryz.prog.info? 3).map (fun i => (i.zero, i.size, i.bytes)) = some (some (.int .i64 0), 1, 8) := by kernel_rfl
theorem row_less {w : World} {B B' : Nat} {T : TypeId} {k : Nat} {v : Value} {n : Nat} {xs : List Value} (h : w.ownsRow B T k v n xs) (hb : B' ≤ B) : w.ownsRow B' T k v n xs := by
 obtain ⟨h1, h2⟩ := h
 refine ⟨h1, ?_⟩
 rcases h2 with h2 | ⟨g, cap, cur, a, b, c⟩
 · exact .inl h2
 · exact .inr ⟨g, cap, cur, a, Nat.le_trans hb b, c⟩
theorem own_next {B : Nat} {e : TypeId} {k : Nat} {v : Value} {n : Nat} {xs : List Value} {w w' : World} (h : w.ownsRow B e k v n xs) (hb : Below w.heap.size w w') : w'.ownsRow B e k v n xs :=
 h.kept (row := none) ⟨hb.os, hb.tape, hb.output, hb.size, fun j hj _ => hb.block j hj⟩ (by cases hv : v.ownBlock <;> simp)
def Rd (w : World) (v : Value) (cs : List Value) : Prop := ∃ p c, v = .slice p cs.length c ∧ ∀ (j : Nat) (u : Value), cs[j]? = some u → ∃ b o, p = some ⟨b, o, none⟩ ∧ b < w.heap.size ∧ w.cell? ⟨b, o + j, none⟩ = some u
theorem Rd.next {w w' : World} {v : Value} {cs : List Value} (h : Rd w v cs) (hb : Below w.heap.size w w') : Rd w' v cs := by
 obtain ⟨p, c, h1, h2⟩ := h
 exact ⟨p, c, h1, fun j u hu => by obtain ⟨b, o, h3, h4, h5⟩ := h2 j u hu; exact ⟨b, o, h3, Nat.lt_of_lt_of_le h4 hb.size, (hb.cell (p := ⟨b, o + j, none⟩) h4).trans h5⟩⟩
theorem Rd.nil (w : World) : Rd w (.slice none 0 0) [] := ⟨none, 0, rfl, fun j u hu => by simp at hu⟩
def Gi (T : TypeId) (w wr : World) (v : Value) (cs : List Value) : Prop := wr.ownsRow w.heap.size T 1 v cs.length cs ∧ Below w.heap.size w wr
section
variable {T : TypeId} {w wr w1 : World} {v v' : Value} {cs : List Value}
theorem Gi.nil (w : World) (T : TypeId) : Gi T w w (.slice none 0 0) [] := ⟨World.ownsRow_nil _ _ _ _, Below.refl _ _⟩
theorem Gi.next {w' : World} (h : Gi T w wr v cs) (hb : Below wr.heap.size wr w') : Gi T w w' v cs := ⟨own_next h.1 hb, hb.on h.2 h.2.size⟩
theorem Gi.put {us : List Value} {o : Obj} (h : Gi T w wr v cs) (ho : w1.ownsRow w.heap.size T 1 v' (cs.length + us.length) (cs ++ us)) (hg : (wr.alloc o).grownBy w1 v.ownBlock) : Gi T w w1 v' (cs ++ us) := by
 refine ⟨?_, below_only (h.2.alloc h.2.size _) hg (by have := h.2.size; simp; omega) (fun k hk => (World.ownsRow.lt h.1 k hk).1)⟩
 rw [List.length_append]
 exact ho
theorem own_rd {B : Nat} (h : w.ownsRow B T 1 v cs.length cs) : Rd w v cs := by
 have h0 := h
 obtain ⟨hlen, h1⟩ := h
 rcases h1 with ⟨rfl, hn⟩ | ⟨g, cap, cur, rfl, -, hg, hnc, hcm, hcs, ht⟩
 · have hx : cs = [] := List.eq_nil_of_length_eq_zero hn
   subst hx
   exact Rd.nil w
 · refine ⟨_, cap, rfl, fun j u hu => ⟨g, 0, rfl, (Array.getElem?_eq_some_iff.1 hg).1, ?_⟩⟩
   have hj := (List.getElem?_eq_some_iff.1 hu).1
   rw [Nat.zero_add]
   exact (World.ownsRow.cellAt h0 j (by omega)).trans hu
theorem Gi.rd (h : Gi T w wr v cs) : Rd wr v cs := own_rd h.1
end
abbrev ints (zs : List Int) : List Value := zs.map (Value.int .i64)
theorem list_same {α : Type} {a b : List α} (hl : a.length = b.length) (h : ∀ j, j < a.length → a[j]? = b[j]?) : a = b := by
 apply List.ext_getElem?
 intro j
 rcases Nat.lt_or_ge j a.length with hj | hj
 · exact h j hj
 · rw [List.getElem?_eq_none hj, List.getElem?_eq_none (by omega)]
end Go.Proofs.YtnhchpiafchdgaaGreat.Pp
end
section
namespace Go.Proofs.YtnhchpiafchdgaaGreat.Pp
open Go.RowKit Go.Maps
def upI {α : Type} (f : Int → α) (i : Int) (v : α) : Int → α := fun j => if j = i then v else f j
def upS {α : Type} (f : ByteArray → α) (s : ByteArray) (v : α) : ByteArray → α := fun j => if j = s then v else f j
theorem upI_same {α : Type} (f : Int → α) (i : Int) (v : α) : upI f i v i = v := if_pos rfl
theorem upI_other {α : Type} (f : Int → α) {i j : Int} (v : α) (h : j ≠ i) : upI f i v j = f j := if_neg h
theorem upS_same {α : Type} (f : ByteArray → α) (i : ByteArray) (v : α) : upS f i v i = v := if_pos rfl
theorem upS_other {α : Type} (f : ByteArray → α) {i j : ByteArray} (v : α) (h : j ≠ i) : upS f i v j = f j := if_neg h
theorem tight {k : TypeId} {el : Value → Option (DataW Unit × List MemPlace)} {w : World} {b n : Nat} {D : DataW Unit} (h : w.ownsMap Tryz.prog k el b n D) : w.ownsMap Tryz.prog k el b (Maps.size D) D := by
 obtain ⟨es, clock, hb, F, _, rfl⟩ := h
 refine ⟨es, clock, hb, F, ?_, rfl⟩
 simp [Maps.size, length_sorted]
def elemM (v : Value) : Option (DataW Unit × List MemPlace) :=
 match v with
 | .map (some b) => some (.lit (.int .i64 b), [])
 | .map none => some (.lit (.int .i64 (-1)), [])
 | _ => none
def mapOf (o : Option Nat) : Value := .map o
def litM (o : Option Nat) : DataW Unit := .lit (.int .i64 (match o with | some b => (b : Int) | none => -1))
theorem elemM_of (o : Option Nat) : elemM (mapOf o) = some (litM o, []) := by cases o <;> rfl
theorem elemM_inv {v : Value} {o : Option Nat} {ps : List MemPlace} (h : elemM v = some (litM o, ps)) : v = mapOf o := by
 unfold elemM at h
 split at h
 · next b =>
   simp only [Option.some.injEq, Prod.mk.injEq] at h
   obtain ⟨h, _⟩ := h
   cases o with
   | none => simp only [litM, DataW.lit.injEq, Lit.int.injEq] at h; omega
   | some c =>
    simp only [litM, DataW.lit.injEq, Lit.int.injEq] at h
    obtain rfl : b = c := by omega
    rfl
 · simp only [Option.some.injEq, Prod.mk.injEq] at h
   obtain ⟨h, _⟩ := h
   cases o with
   | none => rfl
   | some c => simp only [litM, DataW.lit.injEq, Lit.int.injEq] at h; omega
 · cases h
abbrev keyI (i : Int) : Lit := .int .i64 i
theorem keyI_ne {i j : Int} (h : i ≠ j) : keyI i ≠ keyI j := fun e => h (by injection e)
theorem wf_I64 {i : Int} (h : I64 i) : (Lit.int .i64 i).wf = true := WalkArith.wf_i64 (by unfold I64 at h; omega)
theorem keyI_of {i : Int} (h : I64 i) : keyOf Tryz.prog 3 (.int .i64 i) = some (keyI i) := keyOf_int_mk Tryz.underlying3 (wf_I64 h)
theorem keyedI : Keyed Tryz.prog 3 := int_keyed Tryz.underlying3
theorem zeroM (w : World) : (zeroValue 125).run Tryz.prog w = .ok (mapOf none) w := by kernel_rfl
def MapI (w : World) (bm : Nat) (nb : Int → Option Nat) (n : Nat) : Prop :=
 ∃ D, w.ownsMap Tryz.prog 3 elemM bm n D ∧ Maps.size D = n ∧ ∀ i, I64 i → D.atKey (keyI i) (litM none) = litM (nb i) ∧ Maps.has D (keyI i) = (nb i).isSome
structure Pr where
 name : ByteArray
 typ : ByteArray
 data : ByteArray
def noP : Pr := ⟨⟨#[]⟩, ⟨#[]⟩, ⟨#[]⟩⟩
abbrev prV (p : Pr) : Value := .agg #[.string p.name, .string p.typ, .string p.data]
def litP (p : Pr) : DataW Unit := .agg [.lit (.string p.name.data.toList), .lit (.string p.typ.data.toList), .lit (.string p.data.data.toList)]
def elemP (v : Value) : Option (DataW Unit × List MemPlace) :=
 match v with
 | .agg l => match l.toList with
  | [.string a, .string b, .string c] => some (litP ⟨a, b, c⟩, [])
  | _ => none
 | _ => none
theorem elemP_of (p : Pr) : elemP (prV p) = some (litP p, []) := rfl
theorem bytes_eq {a b : ByteArray} (h : a.data.toList = b.data.toList) : a = b := ByteArray.ext (Array.toList_inj.1 h)
theorem elemP_inv {v : Value} {p : Pr} {ps : List MemPlace} (h : elemP v = some (litP p, ps)) : v = prV p := by
 unfold elemP at h
 split at h
 · next l =>
   split at h
   · next a b c hl =>
     simp only [Option.some.injEq, Prod.mk.injEq, litP, DataW.agg.injEq, List.cons.injEq, DataW.lit.injEq, Lit.string.injEq, and_true] at h
     obtain ⟨⟨h1, h2, h3⟩, _⟩ := h
     obtain rfl := bytes_eq h1
     obtain rfl := bytes_eq h2
     obtain rfl := bytes_eq h3
     have : l = #[.string p.name, .string p.typ, .string p.data] := Array.toList_inj.1 hl
     rw [this]
   · cases h
 · cases h
abbrev keyS (s : ByteArray) : Lit := .string s.data.toList
theorem keyS_ne {s t : ByteArray} (h : s ≠ t) : keyS s ≠ keyS t := fun e => h (by injection e with e; exact bytes_eq e)
theorem keyS_of {s : ByteArray} (h : s.size ≤ maxLen) : keyOf Tryz.prog 9 (.string s) = some (keyS s) := WideMaps.keyOf_string_mk Tryz.underlying9 h
theorem keyedS : Keyed Tryz.prog 9 := string_keyed Tryz.underlying9
theorem zeroP (w : World) : (zeroValue 35).run Tryz.prog w = .ok (prV noP) w := by kernel_rfl
def litO (o : Option Pr) : DataW Unit := litP (o.getD noP)
def MapS (w : World) (b : Nat) (m : ByteArray → Option Pr) (n : Nat) : Prop :=
 ∃ D, w.ownsMap Tryz.prog 9 elemP b n D ∧ Maps.size D = n ∧ ∀ s, s.size ≤ maxLen → D.atKey (keyS s) (litP noP) = litO (m s) ∧ Maps.has D (keyS s) = (m s).isSome
section
variable {w w' : World} {b n : Nat} {nb : Int → Option Nat} {m : ByteArray → Option Pr}
theorem MapI.made (w : World) : MapI (w.alloc (.map #[] 0)) w.heap.size (fun _ => none) 0 :=
 ⟨_, World.ownsMap_made _ _ _ _, rfl, fun _ _ => ⟨rfl, rfl⟩⟩
theorem MapS.made (w : World) : MapS (w.alloc (.map #[] 0)) w.heap.size (fun _ => none) 0 :=
 ⟨_, World.ownsMap_made _ _ _ _, rfl, fun _ _ => ⟨rfl, rfl⟩⟩
theorem MapI.lt (h : MapI w b nb n) : b < w.heap.size := by obtain ⟨D, h, _⟩ := h; exact h.lt
theorem MapS.lt (h : MapS w b m n) : b < w.heap.size := by obtain ⟨D, h, _⟩ := h; exact h.lt
theorem MapI.same (h : MapI w b nb n) (hb : w'.heap[b]? = w.heap[b]?) : MapI w' b nb n := by
 obtain ⟨D, ⟨es, clock, h1, r1⟩, r⟩ := h
 exact ⟨D, ⟨es, clock, hb.trans h1, r1⟩, r⟩
theorem MapS.same (h : MapS w b m n) (hb : w'.heap[b]? = w.heap[b]?) : MapS w' b m n := by
 obtain ⟨D, ⟨es, clock, h1, r1⟩, r⟩ := h
 exact ⟨D, ⟨es, clock, hb.trans h1, r1⟩, r⟩
theorem MapI.look (h : MapI w b nb n) {i : Int} (hi : I64 i) : (Instr.lookup 106 (.map (some b)) (.int .i64 i) false).run Tryz.prog w = .ok (mapOf (nb i)) w := by
 obtain ⟨D, h, _, r⟩ := h
 obtain ⟨v, ps, h1, h2⟩ := h.lookup keyedI Tryz.underlying106 (zeroM w) (elemM_of none) (keyI_of hi)
 rw [(r i hi).1] at h2
 rw [h1, elemM_inv h2]
theorem MapS.look (h : MapS w b m n) {s : ByteArray} (hs : s.size ≤ maxLen) : (Instr.lookup 125 (.map (some b)) (.string s) true).run Tryz.prog w = .ok (.tuple #[prV ((m s).getD noP), .bool (m s).isSome]) w := by
 obtain ⟨D, h, _, r⟩ := h
 obtain ⟨v, ps, h1, h2⟩ := h.look_ok keyedS Tryz.underlying125 (zeroP w) (elemP_of noP) (keyS_of hs)
 rw [(r s hs).1] at h2
 rw [h1, elemP_inv h2, (r s hs).2]
theorem look_nilS (w : World) {s : ByteArray} (hs : s.size ≤ maxLen) : (Instr.lookup 125 (.map none) (.string s) true).run Tryz.prog w = .ok (.tuple #[prV noP, .bool false]) w :=
 Maps.look_nil true keyedS Tryz.underlying125 (zeroP w) (keyS_of hs)
theorem MapI.put (h : MapI w b nb n) {i : Int} (hi : I64 i) (hn : n < 4611686018427387904) (c : Nat) :
   ∃ w', (Instr.mapUpdate 106 (.map (some b)) (.int .i64 i) (mapOf (some c))).run Tryz.prog w = .ok () w' ∧ MapI w' b (upI nb i (some c)) (if (nb i).isSome then n else n + 1) ∧ w.grownBy w' (some b) := by
 obtain ⟨D, h, hs, r⟩ := h
 obtain ⟨w', h1, h2, h3⟩ := h.update keyedI Tryz.underlying106 (by unfold maxLen; omega) (keyI_of hi) (elemM_of (some c))
 have hsz : Maps.size (D.put (keyI i) (litM (some c))) = if (nb i).isSome then n else n + 1 := by
   rw [Maps.size_put (h.tidy keyedI), (r i hi).2, hs]
 refine ⟨w', h1, ⟨_, ?_, hsz, fun j hj => ?_⟩, h3⟩
 · have := tight h2; rwa [hsz] at this
 · by_cases hij : j = i
   · subst hij
     rw [upI_same]
     exact ⟨Maps.atKey_put_same h.isMap (show WideAt.IsKeyLit (keyI j) from trivial) _ _, Maps.has_put_same h.isMap (show WideAt.IsKeyLit (keyI j) from trivial) _⟩
   · rw [upI_other _ _ hij]
     exact ⟨(Maps.atKey_put_other (keyI_ne hij) _ _).trans (r j hj).1, (Maps.has_put_other (keyI_ne hij) _).trans (r j hj).2⟩
theorem MapS.put (h : MapS w b m n) {s : ByteArray} (hs' : s.size ≤ maxLen) (hn : n < 4611686018427387904) (p : Pr) :
   ∃ w', (Instr.mapUpdate 125 (.map (some b)) (.string s) (prV p)).run Tryz.prog w = .ok () w' ∧ MapS w' b (upS m s (some p)) (if (m s).isSome then n else n + 1) ∧ w.grownBy w' (some b) := by
 obtain ⟨D, h, hs, r⟩ := h
 obtain ⟨w', h1, h2, h3⟩ := h.update keyedS Tryz.underlying125 (by unfold maxLen; omega) (keyS_of hs') (elemP_of p)
 have hsz : Maps.size (D.put (keyS s) (litP p)) = if (m s).isSome then n else n + 1 := by
   rw [Maps.size_put (h.tidy keyedS), (r s hs').2, hs]
 refine ⟨w', h1, ⟨_, ?_, hsz, fun j hj => ?_⟩, h3⟩
 · have := tight h2; rwa [hsz] at this
 · by_cases hij : j = s
   · subst hij
     rw [upS_same]
     exact ⟨Maps.atKey_put_same h.isMap (show WideAt.IsKeyLit (keyS j) from trivial) _ _, Maps.has_put_same h.isMap (show WideAt.IsKeyLit (keyS j) from trivial) _⟩
   · rw [upS_other _ _ hij]
     exact ⟨(Maps.atKey_put_other (keyS_ne hij) _ _).trans (r j hj).1, (Maps.has_put_other (keyS_ne hij) _).trans (r j hj).2⟩
theorem MapS.len (h : MapS w b m n) (ty : TypeId) : (Builtin.len_ #[125] ty #[.map (some b)]).run Tryz.prog w = .ok (.int .i64 n) w := by
 obtain ⟨D, h, hs, _⟩ := h
 rw [h.len Tryz.underlying125 ty, hs]
end
end Go.Proofs.YtnhchpiafchdgaaGreat.Pp
end
section
namespace Go.Proofs.YtnhchpiafchdgaaGreat.Pp
open Go.Lib
end Go.Proofs.YtnhchpiafchdgaaGreat.Pp
end
section
namespace Go.Proofs.YtnhchpiafchdgaaGreat.Pp
open Go.RowKit Go.Maps Go.Shelf
theorem strclone_c (s : ByteArray) (w : World) (hs : s.size ≤ 281474976710656) : Calls Tryz.prog 99 #[.string s] w fun e w' => e = .returned (.string s) ∧ Below w.heap.size w w' := by
 have HC := Lib.hid (fun W => Any.stringslite_Clone cloneStr s W hs)
 go_enter Tryz.func99, Tryz.ntmps99
 go_wp2_with (go_at_call 124; refine (HC.out _).mono ?_; rintro e w' ⟨rfl, hb⟩)
 go_ret
 exact ⟨rfl, hb⟩
end Go.Proofs.YtnhchpiafchdgaaGreat.Pp
end
section
namespace Go.Proofs.YtnhchpiafchdgaaGreat.Pp
open Go.RowKit
def byt (s : ByteArray) (k : Nat) : Int := if h : k < s.size then (s[k].toNat : Int) else 0
theorem byt_at {s : ByteArray} {k : Nat} (h : k < s.size) : byt s k = (s[k].toNat : Int) := dif_pos h
end Go.Proofs.YtnhchpiafchdgaaGreat.Pp
end
section
namespace Go.Proofs.YtnhchpiafchdgaaGreat.Pp
open Go.RowKit
def inN (r : Int) : Bool := decide (97 ≤ r ∧ r ≤ 122 ∨ 65 ≤ r ∧ r ≤ 90 ∨ 48 ≤ r ∧ r ≤ 57 ∨ r = 95)
def nameB (s : ByteArray) : Bool := decide ((1 ≤ s.size ∧ s.size ≤ 32) ∧ ∀ k, k < s.size → inN (byt s k) = true)
theorem inName_c (r : Int) (w : World) : Calls Tryz.prog 151 #[.int .i32 r] w fun e w' => e = .returned (.bool (inN r)) ∧ w = w' := by
 have hq : (97 ≤ r ∧ r ≤ 122) ∨ (65 ≤ r ∧ r ≤ 90) ∨ (48 ≤ r ∧ r ≤ 57) ∨ r = 95 ∨ (¬ 48 ≤ r) ∨ (58 ≤ r ∧ r ≤ 64) ∨ (91 ≤ r ∧ r ≤ 94) ∨ r = 96 ∨ 123 ≤ r := by omega
 have HB : ∀ b : Bool, (b = true ↔ (97 ≤ r ∧ r ≤ 122 ∨ 65 ≤ r ∧ r ≤ 90 ∨ 48 ≤ r ∧ r ≤ 57 ∨ r = 95)) → b = inN r := fun b hb => by
  unfold inN
  rw [Bool.eq_iff_iff, hb, decide_eq_true_iff]
 have HH := Lib.hid HB
 clear HB
 rcases hq with ⟨h1, h2⟩ | ⟨h1, h2⟩ | ⟨h1, h2⟩ | h1 | h1 | ⟨h1, h2⟩ | ⟨h1, h2⟩ | h1 | h1
 all_goals
  (try subst h1)
  go_enter Tryz.func151, Tryz.ntmps151
  go_wp2_with fail
  go_ret
  exact ⟨ret_bool (HH.out _ (by simp <;> omega)), rfl⟩
theorem iter_below (w : World) (s : ByteArray) (k : Nat) : Below w.heap.size w (w.iter s k) := (Below.refl _ _).alloc (Nat.le_refl _) _
set_option maxRecDepth 100000 in
set_option maxHeartbeats 2000000 in
theorem name_c (s : ByteArray) (w : World) (hs : s.size ≤ 9223372036854775807) : Calls Tryz.prog 135 #[.string s] w fun e w' => e = .returned (.bool (nameB s)) ∧ Below w.heap.size w w' := by
 by_cases h0 : s.size = 0
 · have hE : s.toList.isEmpty = true := by rw [ByteArray.toList_eq, show s.data.toList = [] from List.eq_nil_of_length_eq_zero (by simpa using h0)]; rfl
   have HR := Lib.hid (show nameB s = false from decide_eq_false (fun h => by omega))
   clear h0 hs
   go_enter Tryz.func135, Tryz.ntmps135
   go_wp2_with fail
   go_ret
   exact ⟨ret_bool HR.out.symm, Below.refl _ _⟩
 · have hE : s.toList.isEmpty = false := by
     rw [ByteArray.toList_eq]
     cases hl : s.data.toList with
     | nil => exact absurd (by simpa using congrArg List.length hl) h0
     | cons a t => rfl
   by_cases h32 : 32 < s.size
   · have HR := Lib.hid (show nameB s = false from decide_eq_false (fun h => by omega))
     have h33 : (32 : Int) < (s.size : Int) := by omega
     clear h0
     go_enter Tryz.func135, Tryz.ntmps135
     go_wp2_with fail
     go_ret
     exact ⟨ret_bool HR.out.symm, Below.refl _ _⟩
   · have h33 : ¬ (32 : Int) < (s.size : Int) := by omega
     have HSZ := Lib.hid (show 1 ≤ s.size ∧ s.size ≤ 32 by omega)
     clear h0 h32 hs
     go_enter Tryz.func135, Tryz.ntmps135
     go_wp2_with fail
     go_loopw [] (fun wr => ∃ k : Nat, k ≤ s.size ∧ wr = w.iter s k ∧ Asd (∀ j, j < k → inN (byt s j) = true)) (fun wr => s.size - wr.iterPos w.heap.size)
     case atStart => exact ⟨0, Nat.zero_le _, rfl, fun j hj => absurd hj (Nat.not_lt_zero _)⟩
     case round =>
      obtain ⟨k, hk, rfl, hA⟩ := hrel
      have HA := Lib.hid (show ∀ j, j < k → inN (byt s j) = true from hA)
      clear hA
      by_cases hlt : k < s.size
      · by_cases ha : (s[k]'hlt).toNat < 128
        · have hnx : ∀ ty, (Instr.next (.pointer (some ⟨w.heap.size, 0, none⟩)) true ty).run Tryz.prog (w.iter s k) = _ := fun ty => run_next_ascii w s k ty hlt ha
          have HBY := Lib.hid (byt_at hlt)
          obtain ⟨bz, hbz⟩ : ∃ bz : Bool, bz = inN ((s[k]'hlt).toNat : Int) := ⟨_, rfl⟩
          have HN := Lib.hid (fun W => (show Calls Tryz.prog 151 #[.int .i32 ((s[k]'hlt).toNat : Int)] W fun e w' => e = .returned (.bool bz) ∧ W = w' from hbz ▸ inName_c _ W))
          have HBZ := Lib.hid hbz
          clear hbz
          cases bz with
          | true =>
           go_wp2_with (go_at_call 151; ((with_reducible refine (HN.out _).mono ?_); rintro e w1 ⟨rfl, rfl⟩))
           go_roundw
           case rel => exact ⟨k + 1, by omega, rfl, fun j hj => by
            rcases Nat.lt_or_ge j k with h | h
            · exact HA.out j h
            · obtain rfl : j = k := by omega
              rw [HBY.out]; exact HBZ.out.symm⟩
           case measure => simp; omega
          | false =>
           have HR := Lib.hid (show nameB s = false from decide_eq_false (fun h => by
            have h1 := h.2 k hlt
            rw [HBY.out, ← HBZ.out] at h1
            cases h1))
           go_wp2_with (go_at_call 151; ((with_reducible refine (HN.out _).mono ?_); rintro e w1 ⟨rfl, rfl⟩))
           go_ret
           exact ⟨ret_bool HR.out.symm, iter_below w s _⟩
        · have hnx : ∀ ty, (Instr.next (.pointer (some ⟨w.heap.size, 0, none⟩)) true ty).run Tryz.prog (w.iter s k) = _ := fun ty => run_next_any w s k ty hlt
          have hd := (decode_high s k hlt (by omega)).1
          have HN := Lib.hid (fun W => (show Calls Tryz.prog 151 #[.int .i32 ((Utf8.decode s k).1 : Int)] W fun e w' => e = .returned (.bool false) ∧ W = w' from by
           have h := inName_c ((Utf8.decode s k).1 : Int) W
           rw [show inN ((Utf8.decode s k).1 : Int) = false from decide_eq_false (by omega)] at h
           exact h))
          have HR := Lib.hid (show nameB s = false from decide_eq_false (fun h => by
            have h1 := h.2 k hlt
            rw [byt_at hlt] at h1
            have h2 := of_decide_eq_true h1
            omega))
          clear ha
          go_wp2_with (go_at_call 151; ((with_reducible refine (HN.out _).mono ?_); rintro e w1 ⟨rfl, rfl⟩))
          go_ret
          exact ⟨ret_bool HR.out.symm, iter_below w s _⟩
      · obtain rfl : k = s.size := by omega
        have hnx : ∀ ty, (Instr.next (.pointer (some ⟨w.heap.size, 0, none⟩)) true ty).run Tryz.prog (w.iter s s.size) = _ := fun ty => run_next_end w s s.size ty hlt
        have HR := Lib.hid (show nameB s = true from decide_eq_true ⟨HSZ.out, HA.out⟩)
        go_wp2_with fail
        go_ret
        exact ⟨ret_bool HR.out.symm, iter_below w s _⟩
end Go.Proofs.YtnhchpiafchdgaaGreat.Pp
end
