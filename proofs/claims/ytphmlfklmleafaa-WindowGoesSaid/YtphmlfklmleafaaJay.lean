/- Both sides of Create, Reparent, Destroy. A law's tree; the chapter's example: what it holds. Arguments that are slices of ints, opened; and the last step of a law's row, whatever its arguments are, where 'Below' is known of the world behind the call. Arguments that are rows of rectangles, or a place, opened. Arguments opened: an act, a row of acts. -/
import Derived.Test.YtphmlfklmleafaaJax
import Derived.Test.YtphmlfklmleafaaJan
import Derived.Test.YtphmlfklmleafaaJau
import Derived.Test.YtphmlfklmleafaaProg
import Derived.WalkKit
import Derived.ProofKit
import Derived.Below
import Derived.ChangeSame
import Derived.ChangeSlices
import Derived.Test.YtphmlfklmleafaaJac
import Derived.Deep.Slices
import Derived.Deep.Fields
import Derived.SizedLaws
import Derived.Test.YtphmlfklmleafaaJae
section
namespace Go.Proofs.Ytphmlfklmleafaa
open Go.RowKit Go.Shelf Go.Maps
section
variable {R : RT} {L : List Win} {k : Nat}
theorem isL_nd (R : RT) (L : List Win) (q : Int) : isL L q = (ndL R L q).isSome := by
  unfold isL ndL getR findL
  by_cases hq : q = 0
  · simp [hq]
  · rw [if_neg hq]
    cases hp : placeN q L with
    | none => simp [hq]
    | some j =>
      obtain ⟨v, h1, _⟩ := placeN_get L j hp
      simp [h1]
theorem both_create (S : Sane R L k) (hk : k + 1 ≤ 1000) {q : Int} (hq : I64 q) (x y a e : Int) : ∃ R' L' id err, Sane R' L' (k + 1) ∧
    (∀ (W : World) (sv : Value), RO W sv L → Calls Try.prog 35 #[refV R sv, .int .i64 q, .agg #[.int .i64 x, .int .i64 y, .int .i64 a, .int .i64 e]] W fun ex w' => CrR W R' L' id err ex w') ∧
    (R'.x = R.x ∧ R'.y = R.y ∧ R'.w = R.w ∧ R'.h = R.h) ∧
    ∀ (W : World) (t : Nat) (l : Lay), TB W t l R L → Calls Try.prog 26 #[treeP t, .int .i64 q, .agg #[.int .i64 x, .int .i64 y, .int .i64 a, .int .i64 e]] W fun ex w' => ex = .returned (.tuple #[.int .i64 id, .int .i64 err]) ∧ CT R' L' t l W w' := by
  have hfr : ndL R L (R.last + 1) = none := by
    cases hd : ndL R L (R.last + 1) with
    | none => rfl
    | some d =>
      obtain ⟨h1, h2⟩ := getR_some (ndL_some hd).1
      rcases h2 with ⟨h2, _⟩ | ⟨_, h2⟩
      · have := S.low; omega
      · have := (S.pos _ h2).2; omega
  have hc : ∀ (W : World) (t : Nat) (l : Lay), TB W t l R L → Calls Try.prog 26 #[treeP t, .int .i64 q, .agg #[.int .i64 x, .int .i64 y, .int .i64 a, .int .i64 e]] W fun ex w' => CreateR W t l (ndL R L) R.last (L.length + 1) q x y a e ex w' := fun W t l hT => by
    obtain ⟨r, hr⟩ := root_b hT
    exact create_c hT hr hq S.low (by have := S.last; have := S.most; omega) hfr (by have := S.len; have := S.most; omega) S.kids
  have S1 := S.le (Nat.le_succ k) hk
  have hi := isL_nd R L q
  have hlen := S.len
  have hmost := S.most
  cases hd : ndL R L q with
  | none =>
    rw [hd] at hi
    refine ⟨R, L, 0, 6, S1, fun W sv hR => rcreate_no hR (by omega) (.inl ⟨hi, rfl⟩), ⟨rfl, rfl, rfl, rfl⟩, fun W t l hT => (hc W t l hT).mono fun ex w' hh => ?_⟩
    unfold CreateR at hh
    rw [hd] at hh
    exact ⟨hh.1, CT.same hT hh.2⟩
  | some dq =>
    rw [hd] at hi
    cases hr : rightB x y a e with
    | false =>
      refine ⟨R, L, 0, 10, S1, fun W sv hR => rcreate_no hR (by omega) (.inr (.inl ⟨hi, hr, rfl⟩)), ⟨rfl, rfl, rfl, rfl⟩, fun W t l hT => (hc W t l hT).mono fun ex w' hh => ?_⟩
      unfold CreateR at hh
      rw [hd] at hh
      dsimp only at hh
      rw [if_pos hr] at hh
      exact ⟨hh.1, CT.same hT hh.2⟩
    | true =>
      obtain ⟨g1, g2⟩ := create_list S.toGood S.low (x := x) (y := y) (a := a) (e := e) hd
      have hw : wrap64 (R.last + 1) = R.last + 1 := (IntWalk.i64_left _).symm.trans (IntWalk.i64_in _ (by have := S.low; have := S.last; omega))
      refine ⟨{ R with last := R.last + 1 }, L ++ [⟨R.last + 1, q, x, y, a, e, false⟩], R.last + 1, 0, ⟨g1, by have := S.low; show 0 ≤ R.last + 1; omega, by have := S.last; show R.last + 1 ≤ ((k + 1 : Nat) : Int); omega, by simp; omega, hk⟩, fun W sv hR => rcreate_yes hR (by omega) ⟨hi, hr, by omega⟩ hw, ⟨rfl, rfl, rfl, rfl⟩, fun W t l hT => (hc W t l hT).mono fun ex w' hh => ?_⟩
      unfold CreateR at hh
      rw [hd] at hh
      dsimp only at hh
      rw [if_neg (by rw [hr]; simp), if_neg (by omega)] at hh
      obtain ⟨h1, bk, h2⟩ := hh
      exact ⟨h1, CT.to h2 g2.symm rfl (by simp)⟩
theorem both_repar (S : Sane R L k) {i q : Int} (hi : I64 i) (hq : I64 q) (x y : Int) : ∃ L' err, Sane R L' k ∧
    (∀ (W : World) (sv : Value), RO W sv L → Calls Try.prog 37 #[refV R sv, .int .i64 i, .int .i64 q, .agg #[.int .i64 x, .int .i64 y]] W fun ex w' => ChR W R L' err ex w') ∧
    ∀ (W : World) (t : Nat) (l : Lay), TB W t l R L → Calls Try.prog 21 #[treeP t, .int .i64 i, .int .i64 q, .agg #[.int .i64 x, .int .i64 y]] W fun ex w' => ex = .returned (.int .i64 err) ∧ CT R L' t l W w' := by
  rcases three R L i with ⟨h1, h2, h3⟩ | ⟨rfl, h2⟩ | ⟨h1, h2, j, v, h3, h4, rfl⟩
  · refine ⟨L, 6, S, fun W sv hR => rrepar_no hR S.big h2 (by omega), fun W t l hT => ?_⟩
    obtain ⟨r, hr⟩ := root_b hT
    exact (repar_f (refuse_none hT hr hi (none_b hT h1)) rfl).mono fun ex w' hh => ⟨hh.1, CT.same hT hh.2⟩
  · refine ⟨L, 1, S, fun W sv hR => rrepar_no hR S.big h2 (by omega), fun W t l hT => ?_⟩
    obtain ⟨r, hr⟩ := root_b hT
    exact (repar_f (refuse_root hT hr) rfl).mono fun ex w' hh => ⟨hh.1, CT.same hT hh.2⟩
  · have hv := List.mem_of_getElem? h4
    have hd := nd_of S.uniq hv
    obtain ⟨dp, hdp⟩ := par_there S.toGood hv
    have hc : ∀ (n : Nat) (W : World) (t : Nat) (l : Lay), TB W t l R L → (l.nb q = none ∨ Way (ndL R L) n q) → Calls Try.prog 21 #[treeP t, .int .i64 v.id, .int .i64 q, .agg #[.int .i64 x, .int .i64 y]] W fun ex w' => ReparR W t l (ndL R L) R.last (L.length + 1) v.id q x y ⟨v, kidsL L v.id⟩ dp n ex w' := fun n W t l hT hcase => by
      obtain ⟨r, hr⟩ := root_b hT
      obtain ⟨b, hb⟩ := hT.block hd
      obtain ⟨bp, hbp⟩ := hT.block hdp
      exact repar_c hT S.wide hr hi hq hb hd h1 hbp hdp (par_ne S.toGood hv) ((S.wide _ _ hd).2) S.kids n hcase
    have hil := isL_nd R L q
    cases hdq : ndL R L q with
    | none =>
      rw [hdq] at hil
      refine ⟨L, 6, S, fun W sv hR => rrepar_refuse hR S.big h3 h4 h1 (m := 0) S.no0 (fun hh => by rw [hil] at hh; cases hh) (Nat.zero_le _) (.inl ⟨hil, rfl⟩), fun W t l hT => (hc 0 W t l hT (.inl (none_b hT hdq))).mono fun ex w' hh => ?_⟩
      unfold ReparR at hh
      rw [if_pos (none_b hT hdq)] at hh
      exact ⟨hh.1, CT.same hT hh.2⟩
    | some dq =>
      rw [hdq] at hil
      obtain ⟨n, hn⟩ := S.any hdq
      have hnb : ∀ (W : World) (t : Nat) (l : Lay), TB W t l R L → ¬ l.nb q = none := fun W t l hT e => by
        obtain ⟨b, hb⟩ := hT.block hdq
        rw [e] at hb; cases hb
      cases hth : thruB (ndL R L) n q v.id with
      | true =>
        refine ⟨L, 61, S, fun W sv hR => rrepar_refuse hR S.big h3 h4 h1 S.no0 (fun _ => hn) hn.le (.inr (.inl ⟨hil, hth, rfl⟩)), fun W t l hT => (hc n W t l hT (.inr hn)).mono fun ex w' hh => ?_⟩
        unfold ReparR at hh
        rw [if_neg (hnb W t l hT), if_pos hth] at hh
        exact ⟨hh.1, CT.same hT hh.2⟩
      | false =>
        cases hr : rightB x y v.w v.h with
        | false =>
          refine ⟨L, 10, S, fun W sv hR => rrepar_refuse hR S.big h3 h4 h1 S.no0 (fun _ => hn) hn.le (.inr (.inr ⟨hil, hth, hr, rfl⟩)), fun W t l hT => (hc n W t l hT (.inr hn)).mono fun ex w' hh => ?_⟩
          unfold ReparR at hh
          rw [if_neg (hnb W t l hT), if_neg (by rw [hth]; simp), if_pos hr] at hh
          exact ⟨hh.1, CT.same hT hh.2⟩
        | true =>
          obtain ⟨g1, g2⟩ := repar_list S.toGood hv (x := x) (y := y) hdq hn hth
          have hl := drop_one S hv
          refine ⟨dropL v.id L ++ [⟨v.id, q, x, y, v.w, v.h, v.on⟩], 0, ⟨g1, S.low, S.last, by have := S.len; simp; omega, S.most⟩, fun W sv hR => rrepar_yes hR S.big h3 h4 h1 S.no0 (fun _ => hn) hn.le ⟨hil, hth, hr⟩, fun W t l hT => (hc n W t l hT (.inr hn)).mono fun ex w' hh => ?_⟩
          unfold ReparR at hh
          rw [if_neg (hnb W t l hT), if_neg (by rw [hth]; simp), if_neg (by show ¬ rightB x y v.w v.h = false; rw [hr]; simp)] at hh
          exact ⟨hh.1, CT.to hh.2 (g2 _ _ hd hdp).symm rfl (by simp; omega)⟩
theorem gone_len (h : Good R L) {xs : List Int} (hn : xs.Nodup) (hin : ∀ x ∈ xs, ∃ u ∈ L, u.id = x) : (dropAll xs L).length + xs.length = L.length := by
  have hnd := dropAll_nodup xs h.nodup
  have h0 : ((dropAll xs L).map (·.id) ++ xs).Nodup := List.nodup_append.2 ⟨hnd, hn, fun a ha b hb e => by
    obtain ⟨u, hu, rfl⟩ := List.mem_map.1 ha
    exact ((dropAll_mem xs).1 hu).2 (by rw [e]; exact hb)⟩
  have h1 := nodup_le h0 (b := L.map (·.id)) (fun x hx => by
    rcases List.mem_append.1 hx with hx | hx
    · obtain ⟨u, hu, rfl⟩ := List.mem_map.1 hx
      exact List.mem_map.2 ⟨u, ((dropAll_mem xs).1 hu).1, rfl⟩
    · obtain ⟨u, hu, rfl⟩ := hin x hx
      exact List.mem_map.2 ⟨u, hu, rfl⟩)
  have h2 := nodup_le h.nodup (b := (dropAll xs L).map (·.id) ++ xs) (fun x hx => by
    obtain ⟨u, hu, rfl⟩ := List.mem_map.1 hx
    by_cases hm : u.id ∈ xs
    · exact List.mem_append_right _ hm
    · exact List.mem_append_left _ (List.mem_map.2 ⟨u, (dropAll_mem xs).2 ⟨hu, hm⟩, rfl⟩))
  simp only [List.length_append, List.length_map] at h1 h2
  omega
/-- What Destroy takes away. -/
def goneL (R : RT) (L : List Win) (v : Win) : List Int := allL (ndL R L) (L.length + 1) v.id
theorem tall_more {nd : Int → Option Nd} : ∀ {n m : Nat} {i : Int}, Tall nd n i → n ≤ m → Tall nd m i
  | 0, _, _, h, _ => h.elim
  | n + 1, 0, _, _, hm => by omega
  | n + 1, m + 1, i, ⟨d, hd, hk⟩, hm => ⟨d, hd, fun k hkd => tall_more (hk k hkd) (by omega)⟩
theorem gone_facts (S : Sane R L k) {v : Win} (hv : v ∈ L) : ∃ m, Way (ndL R L) m v.id ∧ Tall (ndL R L) (L.length + 1) v.id ∧ (goneL R L v).Nodup ∧ (∀ x ∈ goneL R L v, ∃ u ∈ L, u.id = x) ∧ (dropAll (goneL R L v) L).length + (goneL R L v).length = L.length := by
  obtain ⟨m, hw⟩ := S.way v hv
  have hm := hw.le
  have hT := tall_more (S.tall (L.length + 1 - m) m v.id hw (by omega)) (show _ ≤ L.length + 1 by omega)
  have hn := all_nodup S.toGood (L.length + 1) m v.id hw
  have hin : ∀ x ∈ goneL R L v, ∃ u ∈ L, u.id = x := fun x hx => by
    obtain ⟨⟨d, hd⟩, j, h1, -⟩ := all_up S.toGood (L.length + 1) m v.id hw x hx
    obtain ⟨h2, h3⟩ := getR_some (ndL_some hd).1
    rcases h3 with ⟨h3, _⟩ | ⟨_, h3⟩
    · subst h3
      have := h1.det root_way
      obtain ⟨m', e, _⟩ := own_way S.toGood hv hw
      omega
    · exact ⟨_, h3, h2⟩
  exact ⟨m, hw, hT, hn, hin, gone_len S.toGood hn hin⟩
theorem both_destroy (S : Sane R L k) {i : Int} (hi : I64 i) : ∃ L' err xs, Sane R L' k ∧ xs.length ≤ 1000 ∧
    (∀ (W : World) (sv : Value), RO W sv L → Calls Try.prog 36 #[refV R sv, .int .i64 i] W fun ex w' => ∃ sv' gv, ex = .returned (.tuple #[refV R sv', gv, .int .i64 err]) ∧ RO w' sv' L' ∧ (RdI w' gv xs ∧ ∀ g, gv.ownBlock = some g → W.heap.size ≤ g) ∧ Below W.heap.size W w') ∧
    (∀ v ∈ L, v.id = i → err = 0 ∧ xs = goneL R L v ∧ L' = dropAll xs L) ∧
    ∀ (W : World) (t : Nat) (l : Lay), TB W t l R L → Calls Try.prog 20 #[treeP t, .int .i64 i] W fun ex w' => ∃ v, ex = .returned (.tuple #[v, .int .i64 err]) ∧ RdI w' v xs ∧ (∀ b, v.ownBlock = some b → W.heap.size ≤ b) ∧ CT R L' t l W w' := by
  have hnil : ∀ W, RdI W (.slice none 0 0) [] := fun W => ⟨none, 0, rfl, fun j x hx => by simp at hx⟩
  rcases three R L i with ⟨h1, h2, h3⟩ | ⟨rfl, h2⟩ | ⟨h1, h2, j, v, h3, h4, rfl⟩
  · refine ⟨L, 6, [], S, by simp, fun W sv hR => (rdestroy_no hR (by have := S.big; omega) h2 (by omega)).mono fun ex w' hh => ?_, fun v hv e => ?_, fun W t l hT => ?_⟩
    · obtain ⟨sv', k1, k2, k3⟩ := hh
      exact ⟨sv', _, k1, k2, ⟨hnil _, fun g hg => by cases hg⟩, k3⟩
    · have := nd_of S.uniq hv
      rw [e, h1] at this; cases this
    · obtain ⟨r, hr⟩ := root_b hT
      exact (destroy_f (refuse_none hT hr hi (none_b hT h1)) rfl).mono fun ex w' hh => ⟨_, hh.1, hnil _, (fun b hb => by cases hb), CT.same hT hh.2⟩
  · refine ⟨L, 1, [], S, by simp, fun W sv hR => (rdestroy_no hR (by have := S.big; omega) h2 (by omega)).mono fun ex w' hh => ?_, fun v hv e => ?_, fun W t l hT => ?_⟩
    · obtain ⟨sv', k1, k2, k3⟩ := hh
      exact ⟨sv', _, k1, k2, ⟨hnil _, fun g hg => by cases hg⟩, k3⟩
    · have := (S.pos v hv).1; omega
    · obtain ⟨r, hr⟩ := root_b hT
      exact (destroy_f (refuse_root hT hr) rfl).mono fun ex w' hh => ⟨_, hh.1, hnil _, (fun b hb => by cases hb), CT.same hT hh.2⟩
  · have hv := List.mem_of_getElem? h4
    have hd := nd_of S.uniq hv
    obtain ⟨dp, hdp⟩ := par_there S.toGood hv
    obtain ⟨m, hw, hT0, hn, hin, hlen⟩ := gone_facts S hv
    obtain ⟨g1, g2⟩ := destroy_list S.toGood hv hw hT0
    obtain ⟨g3, g4, g5⟩ := g2 dp hdp
    have hll := S.len
    have hmo := S.most
    refine ⟨dropAll (goneL R L v) L, 0, goneL R L v, ⟨g1, S.low, S.last, by omega, S.most⟩, by omega, fun W sv hR => (rdestroy_yes hR (by have := S.big; omega) h2 hT0 (by show (goneL R L v).length ≤ _; omega)).mono fun ex w' hh => ?_, fun u hu e => ?_, fun W t l hT => ?_⟩
    · obtain ⟨sv', gv, k1, k2, k3, k4⟩ := hh
      exact ⟨sv', gv, k1, k2, k3, k4⟩
    · rw [same_id S.nodup hu hv e]
      exact ⟨rfl, rfl, rfl⟩
    · obtain ⟨r, hr⟩ := root_b hT
      obtain ⟨b, hb⟩ := hT.block hd
      obtain ⟨bp, hbp⟩ := hT.block hdp
      refine (destroy_c hT S.wide hr hi hb hd h1 hbp hdp (L.length + 1) _ rfl g5 (by rw [g4]; show (goneL R L v).length ≤ _; omega) (by rw [g4]; exact hn) (fun x hx => ?_)).mono fun ex w' hh => ?_
      · rw [g4] at hx
        obtain ⟨⟨dx, hdx⟩, -⟩ := all_up S.toGood (L.length + 1) m v.id hw x hx
        unfold upd
        by_cases hxp : x = (⟨v, kidsL L v.id⟩ : Nd).win.par
        · rw [if_pos hxp]; exact ⟨_, rfl⟩
        · rw [if_neg hxp]; exact ⟨dx, hdx⟩
      · obtain ⟨gv, k1, k2, k3, l', k4, k5⟩ := hh
        rw [g4] at k2 k4
        refine ⟨gv, k1, RdI.of k2, k3, l', ?_, k5⟩
        have e1 : wipe (upd (ndL R L) (⟨v, kidsL L v.id⟩ : Nd).win.par (some ⟨dp.win, strike (⟨v, kidsL L v.id⟩ : Nd).win.id dp.kids⟩)) (allL (ndL R L) (L.length + 1) v.id) = ndL R (dropAll (goneL R L v) L) := g3.symm
        rw [e1] at k4
        have e2 : L.length + 1 - (allL (ndL R L) (L.length + 1) v.id).length = (dropAll (goneL R L v) L).length + 1 := by
          show L.length + 1 - (goneL R L v).length = _
          omega
        rw [e2] at k4
        exact k4
end
end Go.Proofs.Ytphmlfklmleafaa
end
section
namespace Go.Proofs.Ytphmlfklmleafaa
open Go.RowKit Go.Shelf Go.Maps
/-- A law's tree: its blocks are the law's own. -/
def Wst (w0 : World) (t : Nat) (nd : Int → Option Nd) (made : Int) (cnt : Nat) (wx : World) : Prop := ∃ l, TreeH wx t l nd made cnt ∧ Below w0.heap.size w0 wx ∧ ∀ b, l.foot t b → w0.heap.size ≤ b
section
variable {w0 wx w1 : World} {t : Nat} {nd nd' : Int → Option Nd} {made made' : Int} {cnt cnt' : Nat}
theorem Wst.next (h : Wst w0 t nd made cnt wx) (hb : Below wx.heap.size wx w1) : Wst w0 t nd made cnt w1 := by
  obtain ⟨l, h1, h2, h3⟩ := h
  exact ⟨l, h1.next hb, hb.on h2 h2.size, h3⟩
theorem Wst.below (h : Wst w0 t nd made cnt wx) : Below w0.heap.size w0 wx := by obtain ⟨l, _, h2, _⟩ := h; exact h2
theorem Wst.made_ {w w' : World} {x y a e : Int} (h : TreeNew w x y a e t w') : Wst w t (nd0 x y a e) 0 1 w' := by
  obtain ⟨l, _, h1, h2, h3⟩ := h
  exact ⟨l, h1, h2, h3⟩
theorem Wst.to {l : Lay} {nb' : Int → Option Nat} (_h : TreeH wx t l nd made cnt) (hb : Below w0.heap.size w0 wx) (hf : ∀ b, l.foot t b → w0.heap.size ≤ b) (k : TreeTo wx t l nb' nd' made' cnt' w1) : Wst w0 t nd' made' cnt' w1 := by
  obtain ⟨l', _, k2, k3⟩ := k
  exact ⟨l', k2, Turn.below hb k3 hb.size hf, k3.least hb.size hf⟩
theorem Wst.create (h : Wst w0 t nd made cnt wx) {d0 : Nd} (h0 : nd 0 = some d0) {q x y a e : Int} (hq : I64 q) (hm : 0 ≤ made) (hm2 : made ≤ 4611686018427387904) (hfresh : nd (made + 1) = none) (hcnt : cnt ≤ 1024) (hks : ∀ j dj, nd j = some dj → dj.kids.length ≤ 4096) {dq : Nd} (hd : nd q = some dq) (hr : rightB x y a e = true) :
    Calls Try.prog 26 #[treeP t, .int .i64 q, .agg #[.int .i64 x, .int .i64 y, .int .i64 a, .int .i64 e]] wx fun ex w' => ex = .returned (.tuple #[.int .i64 (made + 1), .int .i64 0]) ∧ Wst w0 t (upd (upd nd q (some ⟨dq.win, dq.kids ++ [made + 1]⟩)) (made + 1) (some ⟨⟨made + 1, q, x, y, a, e, false⟩, []⟩)) (made + 1) (cnt + 1) w' := by
  obtain ⟨l, h1, h2, h3⟩ := h
  obtain ⟨r, hr0⟩ := h1.block h0
  refine (create_c h1 hr0 hq hm hm2 hfresh (by omega) hks).mono ?_
  intro ex w' hR
  unfold CreateR at hR
  rw [hd] at hR
  dsimp only at hR
  rw [if_neg (by rw [hr]; simp), if_neg (by omega)] at hR
  obtain ⟨rfl, bk, k⟩ := hR
  exact ⟨rfl, Wst.to h1 h2 h3 k⟩
theorem Wst.map (h : Wst w0 t nd made cnt wx) {d0 : Nd} (h0 : nd 0 = some d0) {i : Int} (hi : I64 i) {d : Nd} (hd : nd i = some d) (hz : i ≠ 0) (on : Bool) :
    Calls Try.prog 29 #[treeP t, .int .i64 i, .bool on] wx fun e w' => e = .returned (.int .i64 0) ∧ Wst w0 t (upd nd i (some ⟨{ d.win with on := on }, d.kids⟩)) made cnt w' := by
  obtain ⟨l, h1, h2, h3⟩ := h
  obtain ⟨r, hr0⟩ := h1.block h0
  obtain ⟨b, hb⟩ := h1.block hd
  refine (map_c h1 hr0 hi hb hd hz on).mono ?_
  rintro e w' ⟨rfl, k⟩
  exact ⟨rfl, Wst.to h1 h2 h3 k⟩
theorem Wst.abs (h : Wst w0 t nd made cnt wx) (hw : Wide nd) {n : Nat} {i : Int} (hW : Way nd n i) :
    Calls Try.prog 22 #[treeP t, .int .i64 i] wx fun e w' => e = .returned (.tuple #[.agg #[.int .i64 (IntKind.i64.wrap (absX nd n i)), .int .i64 (IntKind.i64.wrap (absY nd n i))], .bool true]) ∧ Below wx.heap.size wx w' := by
  obtain ⟨l, h1, h2, h3⟩ := h
  exact abs_c hw n i wx h1 hW
theorem Wst.under (h : Wst w0 t nd made cnt wx) (hw : Wide nd) (hks : ∀ j dj, nd j = some dj → dj.kids.length ≤ 4096) {d : Nd} (hd : nd 0 = some d) {n : Nat} (hT : Tall nd n 0) {px py : Int} :
    Calls Try.prog 15 #[treeP t, .agg #[.int .i64 px, .int .i64 py]] wx fun e w' => UnderR wx nd n d px py e w' := by
  obtain ⟨l, h1, h2, h3⟩ := h
  exact under_c h1 hw hks hd hT
end
/-- The example's tree. -/
def awk1 : Int → Option Nd := upd (upd (nd0 0 0 100 100) 0 (some ⟨(rootNd 0 0 100 100).win, [1]⟩)) 1 (some ⟨⟨1, 0, 10, 10, 50, 50, false⟩, []⟩)
def awk2 : Int → Option Nd := upd (upd awk1 1 (some ⟨⟨1, 0, 10, 10, 50, 50, false⟩, [2]⟩)) 2 (some ⟨⟨2, 1, 5, 5, 50, 50, false⟩, []⟩)
def awk3 : Int → Option Nd := upd awk2 1 (some ⟨⟨1, 0, 10, 10, 50, 50, true⟩, [2]⟩)
def awk4 : Int → Option Nd := upd awk3 2 (some ⟨⟨2, 1, 5, 5, 50, 50, true⟩, []⟩)
theorem awk1_is (i : Int) : awk1 i = if i = 1 then some ⟨⟨1, 0, 10, 10, 50, 50, false⟩, []⟩ else if i = 0 then some ⟨⟨0, -1, 0, 0, 100, 100, true⟩, [1]⟩ else none := by
  unfold awk1 nd0 upd rootNd
  split
  · rfl
  · split
    · rfl
    · rfl
theorem awk4_is (i : Int) : awk4 i = if i = 2 then some ⟨⟨2, 1, 5, 5, 50, 50, true⟩, []⟩ else if i = 1 then some ⟨⟨1, 0, 10, 10, 50, 50, true⟩, [2]⟩ else if i = 0 then some ⟨⟨0, -1, 0, 0, 100, 100, true⟩, [1]⟩ else none := by
  unfold awk4 awk3 awk2
  by_cases h2 : i = 2
  · subst h2; rfl
  · by_cases h1 : i = 1
    · subst h1; rfl
    · rw [upd_other _ _ h2, upd_other _ _ h1, upd_other _ _ h2, upd_other _ _ h1, awk1_is, if_neg h2, if_neg h1, if_neg h1]
theorem awk4_wide : Wide awk4 := by
  intro i d h
  rw [awk4_is] at h
  split at h
  · next e => injection h with h; subst h; subst e; exact ⟨⟨by decide, by decide⟩, ⟨by decide, by decide⟩⟩
  · split at h
    · next e => injection h with h; subst h; subst e; exact ⟨⟨by decide, by decide⟩, ⟨by decide, by decide⟩⟩
    · split at h
      · next e => injection h with h; subst h; subst e; exact ⟨⟨by decide, by decide⟩, ⟨by decide, by decide⟩⟩
      · cases h
theorem awk4_kids : ∀ j dj, awk4 j = some dj → dj.kids.length ≤ 4096 := by
  intro i d h
  rw [awk4_is] at h
  split at h
  · injection h with h; subst h; decide
  · split at h
    · injection h with h; subst h; decide
    · split at h
      · injection h with h; subst h; decide
      · cases h
theorem awk4_way1 : Way awk4 1 1 := ⟨by decide, _, rfl, rfl, _, rfl⟩
theorem awk4_way2 : Way awk4 2 2 := ⟨by decide, _, rfl, awk4_way1⟩
theorem awk4_tall : Tall awk4 3 0 := by
  refine ⟨_, rfl, fun k hk => ?_⟩
  rw [List.mem_singleton.1 (show k ∈ [1] from hk)]
  refine ⟨_, rfl, fun k hk => ?_⟩
  rw [List.mem_singleton.1 (show k ∈ [2] from hk)]
  exact ⟨_, rfl, fun k hk => by cases hk⟩
theorem awk4_see1 : seenB awk4 3 0 20 20 = 2 := by decide +kernel
theorem awk4_see2 : seenB awk4 3 0 12 12 = 1 := by decide +kernel
theorem awk4_see3 : seenB awk4 3 0 61 61 = 0 := by decide +kernel
end Go.Proofs.Ytphmlfklmleafaa
end
section
namespace Go.Proofs.Ytphmlfklmleafaa
open Go.RowKit Go.WideShapes Go.ChangeShapes Go.ChangeAt

/-- A value is a slice of these ints, in the world: nil or without elements, or a row of them. -/
def IsInts (w : World) (v : Value) (zs : List Int) : Prop :=
  (zs = [] ∧ ∃ a c, v = .slice a 0 c) ∨
  ∃ b off c, v = .slice (some ⟨b, off, none⟩) zs.length c ∧ b < w.heap.size ∧ zs.length ≤ 9223372036854775807 ∧ zs ≠ [] ∧ ∀ j, j < zs.length → w.cell? ⟨b, off + j, none⟩ = some (.int .i64 (zs.getD j 0))

section
variable {H : Type} {enc : TypeId × Value → H} {P : Program}
theorem block_of_cell {w : World} {a : Addr} {u : Value} (h : w.cell? a = some u) : a.block < w.heap.size := by
  unfold World.cell? at h
  cases hh : w.heap[a.block]? with
  | none => rw [hh] at h; simp at h
  | some o => exact (Array.getElem?_eq_some_iff.1 hh).1
theorem ints_of {t e : TypeId} {W : World} {b0 : Nat} {v : Value} {d : DataW H} {p : List MemPlace} (ht : P.underlying t = some (.slice e)) (he : P.underlying e = some (.int .i64)) (hc : P.cellsOf e = 1)
    (hv : Value.okWide P W .any b0 t v) (h : DataW.Trod enc P W 0 (fun _ => true) true t v d p) : ∃ zs, IsInts W v zs := by
  obtain ⟨a0, len, cap, rfl⟩ := okWide_slice ht hv
  obtain ⟨fuel, hf⟩ := h
  rcases open_ints ht he hc hf with ⟨hcs, _⟩ | ⟨a, len', cap', zs, hcs, _, hl, hm, hz, _, hcell, _⟩
  · simp only [Value.cells, List.cons.injEq, Value.slice.injEq, and_true] at hcs
    obtain ⟨rfl, rfl, rfl⟩ := hcs
    exact ⟨[], .inl ⟨rfl, _, _, rfl⟩⟩
  · simp only [Value.cells, List.cons.injEq, Value.slice.injEq, and_true] at hcs
    obtain ⟨rfl, rfl, rfl⟩ := hcs
    simp only [if_true] at hz
    by_cases h0 : len = 0
    · subst h0; exact ⟨[], .inl ⟨rfl, _, _, rfl⟩⟩
    · obtain ⟨b, off, spot⟩ := a
      have h1 := hcell 0 (by omega)
      have hspot : spot = none := by simpa [Addr.add] using World.cell?_spot h1
      subst hspot
      have hlen : (zs.take len).length = len := by simp; omega
      refine ⟨zs.take len, .inr ⟨b, off, cap, by rw [hlen], by simpa [Addr.add] using block_of_cell h1, by rw [hlen]; unfold maxLen at hm; omega, ?_, fun j hj => ?_⟩⟩
      · intro h; rw [h] at hlen; simp at hlen; omega
      · rw [hlen] at hj
        have := hcell j (by omega)
        rw [show ((⟨b, off, none⟩ : Addr).add j) = ⟨b, off + j, none⟩ by unfold Addr.add; split <;> simp_all] at this
        rw [this, List.getD_eq_getElem?_getD, List.getD_eq_getElem?_getD, List.getElem?_take_of_lt hj]

theorem post_args {f : Func} {s : ChangeSpec} {apart fresh handsOn : Bool} {W W' : World} {args : Array Value} {v : Value} {ds gs : List (DataW H)} {places : List MemPlace}
    (hW : DataW.Whole enc P f.params.toList s.vars apart W args.toList ds gs places)
    (hres : ∀ (b : Nat) (sp : Nat → Bool) (hd : Bool), DataW.TrodAll enc P W' b sp hd f.resultTypes.toList (v.resultList f.resultTypes.size) (s.fn H (ds ++ gs)).results [])
    (hargs : DataW.TrodAll enc P W' 0 (fun b => decide (b < W.heap.size)) true f.params.toList args.toList (s.fn H (ds ++ gs)).args places)
    (hvars : DataW.TrodVars enc P W' (fun b => decide (b < W.heap.size)) s.vars (s.fn H (ds ++ gs)).vars []) (hb : Below W.heap.size W W') :
    s.post enc P f apart fresh handsOn false W args v W' := by
  exact ⟨ds, gs, _, [], _, [], hW, hres _ _ _, hargs, hvars, World.keptBut_mono (fun p hp => ⟨hp, .inr (.inl hp)⟩) (hb.frame (· ∈ places)), fun h => by cases h⟩
end
end Go.Proofs.Ytphmlfklmleafaa
end
section
namespace Go.Proofs.Ytphmlfklmleafaa
open Go.RowKit Go.WideShapes Go.ChangeShapes Go.ChangeAt Go.Deep
theorem cs_int : Try.prog.cellsOf 3 = 1 := by kernel_rfl
theorem cs_rect : Try.prog.cellsOf 23 = 4 := by kernel_rfl
theorem cs_point : Try.prog.cellsOf 26 = 2 := by kernel_rfl
theorem list_of {α : Type} {P : Nat → α → Prop} (n : Nat) (h : ∀ i, i < n → ∃ t, P i t) : ∃ l : List α, l.length = n ∧ ∀ (i : Nat) (t : α), l[i]? = some t → P i t := by
  induction n with
  | zero => exact ⟨[], rfl, fun i t ht => by simp at ht⟩
  | succ n ih =>
    obtain ⟨l, hl, hp⟩ := ih (fun i hi => h i (by omega))
    obtain ⟨t, ht⟩ := h n (by omega)
    refine ⟨l ++ [t], by simp [hl], fun i u hu => ?_⟩
    by_cases hi : i < n
    · rw [List.getElem?_append_left (by omega)] at hu
      exact hp i u hu
    · have hi' := (List.getElem?_eq_some_iff.1 hu).1
      simp at hi'
      have : i = n := by omega
      subst this
      rw [List.getElem?_append_right (by omega), hl] at hu
      simp at hu
      subst hu
      exact ht
section
variable {H : Type} {enc : TypeId × Value → H} {w : World} {fuel : Nat} {x : DataW H × List MemPlace}
theorem cell_spot {w : World} {a : Addr} {u : Value} (h : w.cell? a = some u) : a = ⟨a.block, a.off, none⟩ := by
  obtain ⟨b, o, s⟩ := a
  have : s = none := World.cell?_spot h
  subst this; rfl
theorem open_rect {c0 c1 c2 c3 : Value} (h : DataW.trod enc Try.prog w 0 (fun _ => true) true fuel 23 [c0, c1, c2, c3] = some x) :
    ∃ x y a e : Int, c0 = .int .i64 x ∧ c1 = .int .i64 y ∧ c2 = .int .i64 a ∧ c3 = .int .i64 e := by
  obtain ⟨xs, n, _, hx, _, hlen, hg⟩ := DataW.trod_struct Try.underlying23 h
  obtain ⟨y0, e0⟩ : ∃ y, xs[0]? = some y := ⟨_, List.getElem?_eq_getElem (by rw [hlen]; decide)⟩
  have k0 : DataW.trod enc Try.prog w 0 (fun _ => true) true n 3 [c0] = some y0 := by
    have h := (hg 0 _ rfl).trans e0
    simpa [cs_int] using h
  obtain ⟨y1, e1⟩ : ∃ y, xs[1]? = some y := ⟨_, List.getElem?_eq_getElem (by rw [hlen]; decide)⟩
  have k1 : DataW.trod enc Try.prog w 0 (fun _ => true) true n 3 [c1] = some y1 := by
    have h := (hg 1 _ rfl).trans e1
    simpa [cs_int] using h
  obtain ⟨y2, e2⟩ : ∃ y, xs[2]? = some y := ⟨_, List.getElem?_eq_getElem (by rw [hlen]; decide)⟩
  have k2 : DataW.trod enc Try.prog w 0 (fun _ => true) true n 3 [c2] = some y2 := by
    have h := (hg 2 _ rfl).trans e2
    simpa [cs_int] using h
  obtain ⟨y3, e3⟩ : ∃ y, xs[3]? = some y := ⟨_, List.getElem?_eq_getElem (by rw [hlen]; decide)⟩
  have k3 : DataW.trod enc Try.prog w 0 (fun _ => true) true n 3 [c3] = some y3 := by
    have h := (hg 3 _ rfl).trans e3
    simpa [cs_int] using h
  obtain ⟨z0, q0, _, w0⟩ := DataW.trod_int Try.underlying3 k0
  simp only [List.cons.injEq, and_true] at q0
  obtain ⟨z1, q1, _, w1⟩ := DataW.trod_int Try.underlying3 k1
  simp only [List.cons.injEq, and_true] at q1
  obtain ⟨z2, q2, _, w2⟩ := DataW.trod_int Try.underlying3 k2
  simp only [List.cons.injEq, and_true] at q2
  obtain ⟨z3, q3, _, w3⟩ := DataW.trod_int Try.underlying3 k3
  simp only [List.cons.injEq, and_true] at q3
  exact ⟨z0, z1, z2, z3, q0, q1, q2, q3⟩
end
section
variable {H : Type} {enc : TypeId × Value → H} {w : World}
theorem bytes_rect : Try.prog.bytesOf 23 = 32 := by kernel_rfl
set_option maxRecDepth 100000 in
theorem point_of {b0 : Nat} {v : Value} {d : DataW H} {q : List MemPlace} (hv : Value.okWide Try.prog w .any b0 26 v) (h : DataW.Trod enc Try.prog w 0 (fun _ => true) true 26 v d q) : ∃ x y : Int, v = .agg #[.int .i64 x, .int .i64 y] := by
  obtain ⟨⟨l⟩, rfl, hsz⟩ := okWide_struct Try.underlying26 hv
  obtain ⟨fuel, h⟩ := h
  match l, hsz.trans cs_point with
  | [c0, c1], _ =>
    obtain ⟨xs, n, _, hx, _, hlen, hg⟩ := DataW.trod_struct Try.underlying26 h
    obtain ⟨y0, e0⟩ : ∃ y, xs[0]? = some y := ⟨_, List.getElem?_eq_getElem (by rw [hlen]; decide)⟩
    have k0 : DataW.trod enc Try.prog w 0 (fun _ => true) true n 3 [c0] = some y0 := by
      have h := (hg 0 _ rfl).trans e0
      simpa [cs_int, Value.cells] using h
    obtain ⟨y1, e1⟩ : ∃ y, xs[1]? = some y := ⟨_, List.getElem?_eq_getElem (by rw [hlen]; decide)⟩
    have k1 : DataW.trod enc Try.prog w 0 (fun _ => true) true n 3 [c1] = some y1 := by
      have h := (hg 1 _ rfl).trans e1
      simpa [cs_int, Value.cells] using h
    obtain ⟨z0, q0, _, w0⟩ := DataW.trod_int Try.underlying3 k0
    simp only [List.cons.injEq, and_true] at q0
    obtain ⟨z1, q1, _, w1⟩ := DataW.trod_int Try.underlying3 k1
    simp only [List.cons.injEq, and_true] at q1
    subst q0 q1
    exact ⟨z0, z1, rfl⟩
end
end Go.Proofs.Ytphmlfklmleafaa
end
section
namespace Go.Proofs.Ytphmlfklmleafaa
open Go.RowKit Go.WideShapes Go.ChangeShapes Go.ChangeAt Go.Deep
structure Ac where
  kind : Int
  win : Int
  other : Int
  x : Int
  y : Int
  a : Int
  e : Int
def Ac.cells (t : Ac) : List Value := [.int .i64 t.kind, .int .i64 t.win, .int .i64 t.other, .int .i64 t.x, .int .i64 t.y, .int .i64 t.a, .int .i64 t.e]
def Ac.ok (t : Ac) : Prop := I64 t.win ∧ I64 t.other
theorem i64_of {z : Int} (h : (Lit.int .i64 z).wf = true) : I64 z := by
  unfold I64
  simp [Lit.wf, IntKind.min, IntKind.max, IntKind.signed, IntKind.bits] at h
  omega
theorem cs_act : Try.prog.cellsOf 39 = 7 := by kernel_rfl
section
variable {H : Type} {enc : TypeId × Value → H} {w : World} {fuel : Nat} {x : DataW H × List MemPlace}
set_option maxRecDepth 100000 in
theorem open_act {c0 c1 c2 c3 c4 c5 c6 : Value} (h : DataW.trod enc Try.prog w 0 (fun _ => true) true fuel 39 [c0, c1, c2, c3, c4, c5, c6] = some x) : ∃ t : Ac, [c0, c1, c2, c3, c4, c5, c6] = t.cells ∧ t.ok := by
  obtain ⟨xs, n, _, hx, _, hlen, hg⟩ := DataW.trod_struct Try.underlying39 h
  obtain ⟨y0, e0⟩ : ∃ y, xs[0]? = some y := ⟨_, List.getElem?_eq_getElem (by rw [hlen]; decide)⟩
  have k0 : DataW.trod enc Try.prog w 0 (fun _ => true) true n 3 [c0] = some y0 := by
    have h := (hg 0 _ rfl).trans e0
    simpa [cs_int, cs_rect] using h
  obtain ⟨y1, e1⟩ : ∃ y, xs[1]? = some y := ⟨_, List.getElem?_eq_getElem (by rw [hlen]; decide)⟩
  have k1 : DataW.trod enc Try.prog w 0 (fun _ => true) true n 3 [c1] = some y1 := by
    have h := (hg 1 _ rfl).trans e1
    simpa [cs_int, cs_rect] using h
  obtain ⟨y2, e2⟩ : ∃ y, xs[2]? = some y := ⟨_, List.getElem?_eq_getElem (by rw [hlen]; decide)⟩
  have k2 : DataW.trod enc Try.prog w 0 (fun _ => true) true n 3 [c2] = some y2 := by
    have h := (hg 2 _ rfl).trans e2
    simpa [cs_int, cs_rect] using h
  obtain ⟨y3, e3⟩ : ∃ y, xs[3]? = some y := ⟨_, List.getElem?_eq_getElem (by rw [hlen]; decide)⟩
  have k3 : DataW.trod enc Try.prog w 0 (fun _ => true) true n 23 [c3, c4, c5, c6] = some y3 := by
    have h := (hg 3 _ rfl).trans e3
    simpa [cs_int, cs_rect] using h
  obtain ⟨z0, q0, _, w0⟩ := DataW.trod_int Try.underlying3 k0
  simp only [List.cons.injEq, and_true] at q0
  obtain ⟨z1, q1, _, w1⟩ := DataW.trod_int Try.underlying3 k1
  simp only [List.cons.injEq, and_true] at q1
  obtain ⟨z2, q2, _, w2⟩ := DataW.trod_int Try.underlying3 k2
  simp only [List.cons.injEq, and_true] at q2
  obtain ⟨x3, x4, x5, x6, q3, q4, q5, q6⟩ := open_rect k3
  exact ⟨⟨z0, z1, z2, x3, x4, x5, x6⟩, by rw [q0, q1, q2, q3, q4, q5, q6]; rfl, i64_of w1, i64_of w2⟩
end
section
variable {H : Type} {enc : TypeId × Value → H} {w : World}
set_option maxRecDepth 100000 in
theorem act_of {b0 : Nat} {v : Value} {d : DataW H} {q : List MemPlace} (hv : Value.okWide Try.prog w .any b0 39 v) (h : DataW.Trod enc Try.prog w 0 (fun _ => true) true 39 v d q) : ∃ t : Ac, v = .agg ⟨t.cells⟩ ∧ t.ok := by
  obtain ⟨⟨l⟩, rfl, hsz⟩ := okWide_struct Try.underlying39 hv
  obtain ⟨fuel, hf⟩ := h
  match l, hsz.trans cs_act with
  | [c0, c1, c2, c3, c4, c5, c6], _ =>
    obtain ⟨t, h1, h2⟩ := open_act hf
    exact ⟨t, by rw [← h1], h2⟩
/-- A row of acts. -/
def IsActs (B : Nat) (w : World) (v : Value) (ts : List Ac) : Prop :=
  ∃ p c, v = .slice p ts.length c ∧ ts.length ≤ 9223372036854775807 ∧ ∀ (j : Nat) (t : Ac), ts[j]? = some t → ∃ b o, p = some ⟨b, o, none⟩ ∧ b < B ∧
    (∀ (i : Nat) (u : Value), t.cells[i]? = some u → w.cell? ⟨b, o + j * 7 + i, none⟩ = some u) ∧ t.ok
theorem IsActs.below {B : Nat} {w w' : World} {v : Value} {ts : List Ac} (h : IsActs B w v ts) (hb : Below B w w') : IsActs B w' v ts := by
  obtain ⟨p, c, h1, h2, h3⟩ := h
  refine ⟨p, c, h1, h2, fun j t hu => ?_⟩
  obtain ⟨b, o, h4, h5, h6, h8⟩ := h3 j t hu
  exact ⟨b, o, h4, h5, fun i u hi => (hb.cell (p := ⟨b, o + j * 7 + i, none⟩) h5).trans (h6 i u hi), h8⟩
set_option maxRecDepth 100000 in
theorem acts_of {b0 : Nat} {v : Value} {d : DataW H} {q : List MemPlace} (hv : Value.okWide Try.prog w .any b0 24 v) (h : DataW.Trod enc Try.prog w 0 (fun _ => true) true 24 v d q) :
    ∃ ts, IsActs w.heap.size w v ts := by
  obtain ⟨a0, len, cap, rfl⟩ := okWide_slice Try.underlying24 hv
  obtain ⟨fuel, hf⟩ := h
  rcases open_slice Try.underlying24 hf with ⟨hcs, _⟩ | ⟨a, len', cap', m, n, D, Pl, hcs, _, hl, hm, hmm, _, hi⟩
  · simp only [Value.cells, List.cons.injEq, Value.slice.injEq, and_true] at hcs
    obtain ⟨rfl, rfl, rfl⟩ := hcs
    exact ⟨[], none, 0, rfl, by simp, fun j t ht => by simp at ht⟩
  · simp only [Value.cells, List.cons.injEq, Value.slice.injEq, and_true] at hcs
    obtain ⟨rfl, rfl, rfl⟩ := hcs
    simp only [if_true] at hmm
    subst hmm
    have hel : ∀ i, i < len → ∃ t : Ac, (∀ (k : Nat) (u : Value), t.cells[k]? = some u → w.cell? (a.add (i * 7 + k)) = some u) ∧ t.ok := by
      intro i hlt
      obtain ⟨cs', hc, ht⟩ := hi i (by omega)
      rw [cs_act] at hc
      obtain ⟨_, hlen, hat⟩ := World.cells?_some hc
      match cs', hlen with
      | [c0, c1, c2, c3, c4, c5, c6], _ =>
        obtain ⟨t, h1, h2⟩ := open_act ht
        refine ⟨t, fun k u hu => ?_, h2⟩
        have hk : k < 7 := by have := (List.getElem?_eq_some_iff.1 hu).1; simpa [Ac.cells] using this
        have := hat k hk
        rw [← Go.Deep.add_add, this, h1]
        exact hu
    obtain ⟨ts, hts, hp⟩ := list_of len hel
    refine ⟨ts, some a, m, by rw [hts], by rw [hts]; unfold maxLen at hm; omega, fun j t ht => ?_⟩
    obtain ⟨h1, h3⟩ := hp j t ht
    have h0 : 0 < ts.length := by have := (List.getElem?_eq_some_iff.1 ht).1; omega
    obtain ⟨k1, _⟩ := hp 0 _ (List.getElem?_eq_getElem h0)
    have h10 := k1 0 _ rfl
    rw [show 0 * 7 + 0 = 0 from rfl, show a.add 0 = a by unfold Addr.add; simp] at h10
    have e : a = ⟨a.block, a.off, none⟩ := cell_spot h10
    refine ⟨a.block, a.off, by rw [← e], block_of_cell h10, fun k u hu => ?_, h3⟩
    have := h1 k u hu
    rw [e, Addr.add_lit] at this
    rw [← this, Nat.add_assoc]
end
end Go.Proofs.Ytphmlfklmleafaa
end
