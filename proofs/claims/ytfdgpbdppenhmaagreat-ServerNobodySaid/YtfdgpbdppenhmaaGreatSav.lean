/- Both sides of Create, Reparent, Destroy. The state that the laws keep: the code's tree and the document's beside it. -/
import Derived.Test.YtfdgpbdppenhmaaGreatSau
section
namespace Go.Proofs.YtfdgpbdppenhmaaGreat
open Go.RowKit Go.Shelf Go.Maps
section
variable {R : RT} {L : List Win} {k : Nat}
theorem isL_nd (R : RT) (L : List Win) (q : Int) : isL L q = (ndL R L q).isSome := by
  unfold isL ndL getR findL
  by_cases hq : q = 0
  · simp [hq]
  · rw [if_neg hq]
    cases hp : placeN q L with
    | none => simp [hq]
    | some j =>
      obtain ⟨v, h1, _⟩ := placeN_get L j hp
      simp [h1]
theorem both_create (S : Sane R L k) (hk : k + 1 ≤ 1000) {q : Int} (hq : I64 q) (x y a e : Int) : ∃ R' L' id err, Sane R' L' (k + 1) ∧
    (∀ (W : World) (sv : Value), RO W sv L → Calls Tryz.prog 62 #[refV R sv, .int .i64 q, .agg #[.int .i64 x, .int .i64 y, .int .i64 a, .int .i64 e]] W fun ex w' => CrR W R' L' id err ex w') ∧
    (R'.x = R.x ∧ R'.y = R.y ∧ R'.w = R.w ∧ R'.h = R.h) ∧
    ∀ (W : World) (t : Nat) (l : Lay), TB W t l R L → Calls Tryz.prog 91 #[treeP t, .int .i64 q, .agg #[.int .i64 x, .int .i64 y, .int .i64 a, .int .i64 e]] W fun ex w' => ex = .returned (.tuple #[.int .i64 id, .int .i64 err]) ∧ CT R' L' t l W w' := by
  have hfr : ndL R L (R.last + 1) = none := by
    cases hd : ndL R L (R.last + 1) with
    | none => rfl
    | some d =>
      obtain ⟨h1, h2⟩ := getR_some (ndL_some hd).1
      rcases h2 with ⟨h2, _⟩ | ⟨_, h2⟩
      · have := S.low; omega
      · have := (S.pos _ h2).2; omega
  have hc : ∀ (W : World) (t : Nat) (l : Lay), TB W t l R L → Calls Tryz.prog 91 #[treeP t, .int .i64 q, .agg #[.int .i64 x, .int .i64 y, .int .i64 a, .int .i64 e]] W fun ex w' => CreateR W t l (ndL R L) R.last (L.length + 1) q x y a e ex w' := fun W t l hT => by
    obtain ⟨r, hr⟩ := root_b hT
    exact create_c hT hr hq S.low (by have := S.last; have := S.most; omega) hfr (by have := S.len; have := S.most; omega) S.kids
  have S1 := S.le (Nat.le_succ k) hk
  have hi := isL_nd R L q
  have hlen := S.len
  have hmost := S.most
  cases hd : ndL R L q with
  | none =>
    rw [hd] at hi
    refine ⟨R, L, 0, 6, S1, fun W sv hR => rcreate_no hR (by omega) (.inl ⟨hi, rfl⟩), ⟨rfl, rfl, rfl, rfl⟩, fun W t l hT => (hc W t l hT).mono fun ex w' hh => ?_⟩
    unfold CreateR at hh
    rw [hd] at hh
    exact ⟨hh.1, CT.same hT hh.2⟩
  | some dq =>
    rw [hd] at hi
    cases hr : rightB x y a e with
    | false =>
      refine ⟨R, L, 0, 10, S1, fun W sv hR => rcreate_no hR (by omega) (.inr (.inl ⟨hi, hr, rfl⟩)), ⟨rfl, rfl, rfl, rfl⟩, fun W t l hT => (hc W t l hT).mono fun ex w' hh => ?_⟩
      unfold CreateR at hh
      rw [hd] at hh
      dsimp only at hh
      rw [if_pos hr] at hh
      exact ⟨hh.1, CT.same hT hh.2⟩
    | true =>
      obtain ⟨g1, g2⟩ := create_list S.toGood S.low (x := x) (y := y) (a := a) (e := e) hd
      have hw : wrap64 (R.last + 1) = R.last + 1 := (IntWalk.i64_left _).symm.trans (IntWalk.i64_in _ (by have := S.low; have := S.last; omega))
      refine ⟨{ R with last := R.last + 1 }, L ++ [⟨R.last + 1, q, x, y, a, e, false⟩], R.last + 1, 0, ⟨g1, by have := S.low; show 0 ≤ R.last + 1; omega, by have := S.last; show R.last + 1 ≤ ((k + 1 : Nat) : Int); omega, by simp; omega, hk⟩, fun W sv hR => rcreate_yes hR (by omega) ⟨hi, hr, by omega⟩ hw, ⟨rfl, rfl, rfl, rfl⟩, fun W t l hT => (hc W t l hT).mono fun ex w' hh => ?_⟩
      unfold CreateR at hh
      rw [hd] at hh
      dsimp only at hh
      rw [if_neg (by rw [hr]; simp), if_neg (by omega)] at hh
      obtain ⟨h1, bk, h2⟩ := hh
      exact ⟨h1, CT.to h2 g2.symm rfl (by simp)⟩
theorem both_repar (S : Sane R L k) {i q : Int} (hi : I64 i) (hq : I64 q) (x y : Int) : ∃ L' err, Sane R L' k ∧
    (∀ (W : World) (sv : Value), RO W sv L → Calls Tryz.prog 57 #[refV R sv, .int .i64 i, .int .i64 q, .agg #[.int .i64 x, .int .i64 y]] W fun ex w' => ChR W R L' err ex w') ∧
    ∀ (W : World) (t : Nat) (l : Lay), TB W t l R L → Calls Tryz.prog 76 #[treeP t, .int .i64 i, .int .i64 q, .agg #[.int .i64 x, .int .i64 y]] W fun ex w' => ex = .returned (.int .i64 err) ∧ CT R L' t l W w' := by
  rcases three R L i with ⟨h1, h2, h3⟩ | ⟨rfl, h2⟩ | ⟨h1, h2, j, v, h3, h4, rfl⟩
  · refine ⟨L, 6, S, fun W sv hR => rrepar_no hR S.big h2 (by omega), fun W t l hT => ?_⟩
    obtain ⟨r, hr⟩ := root_b hT
    exact (repar_f (refuse_none hT hr hi (none_b hT h1)) rfl).mono fun ex w' hh => ⟨hh.1, CT.same hT hh.2⟩
  · refine ⟨L, 1, S, fun W sv hR => rrepar_no hR S.big h2 (by omega), fun W t l hT => ?_⟩
    obtain ⟨r, hr⟩ := root_b hT
    exact (repar_f (refuse_root hT hr) rfl).mono fun ex w' hh => ⟨hh.1, CT.same hT hh.2⟩
  · have hv := List.mem_of_getElem? h4
    have hd := nd_of S.uniq hv
    obtain ⟨dp, hdp⟩ := par_there S.toGood hv
    have hc : ∀ (n : Nat) (W : World) (t : Nat) (l : Lay), TB W t l R L → (l.nb q = none ∨ Way (ndL R L) n q) → Calls Tryz.prog 76 #[treeP t, .int .i64 v.id, .int .i64 q, .agg #[.int .i64 x, .int .i64 y]] W fun ex w' => ReparR W t l (ndL R L) R.last (L.length + 1) v.id q x y ⟨v, kidsL L v.id⟩ dp n ex w' := fun n W t l hT hcase => by
      obtain ⟨r, hr⟩ := root_b hT
      obtain ⟨b, hb⟩ := hT.block hd
      obtain ⟨bp, hbp⟩ := hT.block hdp
      exact repar_c hT S.wide hr hi hq hb hd h1 hbp hdp (par_ne S.toGood hv) ((S.wide _ _ hd).2) S.kids n hcase
    have hil := isL_nd R L q
    cases hdq : ndL R L q with
    | none =>
      rw [hdq] at hil
      refine ⟨L, 6, S, fun W sv hR => rrepar_refuse hR S.big h3 h4 h1 (m := 0) S.no0 (fun hh => by rw [hil] at hh; cases hh) (Nat.zero_le _) (.inl ⟨hil, rfl⟩), fun W t l hT => (hc 0 W t l hT (.inl (none_b hT hdq))).mono fun ex w' hh => ?_⟩
      unfold ReparR at hh
      rw [if_pos (none_b hT hdq)] at hh
      exact ⟨hh.1, CT.same hT hh.2⟩
    | some dq =>
      rw [hdq] at hil
      obtain ⟨n, hn⟩ := S.any hdq
      have hnb : ∀ (W : World) (t : Nat) (l : Lay), TB W t l R L → ¬ l.nb q = none := fun W t l hT e => by
        obtain ⟨b, hb⟩ := hT.block hdq
        rw [e] at hb; cases hb
      cases hth : thruB (ndL R L) n q v.id with
      | true =>
        refine ⟨L, 61, S, fun W sv hR => rrepar_refuse hR S.big h3 h4 h1 S.no0 (fun _ => hn) hn.le (.inr (.inl ⟨hil, hth, rfl⟩)), fun W t l hT => (hc n W t l hT (.inr hn)).mono fun ex w' hh => ?_⟩
        unfold ReparR at hh
        rw [if_neg (hnb W t l hT), if_pos hth] at hh
        exact ⟨hh.1, CT.same hT hh.2⟩
      | false =>
        cases hr : rightB x y v.w v.h with
        | false =>
          refine ⟨L, 10, S, fun W sv hR => rrepar_refuse hR S.big h3 h4 h1 S.no0 (fun _ => hn) hn.le (.inr (.inr ⟨hil, hth, hr, rfl⟩)), fun W t l hT => (hc n W t l hT (.inr hn)).mono fun ex w' hh => ?_⟩
          unfold ReparR at hh
          rw [if_neg (hnb W t l hT), if_neg (by rw [hth]; simp), if_pos hr] at hh
          exact ⟨hh.1, CT.same hT hh.2⟩
        | true =>
          obtain ⟨g1, g2⟩ := repar_list S.toGood hv (x := x) (y := y) hdq hn hth
          have hl := drop_one S hv
          refine ⟨dropL v.id L ++ [⟨v.id, q, x, y, v.w, v.h, v.on⟩], 0, ⟨g1, S.low, S.last, by have := S.len; simp; omega, S.most⟩, fun W sv hR => rrepar_yes hR S.big h3 h4 h1 S.no0 (fun _ => hn) hn.le ⟨hil, hth, hr⟩, fun W t l hT => (hc n W t l hT (.inr hn)).mono fun ex w' hh => ?_⟩
          unfold ReparR at hh
          rw [if_neg (hnb W t l hT), if_neg (by rw [hth]; simp), if_neg (by show ¬ rightB x y v.w v.h = false; rw [hr]; simp)] at hh
          exact ⟨hh.1, CT.to hh.2 (g2 _ _ hd hdp).symm rfl (by simp; omega)⟩
theorem gone_len (h : Good R L) {xs : List Int} (hn : xs.Nodup) (hin : ∀ x ∈ xs, ∃ u ∈ L, u.id = x) : (dropAll xs L).length + xs.length = L.length := by
  have hnd := dropAll_nodup xs h.nodup
  have h0 : ((dropAll xs L).map (·.id) ++ xs).Nodup := List.nodup_append.2 ⟨hnd, hn, fun a ha b hb e => by
    obtain ⟨u, hu, rfl⟩ := List.mem_map.1 ha
    exact ((dropAll_mem xs).1 hu).2 (by rw [e]; exact hb)⟩
  have h1 := nodup_le h0 (b := L.map (·.id)) (fun x hx => by
    rcases List.mem_append.1 hx with hx | hx
    · obtain ⟨u, hu, rfl⟩ := List.mem_map.1 hx
      exact List.mem_map.2 ⟨u, ((dropAll_mem xs).1 hu).1, rfl⟩
    · obtain ⟨u, hu, rfl⟩ := hin x hx
      exact List.mem_map.2 ⟨u, hu, rfl⟩)
  have h2 := nodup_le h.nodup (b := (dropAll xs L).map (·.id) ++ xs) (fun x hx => by
    obtain ⟨u, hu, rfl⟩ := List.mem_map.1 hx
    by_cases hm : u.id ∈ xs
    · exact List.mem_append_right _ hm
    · exact List.mem_append_left _ (List.mem_map.2 ⟨u, (dropAll_mem xs).2 ⟨hu, hm⟩, rfl⟩))
  simp only [List.length_append, List.length_map] at h1 h2
  omega
/-- What Destroy takes away. -/
def goneL (R : RT) (L : List Win) (v : Win) : List Int := allL (ndL R L) (L.length + 1) v.id
theorem tall_more {nd : Int → Option Nd} : ∀ {n m : Nat} {i : Int}, Tall nd n i → n ≤ m → Tall nd m i
  | 0, _, _, h, _ => h.elim
  | n + 1, 0, _, _, hm => by omega
  | n + 1, m + 1, i, ⟨d, hd, hk⟩, hm => ⟨d, hd, fun k hkd => tall_more (hk k hkd) (by omega)⟩
theorem gone_facts (S : Sane R L k) {v : Win} (hv : v ∈ L) : ∃ m, Way (ndL R L) m v.id ∧ Tall (ndL R L) (L.length + 1) v.id ∧ (goneL R L v).Nodup ∧ (∀ x ∈ goneL R L v, ∃ u ∈ L, u.id = x) ∧ (dropAll (goneL R L v) L).length + (goneL R L v).length = L.length := by
  obtain ⟨m, hw⟩ := S.way v hv
  have hm := hw.le
  have hT := tall_more (S.tall (L.length + 1 - m) m v.id hw (by omega)) (show _ ≤ L.length + 1 by omega)
  have hn := all_nodup S.toGood (L.length + 1) m v.id hw
  have hin : ∀ x ∈ goneL R L v, ∃ u ∈ L, u.id = x := fun x hx => by
    obtain ⟨⟨d, hd⟩, j, h1, -⟩ := all_up S.toGood (L.length + 1) m v.id hw x hx
    obtain ⟨h2, h3⟩ := getR_some (ndL_some hd).1
    rcases h3 with ⟨h3, _⟩ | ⟨_, h3⟩
    · subst h3
      have := h1.det root_way
      obtain ⟨m', e, _⟩ := own_way S.toGood hv hw
      omega
    · exact ⟨_, h3, h2⟩
  exact ⟨m, hw, hT, hn, hin, gone_len S.toGood hn hin⟩
/-- The tree behind Destroy; the list of those that ended is none of its blocks. -/
def CTx (R' : RT) (L' : List Win) (t : Nat) (l : Lay) (v : Value) (w w' : World) : Prop := ∃ l', TB w' t l' R' L' ∧ Turn (l.foot t) (l'.foot t) w w' ∧ ∀ r, v.ownBlock = some r → ¬ l'.foot t r
theorem CTx.same {R : RT} {L : List Win} {t : Nat} {l : Lay} {w w' : World} (h : TB w t l R L) (hb : Below w.heap.size w w') : CTx R L t l (.slice none 0 0) w w' := ⟨l, h.next hb, Turn.of_below hb, fun r hr => by cases hr⟩
theorem CTx.ct {R : RT} {L : List Win} {t : Nat} {l : Lay} {v : Value} {w w' : World} (h : CTx R L t l v w w') : CT R L t l w w' := by
  obtain ⟨l', h1, h2, -⟩ := h
  exact ⟨l', h1, h2⟩
theorem both_destroy (S : Sane R L k) {i : Int} (hi : I64 i) : ∃ L' err xs, Sane R L' k ∧ xs.length ≤ 1000 ∧
    (∀ (W : World) (sv : Value), RO W sv L → Calls Tryz.prog 87 #[refV R sv, .int .i64 i] W fun ex w' => ∃ sv' gv, ex = .returned (.tuple #[refV R sv', gv, .int .i64 err]) ∧ RO w' sv' L' ∧ (RdI w' gv xs ∧ ∀ g, gv.ownBlock = some g → W.heap.size ≤ g) ∧ Below W.heap.size W w') ∧
    (∀ v ∈ L, v.id = i → err = 0 ∧ xs = goneL R L v ∧ L' = dropAll xs L) ∧
    ∀ (W : World) (t : Nat) (l : Lay), TB W t l R L → Calls Tryz.prog 109 #[treeP t, .int .i64 i] W fun ex w' => ∃ v, ex = .returned (.tuple #[v, .int .i64 err]) ∧ RdI w' v xs ∧ (∀ b, v.ownBlock = some b → W.heap.size ≤ b) ∧ CTx R L' t l v W w' := by
  have hnil : ∀ W, RdI W (.slice none 0 0) [] := fun W => ⟨none, 0, rfl, fun j x hx => by simp at hx⟩
  rcases three R L i with ⟨h1, h2, h3⟩ | ⟨rfl, h2⟩ | ⟨h1, h2, j, v, h3, h4, rfl⟩
  · refine ⟨L, 6, [], S, by simp, fun W sv hR => (rdestroy_no hR (by have := S.big; omega) h2 (by omega)).mono fun ex w' hh => ?_, fun v hv e => ?_, fun W t l hT => ?_⟩
    · obtain ⟨sv', k1, k2, k3⟩ := hh
      exact ⟨sv', _, k1, k2, ⟨hnil _, fun g hg => by cases hg⟩, k3⟩
    · have := nd_of S.uniq hv
      rw [e, h1] at this; cases this
    · obtain ⟨r, hr⟩ := root_b hT
      exact (destroy_f (refuse_none hT hr hi (none_b hT h1)) rfl).mono fun ex w' hh => ⟨_, hh.1, hnil _, (fun b hb => by cases hb), CTx.same hT hh.2⟩
  · refine ⟨L, 1, [], S, by simp, fun W sv hR => (rdestroy_no hR (by have := S.big; omega) h2 (by omega)).mono fun ex w' hh => ?_, fun v hv e => ?_, fun W t l hT => ?_⟩
    · obtain ⟨sv', k1, k2, k3⟩ := hh
      exact ⟨sv', _, k1, k2, ⟨hnil _, fun g hg => by cases hg⟩, k3⟩
    · have := (S.pos v hv).1; omega
    · obtain ⟨r, hr⟩ := root_b hT
      exact (destroy_f (refuse_root hT hr) rfl).mono fun ex w' hh => ⟨_, hh.1, hnil _, (fun b hb => by cases hb), CTx.same hT hh.2⟩
  · have hv := List.mem_of_getElem? h4
    have hd := nd_of S.uniq hv
    obtain ⟨dp, hdp⟩ := par_there S.toGood hv
    obtain ⟨m, hw, hT0, hn, hin, hlen⟩ := gone_facts S hv
    obtain ⟨g1, g2⟩ := destroy_list S.toGood hv hw hT0
    obtain ⟨g3, g4, g5⟩ := g2 dp hdp
    have hll := S.len
    have hmo := S.most
    refine ⟨dropAll (goneL R L v) L, 0, goneL R L v, ⟨g1, S.low, S.last, by omega, S.most⟩, by omega, fun W sv hR => (rdestroy_yes hR (by have := S.big; omega) h2 hT0 (by show (goneL R L v).length ≤ _; omega)).mono fun ex w' hh => ?_, fun u hu e => ?_, fun W t l hT => ?_⟩
    · obtain ⟨sv', gv, k1, k2, k3, k4⟩ := hh
      exact ⟨sv', gv, k1, k2, k3, k4⟩
    · rw [same_id S.nodup hu hv e]
      exact ⟨rfl, rfl, rfl⟩
    · obtain ⟨r, hr⟩ := root_b hT
      obtain ⟨b, hb⟩ := hT.block hd
      obtain ⟨bp, hbp⟩ := hT.block hdp
      refine (destroy_c hT S.wide hr hi hb hd h1 hbp hdp (L.length + 1) _ rfl g5 (by rw [g4]; show (goneL R L v).length ≤ _; omega) (by rw [g4]; exact hn) (fun x hx => ?_)).mono fun ex w' hh => ?_
      · rw [g4] at hx
        obtain ⟨⟨dx, hdx⟩, -⟩ := all_up S.toGood (L.length + 1) m v.id hw x hx
        unfold upd
        by_cases hxp : x = (⟨v, kidsL L v.id⟩ : Nd).win.par
        · rw [if_pos hxp]; exact ⟨_, rfl⟩
        · rw [if_neg hxp]; exact ⟨dx, hdx⟩
      · obtain ⟨gv, k1, k2, k3, l', k4, k5, k6⟩ := hh
        rw [g4] at k2 k4
        refine ⟨gv, k1, RdI.of k2, k3, l', ?_, k5, k6⟩
        have e1 : wipe (upd (ndL R L) (⟨v, kidsL L v.id⟩ : Nd).win.par (some ⟨dp.win, strike (⟨v, kidsL L v.id⟩ : Nd).win.id dp.kids⟩)) (allL (ndL R L) (L.length + 1) v.id) = ndL R (dropAll (goneL R L v) L) := g3.symm
        rw [e1] at k4
        have e2 : L.length + 1 - (allL (ndL R L) (L.length + 1) v.id).length = (dropAll (goneL R L v) L).length + 1 := by
          show L.length + 1 - (goneL R L v).length = _
          omega
        rw [e2] at k4
        exact k4
end
end Go.Proofs.YtfdgpbdppenhmaaGreat
end
section
namespace Go.Proofs.YtfdgpbdppenhmaaGreat
open Go.RowKit Go.Shelf Go.Maps
theorem foot_ne {w : World} {t : Nat} {l : Lay} {nd : Int → Option Nd} {made : Int} {cnt : Nat} (h : TreeH w t l nd made cnt) {g : Nat} {T : TypeId} {cs : Array Value} (hg : Blk w g T cs) (h1 : T ≠ 105) (h2 : T ≠ 102) (h3 : T ≠ 3) : ¬ l.foot t g := by
  rintro (e | e | ⟨i, hi⟩ | ⟨i, hi, hv⟩)
  · subst e
    exact Blk.ne_ hg h.tree h1 rfl
  · exact blk_not_map hg h.map e
  · obtain ⟨d, hd⟩ := h.ndOf hi
    exact Blk.ne_ hg (h.node i g d hi hd).1 h2 rfl
  · obtain ⟨b', hb'⟩ := Option.isSome_iff_exists.1 hi
    obtain ⟨d, hd⟩ := h.ndOf hb'
    obtain ⟨cs', hc⟩ := row_type (h.node i b' d hb' hd).2 hv
    exact Blk.ne_ hg hc h3 rfl
theorem ro_blk {w : World} {B : Nat} {sv : Value} {M : List Win} (h : OwK encW 61 7 w B sv M) {q : Nat} (hq : sv.ownBlock = some q) : ∃ cs, Blk w q 61 cs := by
  obtain ⟨_, h⟩ := h
  rcases h with ⟨rfl, _⟩ | ⟨g, cap, cur, rfl, _, hg, _⟩
  · cases hq
  · obtain rfl : g = q := by simpa [Value.ownBlock] using hq
    exact ⟨_, hg⟩
theorem ro_kept {w w' : World} {sv : Value} {M : List Win} (h : RO w sv M) (hk : ∀ q cs, Blk w q 61 cs → w'.heap[q]? = w.heap[q]?) : RO w' sv M := by
  have h0 := fun q hq => ro_blk h (q := q) hq
  obtain ⟨h1, h2⟩ := h
  refine ⟨h1, ?_⟩
  rcases h2 with h2 | ⟨g, cap, cur, rfl, h3, h4, h5⟩
  · exact .inl h2
  · obtain ⟨cs, hc⟩ := h0 g rfl
    exact .inr ⟨g, cap, cur, rfl, h3, (hk g cs hc).trans h4, h5⟩
theorem ty1 : (61 : Nat) ≠ 105 ∧ (61 : Nat) ≠ 102 ∧ (61 : Nat) ≠ 3 := by decide
theorem ty2 : (54 : Nat) ≠ 105 ∧ (54 : Nat) ≠ 102 ∧ (54 : Nat) ≠ 3 ∧ (61 : Nat) ≠ 54 := by decide
/-- Both trees: the code's at t, the document's in the block rb. -/
def Bo (w0 : World) (t rb : Nat) (R : RT) (L : List Win) (w : World) : Prop :=
  ∃ l sv, TB w t l R L ∧ Blk w rb 54 (refA R sv) ∧ RO w sv L ∧ Below w0.heap.size w0 w ∧ w0.heap.size ≤ rb ∧ ∀ b, l.foot t b → w0.heap.size ≤ b
section
variable {w0 w w' : World} {t rb : Nat} {R R' : RT} {L L' : List Win}
theorem Bo.next (h : Bo w0 t rb R L w) (hb : Below w.heap.size w w') : Bo w0 t rb R L w' := by
  obtain ⟨l, sv, h1, h2, h3, h4, h5, h6⟩ := h
  exact ⟨l, sv, h1.next hb, h2.next hb, OwK.below h3 hb, hb.on h4 h4.size, h5, h6⟩
theorem Bo.below (h : Bo w0 t rb R L w) : Below w0.heap.size w0 w := by
  obtain ⟨_, _, _, _, _, h4, _⟩ := h
  exact h4
/-- What stays beside a tree that a call changed. -/
theorem CT.ref {l : Lay} (hT : TB w t l R L) (h : CT R' L' t l w w') {g : Nat} {sv : Value} (hb : Blk w g 54 (refA R sv)) : Blk w' g 54 (refA R sv) := by
  obtain ⟨l', _, k⟩ := h
  exact k.blk hb (foot_ne hT hb ty2.1 ty2.2.1 ty2.2.2.1)
theorem CT.row {l : Lay} (hT : TB w t l R L) (h : CT R' L' t l w w') {sv : Value} {M : List Win} (hr : RO w sv M) : RO w' sv M := by
  obtain ⟨l', _, k⟩ := h
  exact ro_kept hr fun q cs hq => k.block q hq.lt (foot_ne hT hq ty1.1 ty1.2.1 ty1.2.2)
theorem heap6 {w : World} {g j : Nat} (hj : j ≠ g) (v0 v1 v2 v3 v4 v5 : Value) : ((((((w.setCell ⟨g, 0, none⟩ v0).setCell ⟨g, 1, none⟩ v1).setCell ⟨g, 2, none⟩ v2).setCell ⟨g, 3, none⟩ v3).setCell ⟨g, 4, none⟩ v4).setCell ⟨g, 5, none⟩ v5).heap[j]? = w.heap[j]? := by
  rw [Below.heap_setCell _ _ _ _ hj, Below.heap_setCell _ _ _ _ hj, Below.heap_setCell _ _ _ _ hj, Below.heap_setCell _ _ _ _ hj, Below.heap_setCell _ _ _ _ hj, Below.heap_setCell _ _ _ _ hj]
/-- The document's tree written into its block. -/
theorem tree6 {l : Lay} (hT : TB w t l R L) {g : Nat} {cs : Array Value} (hb : Blk w g 54 cs) (v0 v1 v2 v3 v4 v5 : Value) : TB ((((((w.setCell ⟨g, 0, none⟩ v0).setCell ⟨g, 1, none⟩ v1).setCell ⟨g, 2, none⟩ v2).setCell ⟨g, 3, none⟩ v3).setCell ⟨g, 4, none⟩ v4).setCell ⟨g, 5, none⟩ v5) t l R L :=
  hT.kept fun b hf => heap6 (show b ≠ g from fun e => foot_ne hT hb ty2.1 ty2.2.1 ty2.2.2.1 (by rw [← e]; exact hf)) _ _ _ _ _ _
theorem rows6 {sv : Value} {M : List Win} {g : Nat} {cs : Array Value} (h : RO w sv M) (hb : Blk w g 54 cs) (v0 v1 v2 v3 v4 v5 : Value) : RO ((((((w.setCell ⟨g, 0, none⟩ v0).setCell ⟨g, 1, none⟩ v1).setCell ⟨g, 2, none⟩ v2).setCell ⟨g, 3, none⟩ v3).setCell ⟨g, 4, none⟩ v4).setCell ⟨g, 5, none⟩ v5) sv M :=
  ro_kept h fun _ _ hq => heap6 (fun e => Blk.ne_ hq hb ty2.2.2.2 e) _ _ _ _ _ _
/-- The call done on both sides, and the new list put into the block. -/
theorem Bo.put {l : Lay} {sv sv' : Value} (hT : TB w t l R' L') (hb : Blk w rb 54 (refA R sv)) (hr : RO w sv' L') (h4 : Below w0.heap.size w0 w) (h5 : w0.heap.size ≤ rb) (h6 : ∀ b, l.foot t b → w0.heap.size ≤ b) :
    Bo w0 t rb R' L' ((((((w.setCell ⟨rb, 0, none⟩ (.int .i64 R'.x)).setCell ⟨rb, 1, none⟩ (.int .i64 R'.y)).setCell ⟨rb, 2, none⟩ (.int .i64 R'.w)).setCell ⟨rb, 3, none⟩ (.int .i64 R'.h)).setCell ⟨rb, 4, none⟩ (.int .i64 R'.last)).setCell ⟨rb, 5, none⟩ sv') :=
  ⟨l, sv', tree6 hT hb _ _ _ _ _ _, put6 hb _ _ _ _ _ _, rows6 hr hb _ _ _ _ _ _, set6 h4 h5 _ _ _ _ _ _, h5, h6⟩
theorem CT.out {l : Lay} (h : CT R' L' t l w w') (h4 : Below w0.heap.size w0 w) (h6 : ∀ b, l.foot t b → w0.heap.size ≤ b) : ∃ l', TB w' t l' R' L' ∧ Below w0.heap.size w0 w' ∧ (∀ b, l'.foot t b → w0.heap.size ≤ b) := by
  obtain ⟨l', k1, k2⟩ := h
  exact ⟨l', k1, k2.below h4 h4.size h6, k2.least h4.size h6⟩
end
end Go.Proofs.YtfdgpbdppenhmaaGreat
end
