/- Each call keeps what every display keeps (pure). -/
import Derived.Test.YtfdgpbdppenhmaaGreatSrL
namespace Go.Proofs.YtfdgpbdppenhmaaGreat
open Go.RowKit Go.Shelf Go.Maps
theorem way_kept {nd nd' : Int → Option Nd} (h : ∀ j d, nd j = some d → ∃ d', nd' j = some d' ∧ d'.win = d.win) : ∀ (m : Nat) (i : Int), Way nd m i → Way nd' m i ∧ viewB nd' m i = viewB nd m i
  | 0, i, hw => by
    obtain ⟨h0, d, hd⟩ := hw
    obtain ⟨d', h1, h2⟩ := h i d hd
    refine ⟨⟨h0, d', h1⟩, ?_⟩
    unfold viewB onOf
    rw [hd, h1]
    show d'.win.on = d.win.on
    rw [h2]
  | m + 1, i, hw => by
    obtain ⟨h0, d, hd, hw⟩ := hw
    obtain ⟨d', h1, h2⟩ := h i d hd
    obtain ⟨h3, h4⟩ := way_kept h m d.win.par hw
    refine ⟨⟨h0, d', h1, by rw [h2]; exact h3⟩, ?_⟩
    unfold viewB
    rw [par_of hd, par_of h1, h2, h4]
    unfold onOf
    rw [hd, h1]
    show (d'.win.on && _) = (d.win.on && _)
    rw [h2]
section
variable {X : Xs} {k : Nat}
theorem view_way {R : RT} {L : List Win} (S : Sane R L k) {i : Int} (h : viewL R L i = true) : ∃ m, Way (ndL R L) m i ∧ viewB (ndL R L) m i = true := by
  unfold viewL at h
  rw [Bool.and_eq_true] at h
  obtain ⟨h1, h2⟩ := h
  obtain ⟨d, hd⟩ := Option.isSome_iff_exists.1 (show (ndL R L i).isSome = true from h1)
  obtain ⟨m, hm⟩ := S.any hd
  rw [ups_eq hm] at h2
  exact ⟨m, hm, h2⟩
theorem view_of {R : RT} {L : List Win} {i : Int} {m : Nat} (h : Way (ndL R L) m i) (hv : viewB (ndL R L) m i = true) : viewL R L i = true := by
  obtain ⟨d, hd⟩ := h.there
  unfold viewL thereL
  rw [hd, ups_eq h, hv]; rfl
theorem create_yes {R : RT} {L : List Win} {q x y a e : Int} (h : (tCreate R q x y a e L).2.2.2 = 0) : isL L q = true ∧ rightB x y a e = true ∧ tCreate R q x y a e L = ({ R with last := R.last + 1 }, L ++ [⟨R.last + 1, q, x, y, a, e, false⟩], R.last + 1, 0) := by
  unfold tCreate at h ⊢
  split at h
  · exact absurd h (by simp)
  · split at h
    · exact absurd h (by simp)
    · rename_i h1 h2
      rw [if_neg h1, if_neg h2]
      exact ⟨by simpa using h1, by simpa using h2, rfl⟩
theorem V.created (h : V X k) (hk : k + 1 ≤ 1000) {a : Int} (ha : 0 ≤ a) (ha2 : I64 a) (q : Rq) (hq : I64 q.other) : V (X.create a q).2.2 (k + 1) := by
  unfold Xs.create
  split
  · exact h.le (Nat.le_succ k) hk
  · dsimp only
    split
    · next he =>
      obtain ⟨h1, h2, h3⟩ := create_yes he
      have hs := (t_create h.s hk hq q.x q.y q.a q.e).1
      rw [h3] at hs ⊢
      refine ⟨V0.created h.toV0 hs (.inr ⟨_, _, _, _, _, rfl⟩) (by show X.R.last < X.R.last + 1; omega) ⟨ha, ha2.2⟩, ?_⟩
      rcases h.foc with hf | hf
      · exact .inl hf
      · refine .inr ?_
        obtain ⟨m, hm, hv⟩ := view_way h.s hf
        rw [isL_nd X.R X.L q.other] at h1
        obtain ⟨dq, hdq⟩ := Option.isSome_iff_exists.1 h1
        obtain ⟨-, g2⟩ := create_list h.s.toGood h.s.low (x := q.x) (y := q.y) (a := q.a) (e := q.e) hdq
        have hfr : ndL X.R X.L (X.R.last + 1) = none := by
          cases hd : ndL X.R X.L (X.R.last + 1) with
          | none => rfl
          | some d =>
            obtain ⟨e1, e2⟩ := getR_some (ndL_some hd).1
            have hlow := h.s.low
            rcases e2 with ⟨e2, _⟩ | ⟨_, e2⟩
            · omega
            · have := (h.s.pos _ e2).2; omega
        have hsame : ∀ j d, ndL X.R X.L j = some d → ∃ d', ndL { X.R with last := X.R.last + 1 } (X.L ++ [⟨X.R.last + 1, q.other, q.x, q.y, q.a, q.e, false⟩]) j = some d' ∧ d'.win = d.win := fun j d hd => by
          rw [g2]
          have hj : j ≠ X.R.last + 1 := fun e => by rw [e, hfr] at hd; cases hd
          rw [upd_other _ _ hj]
          by_cases hjq : j = q.other
          · rw [hjq, upd_same]
            rw [hjq, hdq] at hd
            injection hd with hd
            exact ⟨_, rfl, by rw [hd]⟩
          · rw [upd_other _ _ hjq]; exact ⟨d, hd, rfl⟩
        obtain ⟨k1, k2⟩ := way_kept hsame m X.F hm
        exact view_of k1 (k2.trans hv)
    · exact h.le (Nat.le_succ k) hk
theorem V0.destroyed (h : V0 X k) {i : Int} (hi : I64 i) : V0 (X.destroy i) k := by
  unfold Xs.destroy
  split
  · exact h
  · next hn =>
    have hs := (t_destroy h.s hi).1
    have e1 : (tDestroy X.R i X.L).1 = dropAll (goneI X.R X.L i) X.L := by unfold tDestroy; rw [if_neg hn]
    rw [e1] at hs
    have hF : Fg { X with L := dropAll (goneI X.R X.L i) X.L } := ⟨h.ev, h.h, fun m hm => (h.own m hm).1⟩
    obtain ⟨p1, p2, p3, p4, p5, p6, p7⟩ := fold_parts { X with L := dropAll (goneI X.R X.L i) X.L } (goneI X.R X.L i)
    have hF2 := hF.fold (goneI X.R X.L i)
    refine ⟨by rw [p1, p2]; exact hs, h.up.sublist p6, fun j => ?_, fun m hm => h.own m ((p5 m).1 hm).1, hF2.ev, hF2.h, Nat.le_trans p7 h.hl, by rw [p3]; exact h.f64⟩
    rw [p2, inL_dropAll, h.same]
    unfold inM
    constructor
    · rintro ⟨⟨m, hm, rfl⟩, hn⟩
      exact ⟨m, (p5 m).2 ⟨hm, hn⟩, rfl⟩
    · rintro ⟨m, hm, rfl⟩
      exact ⟨⟨m, ((p5 m).1 hm).1, rfl⟩, ((p5 m).1 hm).2⟩
theorem V0.carried (h : V0 X k) (q : Rq) (hi : I64 q.win) : V0 (X.carry q).2 k := by
  unfold Xs.carry
  split
  · exact h.tree (t_map h.s hi true).1 (inL_map true q.win X.L)
  · split
    · exact h.tree (t_map h.s hi false).1 (inL_map false q.win X.L)
    · split
      · exact h.tree (t_conf h.s hi q.x q.y q.a q.e).1 (inL_conf q.win q.x q.y q.a q.e X.L)
      · split
        · exact h.tree (t_raise h.s hi).1 (inL_raise q.win X.L)
        · exact h.tree (t_lower h.s hi).1 (inL_lower q.win X.L)
theorem V0.asked (h : V0 X k) (q : Rq) (hi : I64 q.win) : V0 (X.ask q).2 k := by
  unfold Xs.ask
  split
  · exact h.tell _
  · split
    · exact (h.tell _).carried q hi
    · split
      · split
        · exact h
        · exact h.tell _
      · exact h
theorem V0.setp (h : V0 X k) (hk : k + 1 ≤ 1000) (a i : Int) (p : Pp.Pr) : V0 (X.setp a i p) (k + 1) := by
  unfold Xs.setp
  dsimp only
  split
  · split
    · exact (h.props i p hk).tell _
    · exact (h.le (Nat.le_succ k) hk).tell _
  · split
    · exact h.props i p hk
    · exact h.le (Nat.le_succ k) hk
end
end Go.Proofs.YtfdgpbdppenhmaaGreat
