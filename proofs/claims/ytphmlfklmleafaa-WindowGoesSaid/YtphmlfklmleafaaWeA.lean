/- What is seen at a place, and the way up from it (pure). -/
import Derived.Test.YtphmlfklmleafaaJay
import Derived.Test.YtphmlfklmleafaaJap
namespace Go.Proofs.Ytphmlfklmleafaa
open Go.RowKit Go.Shelf
section
variable {R : RT} {L : List Win} {k : Nat}
theorem Sane.tallRoot (S : Sane R L k) : Tall (ndL R L) (L.length + 1) 0 := S.tall (L.length + 1) 0 0 root_way (by omega)
/-- A window that has the place, told on the plane. -/
def Inn (R : RT) (L : List Win) (px py : Int) (a : Int) : Prop :=
  ∃ m, Way (ndL R L) m a ∧ onOf (ndL R L) a = true ∧ (absX (ndL R L) m a ≤ px ∧ px < absX (ndL R L) m a + wOf (ndL R L) a ∧ wOf (ndL R L) a ≤ 65536) ∧
    absY (ndL R L) m a ≤ py ∧ py < absY (ndL R L) m a + hOf (ndL R L) a ∧ hOf (ndL R L) a ≤ 65536
theorem has_in {x y w h p q : Int} (hb : hasB x y w h p q = true) : (x ≤ p ∧ p < x + w ∧ w ≤ 65536) ∧ y ≤ q ∧ q < y + h ∧ h ≤ 65536 := by
  unfold hasB emptyB rightB planeB at hb
  simp at hb
  omega
theorem seen_in (h : Good R L) (px py : Int) : ∀ (n d : Nat) (i : Int), Way (ndL R L) d i → (∀ j, j < d → Inn R L px py (upN (ndL R L) j i)) → ∀ lx ly : Int, lx = px - absX (ndL R L) d i → ly = py - absY (ndL R L) d i →
    ∃ m, Way (ndL R L) m (seenB (ndL R L) n i lx ly) ∧ ∀ j, j < m → Inn R L px py (upN (ndL R L) j (seenB (ndL R L) n i lx ly))
  | 0, d, i, hw, hI, lx, ly, _, _ => ⟨d, hw, hI⟩
  | n + 1, d, i, hw, hI, lx, ly, hlx, hly => by
    obtain ⟨di, hd⟩ := hw.there
    simp only [seenB, hd]
    cases hf : di.kids.reverse.find? (hitB (ndL R L) lx ly) with
    | none => dsimp only; rw [ndL_id hd]; exact ⟨d, hw, hI⟩
    | some c =>
      dsimp only
      have hk : c ∈ kidsL L i := by rw [← (ndL_some hd).2]; exact List.mem_reverse.1 (List.mem_of_find?_eq_some hf)
      have hh : hitB (ndL R L) lx ly c = true := List.find?_some hf
      obtain ⟨v, hv, rfl, hp, hn⟩ := kid_of h hk
      have hwk := h.kid_way hw hk
      rw [hit_of h.uniq hv] at hh
      obtain ⟨hon, hb⟩ := (Bool.and_eq_true_iff ..).1 hh
      obtain ⟨⟨b1, b2, b3⟩, b4, b5, b6⟩ := has_in hb
      have ex : xOf (ndL R L) v.id = v.x := by simp only [xOf, hn]
      have ey : yOf (ndL R L) v.id = v.y := by simp only [yOf, hn]
      have ew : wOf (ndL R L) v.id = v.w := by simp only [wOf, hn]
      have eh : hOf (ndL R L) v.id = v.h := by simp only [hOf, hn]
      have eX : absX (ndL R L) (d + 1) v.id = absX (ndL R L) d i + v.x := by
        show absX _ d (parOf _ v.id) + xOf _ v.id = _
        rw [par_of hn, ex, ← hp]
      have eY : absY (ndL R L) (d + 1) v.id = absY (ndL R L) d i + v.y := by
        show absY _ d (parOf _ v.id) + yOf _ v.id = _
        rw [par_of hn, ey, ← hp]
      rw [ex, ey]
      refine seen_in h px py n (d + 1) v.id hwk (fun j hj => ?_) _ _ ?_ ?_
      · cases j with
        | zero =>
          refine ⟨d + 1, hwk, by show onOf (ndL R L) v.id = true; simp only [onOf, hn]; exact hon, ⟨?_, ?_, ?_⟩, ?_, ?_, ?_⟩
          all_goals (show _ ; simp only [upN]; first | rw [eX] | rw [eY] | skip)
          all_goals (first | rw [ew] | rw [eh] | skip)
          all_goals omega
        | succ j =>
          show Inn R L px py (upN (ndL R L) j (parOf (ndL R L) v.id))
          rw [par_of hn, hp]
          exact hI j (by omega)
      · rw [eX, IntWalk.i64_in _ (by omega)]; omega
      · rw [eY, IntWalk.i64_in _ (by omega)]; omega
theorem seen_up (h : Good R L) : ∀ (n d : Nat) (i lx ly : Int), Way (ndL R L) d i → ∃ j, Way (ndL R L) (d + j) (seenB (ndL R L) n i lx ly) ∧ upN (ndL R L) j (seenB (ndL R L) n i lx ly) = i
  | 0, d, i, lx, ly, hw => ⟨0, hw, rfl⟩
  | n + 1, d, i, lx, ly, hw => by
    obtain ⟨di, hd⟩ := hw.there
    simp only [seenB, hd]
    cases hf : di.kids.reverse.find? (hitB (ndL R L) lx ly) with
    | none => dsimp only; rw [ndL_id hd]; exact ⟨0, hw, rfl⟩
    | some c =>
      dsimp only
      have hk : c ∈ kidsL L i := by rw [← (ndL_some hd).2]; exact List.mem_reverse.1 (List.mem_of_find?_eq_some hf)
      obtain ⟨v, hv, hc, hp, hn⟩ := kid_of h hk
      obtain ⟨j, h1, h2⟩ := seen_up h n (d + 1) c (IntKind.i64.wrap (lx - xOf (ndL R L) c)) (IntKind.i64.wrap (ly - yOf (ndL R L) c)) (h.kid_way hw hk)
      refine ⟨j + 1, by rw [show d + (j + 1) = d + 1 + j by omega]; exact h1, ?_⟩
      rw [upN_snoc, h2, par_of hn, hp]
theorem way_up {nd : Int → Option Nd} : ∀ (j m : Nat) (i : Int), Way nd m i → j ≤ m → Way nd (m - j) (upN nd j i)
  | 0, m, i, hw, _ => hw
  | j + 1, 0, i, hw, hj => by omega
  | j + 1, m + 1, i, ⟨_, d, hd, hw⟩, hj => by
    rw [show m + 1 - (j + 1) = m - j by omega]
    show Way nd _ (upN nd j (parOf nd i))
    rw [par_of hd]
    exact way_up j m _ hw (by omega)
theorem view_of {nd : Int → Option Nd} (h0 : onOf nd 0 = true) : ∀ (m : Nat) (i : Int), Way nd m i → (∀ j, j < m → onOf nd (upN nd j i) = true) → viewB nd m i = true
  | 0, i, hw, _ => by show onOf nd i = true; rw [hw.1]; exact h0
  | m + 1, i, ⟨_, d, hd, hw⟩, hj => by
    show (onOf nd i && viewB nd m (parOf nd i)) = true
    rw [Bool.and_eq_true]
    refine ⟨hj 0 (by omega), view_of h0 m _ (by rw [par_of hd]; exact hw) (fun j hj' => hj (j + 1) (by omega))⟩
/-- A tree with the same windows, kids in another order. -/
def WinSame (nd nd' : Int → Option Nd) : Prop := ∀ i, (nd' i).map (·.win) = (nd i).map (·.win)
theorem WinSame.hit {nd nd' : Int → Option Nd} (h : WinSame nd nd') (px py c : Int) : hitB nd' px py c = hitB nd px py c ∧ xOf nd' c = xOf nd c ∧ yOf nd' c = yOf nd c ∧ parOf nd' c = parOf nd c := by
  have hc := h c
  unfold hitB onOf xOf yOf wOf hOf parOf
  cases h1 : nd c with
  | none =>
    rw [h1] at hc
    cases h2 : nd' c with
    | none => exact ⟨rfl, rfl, rfl, rfl⟩
    | some d' => rw [h2] at hc; cases hc
  | some d =>
    rw [h1] at hc
    cases h2 : nd' c with
    | none => rw [h2] at hc; cases hc
    | some d' =>
      rw [h2] at hc
      simp at hc
      simp only [hc]
      exact ⟨trivial, trivial, trivial, trivial⟩
theorem win_upd {nd : Int → Option Nd} {q : Int} {dp : Nd} (hdp : nd q = some dp) (ks : List Int) : WinSame nd (upd nd q (some ⟨dp.win, ks⟩)) := fun i => by
  unfold upd
  by_cases hi : i = q
  · rw [if_pos hi, hi, hdp]; rfl
  · rw [if_neg hi]
/-- What is seen stays seen when a window on its way up is raised. -/
theorem seen_raise (h : Good R L) {v : Win} (hv : v ∈ L) {dp : Nd} (hdp : ndL R L v.par = some dp) {nd' : Int → Option Nd} (hn' : nd' = upd (ndL R L) v.par (some ⟨dp.win, strike v.id dp.kids ++ [v.id]⟩)) :
    ∀ (n d : Nat) (i lx ly : Int), Way (ndL R L) d i → (∃ j m, j < m ∧ Way (ndL R L) m (seenB (ndL R L) n i lx ly) ∧ upN (ndL R L) j (seenB (ndL R L) n i lx ly) = v.id) → seenB nd' n i lx ly = seenB (ndL R L) n i lx ly
  | 0, d, i, lx, ly, _, _ => rfl
  | n + 1, d, i, lx, ly, hw, hC => by
    have hsame : WinSame (ndL R L) nd' := by rw [hn']; exact win_upd hdp _
    obtain ⟨di, hd⟩ := hw.there
    have hhit : hitB nd' lx ly = hitB (ndL R L) lx ly := funext fun c => (hsame.hit lx ly c).1
    obtain ⟨mv, hmv⟩ := h.way v hv
    obtain ⟨mp, rfl, hmp⟩ := own_way h hv hmv
    by_cases hi : i = v.par
    · subst hi
      have hdd : di = dp := by rw [hdp] at hd; injection hd with hd; exact hd.symm
      subst hdd
      have hd1 : nd' v.par = some ⟨di.win, strike v.id di.kids ++ [v.id]⟩ := by rw [hn']; unfold upd; rw [if_pos rfl]
      have hdm := hw.det hmp
      subst hdm
      simp only [seenB, hd] at hC ⊢
      cases hf : di.kids.reverse.find? (hitB (ndL R L) lx ly) with
      | none =>
        rw [hf] at hC
        dsimp only at hC
        rw [ndL_id hd] at hC
        obtain ⟨j, m, hj, h1, h2⟩ := hC
        have := h1.det hw
        subst this
        have h3 := way_up j m _ h1 (by omega)
        rw [h2] at h3
        have := h3.det hmv
        omega
      | some c =>
        rw [hf] at hC
        dsimp only at hC
        have hk : c ∈ kidsL L v.par := by rw [← (ndL_some hd).2]; exact List.mem_reverse.1 (List.mem_of_find?_eq_some hf)
        have hh : hitB (ndL R L) lx ly c = true := List.find?_some hf
        have hwk := h.kid_way hw hk
        obtain ⟨j2, h3, h4⟩ := seen_up h n (d + 1) c (IntKind.i64.wrap (lx - xOf (ndL R L) c)) (IntKind.i64.wrap (ly - yOf (ndL R L) c)) hwk
        have hC' := hC
        obtain ⟨j, m, hj, h1, h2⟩ := hC
        have hm := h1.det h3
        have h5 := way_up j m _ h1 (by omega)
        rw [h2] at h5
        have h6 := h5.det hmv
        have hjj : j = j2 := by omega
        subst hjj
        have hcv : c = v.id := h4.symm.trans h2
        have ih := seen_raise h hv hdp hn' n (d + 1) c (IntKind.i64.wrap (lx - xOf (ndL R L) c)) (IntKind.i64.wrap (ly - yOf (ndL R L) c)) hwk hC'
        rw [hd1, hhit]
        dsimp only
        rw [List.reverse_append, List.reverse_cons, List.reverse_nil, List.nil_append, List.singleton_append, List.find?_cons, ← hcv, hh]
        dsimp only
        rw [(hsame.hit lx ly c).2.1, (hsame.hit lx ly c).2.2.1]
        exact ih
    · have hd1 : nd' i = some di := by rw [hn']; unfold upd; rw [if_neg hi]; exact hd
      simp only [seenB, hd] at hC ⊢
      rw [hd1, hhit]
      dsimp only
      cases hf : di.kids.reverse.find? (hitB (ndL R L) lx ly) with
      | none => rfl
      | some c =>
        rw [hf] at hC
        dsimp only at hC ⊢
        have hk : c ∈ kidsL L i := by rw [← (ndL_some hd).2]; exact List.mem_reverse.1 (List.mem_of_find?_eq_some hf)
        rw [(hsame.hit lx ly c).2.1, (hsame.hit lx ly c).2.2.1]
        exact seen_raise h hv hdp hn' n (d + 1) c _ _ (h.kid_way hw hk) hC
end
end Go.Proofs.Ytphmlfklmleafaa
