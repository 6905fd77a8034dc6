/- Going up from what is seen, raising each (pure). -/
import Derived.Test.YtphmlfklmleafaaWeE
namespace Go.Proofs.Ytphmlfklmleafaa
open Go.RowKit Go.Shelf Go.Maps
theorem upN_same {nd nd' : Int → Option Nd} (h : ∀ c, parOf nd' c = parOf nd c) : ∀ (j : Nat) (i : Int), upN nd' j i = upN nd j i
  | 0, _ => rfl
  | j + 1, i => by
    show upN nd' j (parOf nd' i) = upN nd j (parOf nd i)
    rw [h i, upN_same h j]
/-- Where the way up from what is seen stands: at the number kk, j steps up. -/
structure GoUp (R : RT) (L : List Win) (n : Nat) (px py id : Int) (j m : Nat) (kk : Int) : Prop where
  sane : Sane R L 40
  len : L.length + 1 = n
  seen : seenB (ndL R L) n 0 px py = id
  way : Way (ndL R L) m id
  le : j ≤ m
  at_ : upN (ndL R L) j id = kk
section
variable {R : RT} {L : List Win} {n : Nat} {px py id : Int} {j m : Nat} {kk : Int}
theorem GoUp.start (S : Sane R L 40) (hs : seenB (ndL R L) (L.length + 1) 0 px py = id) : ∃ m, GoUp R L (L.length + 1) px py id 0 m id := by
  obtain ⟨m, h1, -⟩ := seen_up S.toGood (L.length + 1) 0 0 px py root_way
  rw [hs, Nat.zero_add] at h1
  exact ⟨m, S, rfl, hs, h1, Nat.zero_le _, rfl⟩
theorem GoUp.inn (h : GoUp R L n px py id j m kk) : ∀ i, i < m → Inn R L px py (upN (ndL R L) i id) := by
  obtain ⟨m', h1, h2⟩ := seen_in h.sane.toGood px py n 0 0 root_way (fun i hi => absurd hi (Nat.not_lt_zero _)) px py (by simp [absX]) (by simp [absY])
  rw [h.seen] at h1 h2
  rw [h.way.det h1]
  exact h2
theorem GoUp.view (h : GoUp R L n px py id j m kk) : viewB (ndL R L) m id = true :=
  view_of (by unfold onOf; rw [nd_root]; rfl) m id h.way fun i hi => by
    obtain ⟨_, _, h3, -⟩ := h.inn i hi
    exact h3
theorem GoUp.small (h : GoUp R L n px py id j m kk) : j ≤ 40 := by have := h.way.le; have := h.le; have := h.sane.len; omega
theorem WinSame.way {nd nd' : Int → Option Nd} (h : WinSame nd nd') : ∀ i d, nd i = some d → ∃ d', nd' i = some d' ∧ d'.win.par = d.win.par := fun i d hd => by
  have h1 := h i
  rw [hd] at h1
  cases h2 : nd' i with
  | none => rw [h2] at h1; cases h1
  | some d' =>
    rw [h2] at h1
    simp at h1
    exact ⟨d', rfl, by rw [h1]⟩
/-- One step up. -/
theorem GoUp.step (h : GoUp R L n px py id j m kk) (hk : kk ≠ 0) (hx : 0 ≤ px ∧ px < 100) (hy : 0 ≤ py ∧ py < 100) : ∃ v ∈ L, v.id = kk ∧ GoUp R (dropL v.id L ++ [v]) n px py id (j + 1) m v.par ∧
    ∃ X Y vb, Shown R L kk v true X Y true (kidsL L kk) vb ∧ (-65536 ≤ X ∧ X ≤ px ∧ px < X + v.w ∧ v.w ≤ 65536) ∧ -65536 ≤ Y ∧ Y ≤ py ∧ py < Y + v.h ∧ v.h ≤ 65536 := by
  have hj : j < m := by
    refine Nat.lt_of_le_of_ne h.le (fun e => ?_)
    have h1 := way_up j m id h.way h.le
    rw [h.at_, e, Nat.sub_self] at h1
    exact hk h1.1
  obtain ⟨m1, hw1, -, ⟨a1, a2, a3⟩, b1, b2, b3⟩ := h.inn j hj
  rw [h.at_] at hw1 a1 a2 a3 b1 b2 b3
  obtain ⟨d, hd⟩ := hw1.there
  have hn := h.sane.nums hd
  obtain ⟨h1, h2⟩ := getR_some (ndL_some hd).1
  obtain ⟨v, hv⟩ : ∃ v, v = d.win := ⟨_, rfl⟩
  rw [← hv] at h1 h2
  have hvm : v ∈ L := by
    rcases h2 with ⟨h2, _⟩ | ⟨_, h2⟩
    · exact absurd h2 hk
    · exact h2
  obtain ⟨m2, hw2, hsh⟩ := shown_some h.sane (i := kk) ⟨by omega, by omega⟩ hd
  have hmm := hw2.det hw1
  subst hmm
  rw [← hv] at hsh
  have ew : wOf (ndL R L) kk = v.w := by simp only [wOf, hd, hv]
  have eh : hOf (ndL R L) kk = v.h := by simp only [hOf, hd, hv]
  rw [ew] at a2 a3
  rw [eh] at b2 b3
  obtain ⟨S', hlen, ⟨dp, hdp, hnd⟩, -⟩ := raise_some h.sane hvm
  have hsame : WinSame (ndL R L) (ndL R (dropL v.id L ++ [v])) := by rw [hnd]; exact win_upd hdp _
  refine ⟨v, hvm, h1, ⟨S', by rw [hlen]; exact h.len, ?_, way_same hsame.way m id h.way, hj, ?_⟩, _, _, _, hsh, ?_, ?_⟩
  · exact (seen_raise h.sane.toGood hvm hdp hnd n 0 0 px py root_way ⟨j, m, hj, by rw [h.seen]; exact h.way, by rw [h.seen, h.at_, h1]⟩).trans h.seen
  · rw [upN_same (fun c => (hsame.hit 0 0 c).2.2.2), upN_snoc, h.at_, par_of hd, hv]
  · rw [IntWalk.i64_in _ (by omega)]; omega
  · rw [IntWalk.i64_in _ (by omega)]; omega
end
end Go.Proofs.Ytphmlfklmleafaa
