/- fitWidth, in the code: the width nearest to the one that is asked for, among those that have good heights. -/
import Derived.Test.YtdmoncpeoaoppaaSzG
import Derived.Test.YtdmoncpeoaoppaaSzH
namespace Go.Proofs.Ytdmoncpeoaoppaa
open Go.RowKit
namespace Sz
def Dn (h : Hn) (s : Sd) (n v : Int) (b : Bool) : Prop := b = decide (s.l ≤ v) ∧ ∃ m, v = downV s m ∧ m ≤ n ∧ ∀ z, WG h z → z ≤ n → z ≤ m
def Up (h : Hn) (s : Sd) (n v : Int) (b : Bool) : Prop := b = decide (v ≤ s.m) ∧ (∀ z, WG h z → n < z) ∧ ∃ m, v = upV s m ∧ n < m ∧ ∀ z, WG h z → m ≤ z
/-- What fitWidth tells. -/
def FwP (h : Hn) (n x : Int) (ok : Bool) : Prop := (ok = true ∧ Near (WG h) n x) ∨ (ok = false ∧ ∀ z, ¬ WG h z)
section
variable {h : Hn} {s : Sd} {n v : Int}
theorem Dn.start (h : Hn) (s : Sd) (n : Int) : Dn h s n (downV s n) (decide (s.l ≤ downV s n)) := ⟨rfl, n, rfl, Int.le_refl _, fun _ _ k => k⟩
theorem Dn.in_ (hb : Bd h) (hs : widthsS h = s) (d : Dn h s n v true) : s.S v ∧ 1 ≤ v ∧ v ≤ 65535 ∧ v ≤ n := by
  obtain ⟨d1, m, d2, d3, d4⟩ := d
  have ok := widths_ok hb
  rw [hs] at ok
  have hl : s.l ≤ v := of_decide_eq_true d1.symm
  have hv : s.S v := by rw [d2] at hl ⊢; exact down_in s ok.i1 ok.b2 m hl
  have h1 := widths_b hb (by rw [hs]; exact hv)
  have := (down_le s ok.i1 m).1
  exact ⟨hv, h1.1, h1.2, by omega⟩
theorem Dn.hit (hb : Bd h) (hs : widthsS h = s) (d : Dn h s n v true) (k : someB (heightsS h v) = true) : FwP h n v true := by
  have di := d.in_ hb hs
  obtain ⟨d1, m, d2, d3, d4⟩ := d
  have ok := widths_ok hb
  rw [hs] at ok
  have ho := heights_ok hb (by omega : 0 ≤ v) di.2.2.1
  refine .inl ⟨rfl, (wg_iff hb v).2 ⟨by rw [hs]; exact di.1, (some_iff _ ho.i1).1 k⟩, fun _ z hz hn => ?_, fun c => absurd c (by omega)⟩
  rw [d2]
  have hw := wg_w hb hz
  rw [hs] at hw
  exact down_most s ok.i1 ok.b2 m z hw (d4 z hz hn)
theorem Dn.miss (hb : Bd h) (hs : widthsS h = s) (d : Dn h s n v true) (k : someB (heightsS h v) = false) : Dn h s n (downV s (v - 1)) (decide (s.l ≤ downV s (v - 1))) := by
  have di := d.in_ hb hs
  obtain ⟨d1, m, d2, d3, d4⟩ := d
  have ok := widths_ok hb
  rw [hs] at ok
  have ho := heights_ok hb (by omega : 0 ≤ v) di.2.2.1
  refine ⟨rfl, v - 1, rfl, by omega, fun z hz hn => ?_⟩
  have hw := wg_w hb hz
  rw [hs] at hw
  have h1 := down_most s ok.i1 ok.b2 m z hw (d4 z hz hn)
  rw [← d2] at h1
  have h2 : z ≠ v := by
    rintro rfl
    obtain ⟨y, hy⟩ := ((wg_iff hb z).1 hz).2
    exact (none_iff _ ho.i1).1 k y hy
  omega
theorem Dn.out (hb : Bd h) (hs : widthsS h = s) (d : Dn h s n v false) : ∀ z, WG h z → n < z := by
  obtain ⟨d1, m, d2, d3, d4⟩ := d
  have ok := widths_ok hb
  rw [hs] at ok
  have hl := of_decide_eq_false d1.symm
  intro z hz
  rcases Int.lt_or_le n z with c | c
  · exact c
  · have hw := wg_w hb hz
    rw [hs] at hw
    have h1 := down_most s ok.i1 ok.b2 m z hw (d4 z hz c)
    rw [← d2] at h1
    have := hw.1
    omega
theorem Dn.up (hb : Bd h) (hs : widthsS h = s) (d : Dn h s n v false) : Up h s n (upV s (n + 1)) (decide (upV s (n + 1) ≤ s.m)) :=
  ⟨rfl, d.out hb hs, n + 1, rfl, by omega, fun z hz => by have := d.out hb hs z hz; omega⟩
theorem Up.in_ (hb : Bd h) (hs : widthsS h = s) (d : Up h s n v true) : s.S v ∧ 1 ≤ v ∧ v ≤ 65535 ∧ n < v := by
  obtain ⟨d1, -, m, d2, d3, d4⟩ := d
  have ok := widths_ok hb
  rw [hs] at ok
  have hl : v ≤ s.m := of_decide_eq_true d1.symm
  have hv : s.S v := by rw [d2] at hl ⊢; exact up_in s ok.i1 m hl
  have h1 := widths_b hb (by rw [hs]; exact hv)
  have := (up_ge s ok.i1 m).1
  exact ⟨hv, h1.1, h1.2, by omega⟩
theorem Up.hit (hb : Bd h) (hs : widthsS h = s) (d : Up h s n v true) (k : someB (heightsS h v) = true) : FwP h n v true := by
  have di := d.in_ hb hs
  obtain ⟨d1, -, m, d2, d3, d4⟩ := d
  have ok := widths_ok hb
  rw [hs] at ok
  have ho := heights_ok hb (by omega : 0 ≤ v) di.2.2.1
  refine .inl ⟨rfl, (wg_iff hb v).2 ⟨by rw [hs]; exact di.1, (some_iff _ ho.i1).1 k⟩, fun c => absurd c (by omega), fun _ z hz => ?_⟩
  rw [d2]
  have hw := wg_w hb hz
  rw [hs] at hw
  exact up_least s ok.i1 m z hw (d4 z hz)
theorem Up.miss (hb : Bd h) (hs : widthsS h = s) (d : Up h s n v true) (k : someB (heightsS h v) = false) : Up h s n (upV s (v + 1)) (decide (upV s (v + 1) ≤ s.m)) := by
  have di := d.in_ hb hs
  obtain ⟨d1, d0, m, d2, d3, d4⟩ := d
  have ok := widths_ok hb
  rw [hs] at ok
  have ho := heights_ok hb (by omega : 0 ≤ v) di.2.2.1
  refine ⟨rfl, d0, v + 1, rfl, by omega, fun z hz => ?_⟩
  have hw := wg_w hb hz
  rw [hs] at hw
  have h1 := up_least s ok.i1 m z hw (d4 z hz)
  rw [← d2] at h1
  have h2 : z ≠ v := by
    rintro rfl
    obtain ⟨y, hy⟩ := ((wg_iff hb z).1 hz).2
    exact (none_iff _ ho.i1).1 k y hy
  omega
theorem Up.out (hb : Bd h) (hs : widthsS h = s) (d : Up h s n v false) : FwP h n 0 false := by
  obtain ⟨d1, -, m, d2, d3, d4⟩ := d
  have ok := widths_ok hb
  rw [hs] at ok
  have hl := of_decide_eq_false d1.symm
  refine .inr ⟨rfl, fun z hz => ?_⟩
  have hw := wg_w hb hz
  rw [hs] at hw
  have h1 := up_least s ok.i1 m z hw (d4 z hz)
  rw [← d2] at h1
  have := hw.2.1
  omega
theorem none_fw (hb : Bd h) (k : someB (tallS h) = false) : FwP h n 0 false := by
  have ok := newS_ok hb.t
  exact .inr ⟨rfl, fun z ⟨y, hy⟩ => (none_iff _ ok.i1).1 k y hy.2.1⟩
end
/-- The world of the rounds. -/
def FwW (w : World) (h : Hn) (s : Sd) (g : Nat) (W : World) : Prop := HB W w.heap.size h ∧ SB W g s ∧ Below w.heap.size w W
theorem FwW.next {w : World} {h : Hn} {s : Sd} {g : Nat} {W W' : World} (a : FwW w h s g W) (hb : Below W.heap.size W W') : FwW w h s g W' := ⟨a.1.next hb, a.2.1.next hb, bnext a.2.2 hb a.2.2.size⟩
end Sz
end Go.Proofs.Ytdmoncpeoaoppaa
