/- Starts and new sizes: both sides answer the same; the laws' example. -/
import Derived.Test.YtdmoncpeoaoppaaFlD
import Derived.Test.YtdmoncpeoaoppaaFlH
import Derived.Test.YtdmoncpeoaoppaaFlE
import Derived.Test.YtdmoncpeoaoppaaFlF
import Derived.Test.YtdmoncpeoaoppaaGeoH
namespace Go.Proofs.Ytdmoncpeoaoppaa.Fl
open Go.RowKit Sz
/-- Where a client comes to be. -/
def StartP (o v : Rc) (hh : Hn) (x t : Int) (z : Rc) : Prop := ∃ n a b, z = startR (ownR o (workR v)) (workR v) a b ∧ NormP hh n ∧ FitP n (min x (workR v).w) (min t (workR v).h) a b
def SizeP (r : Rc) (hh : Hn) (dx dt : Int) (z : Rc) : Prop := (rightR r = false → z = zeroR) ∧ (rightR r = true → ∃ n a b, z = sizedR r a b ∧ NormP hh n ∧ FitP n (r.w + spanI dx (-65535) 65535) (r.h + spanI dt (-65535) 65535) a b)
theorem StartP.one {o v : Rc} {hh : Hn} {x t : Int} {z y : Rc} (h : StartP o v hh x t z) (k : StartP o v hh x t y) : z = y := by
  obtain ⟨n, a, b, h1, h2, h3⟩ := h
  obtain ⟨m, c, d, k1, k2, k3⟩ := k
  have := h2.one k2
  subst this
  obtain ⟨e1, e2⟩ := h3.one k3
  rw [h1, k1, e1, e2]
theorem SizeP.one {r : Rc} {hh : Hn} {x t : Int} {z y : Rc} (h : SizeP r hh x t z) (k : SizeP r hh x t y) : z = y := by
  cases hr : rightR r
  · rw [h.1 hr, k.1 hr]
  · obtain ⟨n, a, b, h1, h2, h3⟩ := h.2 hr
    obtain ⟨m, c, d, k1, k2, k3⟩ := k.2 hr
    have := h2.one k2
    subst this
    obtain ⟨e1, e2⟩ := h3.one k3
    rw [h1, k1, e1, e2]
theorem StartP.good {o v : Rc} {hh : Hn} {x t : Int} {z : Rc} (h : StartP o v hh x t z) : ∃ n, NormP hh n ∧ Gd n z.w z.h ∧ rightR z = true := by
  obtain ⟨n, a, b, h1, h2, h3⟩ := h
  obtain ⟨ha, hb⟩ := fit_b h2.right.1 h3
  obtain ⟨k1, k2, k3⟩ := start_right (o := ownR o (workR v)) (work_full v) ha hb
  rw [← h1] at k1 k2 k3
  exact ⟨n, h2, by rw [k2, k3]; exact h3.good, k1⟩
theorem SizeP.good {r : Rc} {hh : Hn} {x t : Int} {z : Rc} (h : SizeP r hh x t z) (hr : rightR r = true) : ∃ n, NormP hh n ∧ Gd n z.w z.h ∧ rightR z = true := by
  obtain ⟨n, a, b, h1, h2, h3⟩ := h.2 hr
  obtain ⟨ha, hb⟩ := fit_b h2.right.1 h3
  obtain ⟨k1, k2, k3⟩ := laid_right (x := r.x) (y := r.y) (a := a) (b := b) (by omega) (by omega)
  have h1 : z = laidR r.x r.y a b := h1
  rw [← h1] at k1 k2 k3
  exact ⟨n, h2, by rw [k2, k3]; exact h3.good, k1⟩
theorem start_z (o v : Rc) (hh : Hn) (x t : Int) (w : World) : Calls Try.prog 9 #[rcV o, rcV v, hnV hh, .int .i64 x, .int .i64 t] w fun e w' => ∃ z, e = .returned (rcV z) ∧ StartP o v hh x t z ∧ Below w.heap.size w w' :=
  (start_c o v hh x t w).mono fun _ _ ⟨n, a, b, h1, h2, h3, h4⟩ => ⟨_, h1, ⟨n, a, b, rfl, h2, h3⟩, h4⟩
theorem rstart_z {o v : Rc} {hh : Hn} {x t : Int} {z : Rc} (h : StartP o v hh x t z) (w : World) : Calls Try.prog 10 #[rcV o, rcV v, hnV hh, .int .i64 x, .int .i64 t] w fun e w' => e = .returned (rcV z) ∧ Below w.heap.size w w' := by
  have hc : Calls Try.prog 10 #[rcV o, rcV v, hnV hh, .int .i64 x, .int .i64 t] w fun e w' => ∃ n a b, e = .returned (rcV (startR (ownR o (workR v)) (workR v) a b)) ∧ NormP hh n ∧ FitP n (min x (workR v).w) (min t (workR v).h) a b ∧ Below w.heap.size w w' := by
    cases hv : emptyR v <;> cases ho : emptyR o
    · exact rstart_00 o v hh x t w hv ho
    · exact rstart_01 o v hh x t w hv ho
    · exact rstart_10 o v hh x t w hv ho
    · exact rstart_11 o v hh x t w hv ho
  exact hc.mono fun _ _ ⟨n, a, b, h1, h2, h3, h4⟩ => ⟨by rw [h1, h.one ⟨n, a, b, rfl, h2, h3⟩], h4⟩
theorem resize_z (r : Rc) (hh : Hn) (x t : Int) (w : World) : Calls Try.prog 14 #[rcV r, hnV hh, .int .i64 x, .int .i64 t] w fun e w' => ∃ z, e = .returned (rcV z) ∧ SizeP r hh x t z ∧ Below w.heap.size w w' :=
  (resize_c r hh x t w).mono fun _ _ ⟨h1, h2, h3⟩ => by
    cases hr : rightR r
    · exact ⟨_, h1 hr, ⟨fun _ => rfl, fun k => absurd (hr.symm.trans k) (by decide)⟩, h3⟩
    · obtain ⟨n, a, b, k1, k2, k3⟩ := h2 hr
      exact ⟨_, k1, ⟨fun k => absurd (hr.symm.trans k) (by decide), fun _ => ⟨n, a, b, rfl, k2, k3⟩⟩, h3⟩
theorem rresize_z {r : Rc} {hh : Hn} {x t : Int} {z : Rc} (h : SizeP r hh x t z) (w : World) : Calls Try.prog 15 #[rcV r, hnV hh, .int .i64 x, .int .i64 t] w fun e w' => e = .returned (rcV z) ∧ Below w.heap.size w w' :=
  (rresize_c r hh x t w).mono fun _ _ ⟨h1, h2, h3⟩ => by
    cases hr : rightR r
    · exact ⟨by rw [h1 hr, h.1 hr], h3⟩
    · obtain ⟨n, a, b, k1, k2, k3⟩ := h2 hr
      exact ⟨by rw [k1, h.one ⟨fun k => absurd (hr.symm.trans k) (by decide), fun _ => ⟨n, a, b, rfl, k2, k3⟩⟩], h3⟩
theorem ex_zero {n : Hn} {a b : Int} (hn : NormP ⟨0, 0, 0, 0, 0, 0, 0, 0, 0, 0, 0, 0⟩ n) (k : FitP n 30 20 a b) : a = 30 ∧ b = 20 := by
  have e0 : bounded ⟨0, 0, 0, 0, 0, 0, 0, 0, 0, 0, 0, 0⟩ = ⟨1, 1, 0, 0, 0, 0, 1, 1, 0, 0, 0, 0⟩ := by
    unfold bounded
    rw [if_neg (by decide)]
    exact Hn.same (by decide) (by decide) (by decide) (by decide) (by decide) (by decide) (by decide) (by decide) (by decide) (by decide) (by decide) (by decide)
  have G : ∀ x y, Gd ⟨1, 1, 0, 0, 0, 0, 1, 1, 0, 0, 0, 0⟩ x y ↔ (1 ≤ x ∧ x ≤ 65535) ∧ (1 ≤ y ∧ y ≤ 65535) := by
    intro x y
    unfold Gd wideS tallS newS Sd.S mx
    simp only []
    simp
    omega
  have hs : Some (bounded ⟨0, 0, 0, 0, 0, 0, 0, 0, 0, 0, 0, 0⟩) := by rw [e0]; exact ⟨30, 20, (G _ _).2 (by omega)⟩
  have e := hn.1 hs
  rw [e0] at e
  subst e
  have k1 : FitP ⟨1, 1, 0, 0, 0, 0, 1, 1, 0, 0, 0, 0⟩ 30 20 30 20 := by
    have e1 : spanI 30 0 65535 = 30 := by decide
    have e2 : spanI 20 0 65535 = 20 := by decide
    unfold FitP; rw [e1, e2]
    exact ⟨.self ⟨20, (G _ _).2 (by omega)⟩, .self ((G _ _).2 (by omega))⟩
  exact k.one k1
theorem ex_start {z : Rc} (h : StartP ⟨0, 0, 0, 0⟩ ⟨0, 0, 100, 100⟩ ⟨0, 0, 0, 0, 0, 0, 0, 0, 0, 0, 0, 0⟩ 30 20 z) : z = ⟨35, 40, 30, 20⟩ := by
  obtain ⟨n, a, b, h1, h2, h3⟩ := h
  have e1 : workR ⟨0, 0, 100, 100⟩ = ⟨0, 0, 100, 100⟩ := if_neg (by decide)
  have e2 : ownR ⟨0, 0, 0, 0⟩ ⟨0, 0, 100, 100⟩ = ⟨0, 0, 100, 100⟩ := if_pos (by decide)
  rw [e1] at h1 h3
  rw [e2] at h1
  obtain ⟨rfl, rfl⟩ := ex_zero h2 h3
  rw [h1]
  exact Rc.same (by decide +kernel) (by decide +kernel) (by decide +kernel) (by decide +kernel)
theorem ex_move : moveR ⟨35, 40, 30, 20⟩ ⟨0, 0, 100, 100⟩ (-500) 0 = ⟨-14, 40, 30, 20⟩ :=
  Rc.same (by decide +kernel) (by decide +kernel) (by decide +kernel) (by decide +kernel)
theorem rect_c (x y a b : Int) (w : World) : Calls Try.prog 36 #[.int .i64 x, .int .i64 y, .int .i64 a, .int .i64 b] w fun e w' => e = .returned (rcV ⟨x, y, a, b⟩) ∧ Below w.heap.size w w' := by
  go_enter Try.func36, Try.ntmps36
  go_wp2
  all_goals (go_returns; exact ⟨rfl, by repeat' (first | (with_reducible exact Below.refl _ _) | (with_reducible assumption) | (with_reducible refine Below.alloc ?_ ?_ _) | (with_reducible refine Below.drew ?_) | (with_reducible refine Below.setCell ?_ ?_ _) | (with_reducible refine Below.on (by with_reducible assumption) ?_ ?_) | go_size)⟩)
set_option maxHeartbeats 4000000 in
theorem awake_c (w : World) : Calls Try.prog 11 #[] w fun e w' => e = .returned (.bool true) ∧ Below w.heap.size w w' := by
  have HS := Lib.hid (fun W => (start_z ⟨0, 0, 0, 0⟩ ⟨0, 0, 100, 100⟩ ⟨0, 0, 0, 0, 0, 0, 0, 0, 0, 0, 0, 0⟩ 30 20 W).mono (R' := fun e w' => e = .returned (rcV ⟨35, 40, 30, 20⟩) ∧ Below W.heap.size W w') (by rintro e w1 ⟨z, rfl, hz, hb⟩; rw [ex_start hz]; exact ⟨rfl, hb⟩))
  have HM := Lib.hid (fun W => move_c ⟨35, 40, 30, 20⟩ ⟨0, 0, 100, 100⟩ (-500) 0 W)
  rw [ex_move] at HM
  have HB0 := Below.refl w.heap.size w
  go_enter Try.func11, Try.ntmps11
  go_wp2_with fail
  with_reducible refine (rect_c _ _ _ _ _).mono ?_
  rintro e w1 ⟨rfl, hb⟩
  have HB1 := bnext HB0 hb HB0.size
  go_wp2_with fail
  with_reducible refine (rect_c _ _ _ _ _).mono ?_
  rintro e w2 ⟨rfl, hb⟩
  have HB2 := bnext HB1 hb HB1.size
  go_wp2_with fail
  with_reducible refine (HS.out _).mono ?_
  rintro e w3 ⟨rfl, hb⟩
  have HB3 := bnext HB2 hb HB2.size
  go_wp2_with fail
  with_reducible refine (rect_c _ _ _ _ _).mono ?_
  rintro e w4 ⟨rfl, hb⟩
  have HB4 := bnext HB3 hb HB3.size
  go_wp2_with fail
  with_reducible refine (rect_c _ _ _ _ _).mono ?_
  rintro e w5 ⟨rfl, hb⟩
  have HB5 := bnext HB4 hb HB4.size
  go_wp2_with fail
  with_reducible refine (rect_c _ _ _ _ _).mono ?_
  rintro e w6 ⟨rfl, hb⟩
  have HB6 := bnext HB5 hb HB5.size
  go_wp2_with fail
  with_reducible refine (HM.out _).mono ?_
  rintro e w7 ⟨rfl, hb⟩
  have HB7 := bnext HB6 hb HB6.size
  go_wp2_with fail
  with_reducible refine (rect_c _ _ _ _ _).mono ?_
  rintro e w8 ⟨rfl, hb⟩
  have HB8 := bnext HB7 hb HB7.size
  go_wp2_with fail
  go_ret
  exact ⟨rfl, HB8⟩
end Go.Proofs.Ytdmoncpeoaoppaa.Fl
