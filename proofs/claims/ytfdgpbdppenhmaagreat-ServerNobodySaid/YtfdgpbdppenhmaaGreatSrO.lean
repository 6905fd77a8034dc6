/- A display's answer, Do, walked. -/
import Derived.Test.YtfdgpbdppenhmaaGreatSrN
namespace Go.Proofs.YtfdgpbdppenhmaaGreat
open Go.RowKit Go.Shelf Go.Maps
section
variable {w w' : World} {s : Nat} {Y : Yl} {X : Xs} {k m : Nat}
/-- What answer answers, and leaves. -/
def Xs.answer (X : Xs) (a : Int) (q : Rq) : Int × Int × Xs := if q.kind = 1 then X.create a q else (0, X.other a q)
set_option maxRecDepth 100000 in
set_option maxHeartbeats 8000000 in
theorem answer_c (h : Srv w s Y X k) (hV : V0 X k) (hk : k + 1 ≤ 1000) {a : Int} (ha : 0 ≤ a) (q : Rq) (hi : I64 q.win) (ho : I64 q.other) (z1 : q.p.name.size ≤ maxLen) (z2 : q.p.typ.size ≤ maxLen) :
    Calls Tryz.prog 46 #[srvP s, .int .i64 a, rqV q] w fun ex w' => ex = .returned (.tuple #[.int .i64 (X.answer a q).1, .int .i64 (X.answer a q).2.1]) ∧ SrvTo w s Y (X.answer a q).2.2 (k + 1) w' := by
  obtain ⟨wb, hwb⟩ : ∃ wb, wb = w.alloc (.cells #[.int .i64 q.kind, .int .i64 q.win, .int .i64 q.other, .int .i64 q.x, .int .i64 q.y, .int .i64 q.a, .int .i64 q.e, .string q.p.name, .string q.p.typ, .string q.p.data] 37) := ⟨_, rfl⟩
  have hbel : Below w.heap.size w wb := by rw [hwb]; exact (Below.refl _ _).alloc (Nat.le_refl _) _
  have hbx : Blk wb w.heap.size 37 (rqL q) := by rw [hwb]; exact Blk.new w _ _
  have hs := h.next hbel
  obtain ⟨x0, x1, x2, x3, x4, x5, x6, x7, x8, x9⟩ := hbx.c10
  have HW := Lib.hid hwb
  unfold Xs.answer
  by_cases h1 : q.kind = 1
  · rw [if_pos h1]
    have hC := (screate_c hs hV hk ha q ho).mono (fun ex w' hh => (⟨hh.1, SrvTo.after hbel hh.2⟩ : ex = .returned (.tuple #[.int .i64 (X.create a q).1, .int .i64 (X.create a q).2.1]) ∧ SrvTo w s Y (X.create a q).2.2 (k + 1) w'))
    have HC := Lib.hid hC
    rw [h1] at x0
    clear h hV hs hbx hbel ha h1 hC
    go_enter Tryz.func46, Tryz.ntmps46
    go_upto_region 1 with fail
    rw [← HW.out]
    clear hwb
    go_wp2_with (go_at_call 68; ((with_reducible refine (HC.out).mono ?_); rintro e w3 ⟨rfl, T3⟩); have HZ := Lib.hid T3; clear T3)
    go_ret2
    exact ⟨rfl, HZ.out⟩
  · rw [if_neg h1]
    have h1' : (q.kind == 1) = false := by simpa using h1
    unfold Xs.other
    cases hm : isManage q.kind with
    | true =>
      rw [if_pos rfl]
      have hC := (manage_c hs hV hk ha q hi ho).mono (fun ex w' hh => (⟨hh.1, SrvTo.after hbel hh.2⟩ : ex = .returned (.int .i64 (X.manage a q).1) ∧ SrvTo w s Y (X.manage a q).2 (k + 1) w'))
      have HC := Lib.hid hC
      have hk3 : q.kind = 9 ∨ q.kind = 11 ∨ q.kind = 8 := by
        unfold isManage at hm
        simpa using hm
      have hk4 : ((q.kind == 9) = true) ∨ ((q.kind == 9) = false ∧ (q.kind == 11) = true) ∨ ((q.kind == 9) = false ∧ (q.kind == 11) = false ∧ (q.kind == 8) = true) := by
        rcases hk3 with e | e | e
        · exact .inl (by simp [e])
        · exact .inr (.inl (by simp [e]))
        · exact .inr (.inr (by simp [e]))
      clear h hV hs hbx hbel ha h1 hC hm hk3
      rcases hk4 with k1 | ⟨k1, k2⟩ | ⟨k1, k2, k3⟩
      all_goals
        go_enter Tryz.func46, Tryz.ntmps46
        go_upto_region 1 with fail
        rw [← HW.out]
        clear hwb
        go_wp2_with (go_at_call 69; ((with_reducible refine (HC.out).mono ?_); rintro e w3 ⟨rfl, T3⟩); have HZ := Lib.hid T3; clear T3)
        go_ret2
        exact ⟨rfl, HZ.out⟩
    | false =>
      rw [if_neg (by decide)]
      have hC := (change_c hs hV hk ha q hi z1 z2).mono (fun ex w' hh => (⟨hh.1, SrvTo.after hbel hh.2⟩ : ex = .returned (.int .i64 (X.change a q).1) ∧ SrvTo w s Y (X.change a q).2 (k + 1) w'))
      have HC := Lib.hid hC
      have hk3 : (q.kind == 9) = false ∧ (q.kind == 11) = false ∧ (q.kind == 8) = false := by
        unfold isManage at hm
        simpa using hm
      obtain ⟨k1, k2, k3⟩ := hk3
      clear h hV hs hbx hbel ha h1 hC hm
      go_enter Tryz.func46, Tryz.ntmps46
      go_upto_region 1 with fail
      rw [← HW.out]
      clear hwb
      go_wp2_with (go_at_call 70; ((with_reducible refine (HC.out).mono ?_); rintro e w3 ⟨rfl, T3⟩); have HZ := Lib.hid T3; clear T3)
      go_ret2
      exact ⟨rfl, HZ.out⟩
theorem do_no {p : Value} (h : NoSrv w p) (a : Int) (q : Rq) : Calls Tryz.prog 20 #[p, .int .i64 a, rqV q] w fun ex w' => ex = .returned (.tuple #[.int .i64 0, .int .i64 3]) ∧ Below w.heap.size w w' := by
  obtain ⟨wb, hwb⟩ : ∃ wb, wb = w.alloc (.cells #[.int .i64 q.kind, .int .i64 q.win, .int .i64 q.other, .int .i64 q.x, .int .i64 q.y, .int .i64 q.a, .int .i64 q.e, .string q.p.name, .string q.p.typ, .string q.p.data] 37) := ⟨_, rfl⟩
  have hbel : Below w.heap.size w wb := by rw [hwb]; exact (Below.refl _ _).alloc (Nat.le_refl _) _
  have HN := Lib.hid (windows_no (h.next hbel))
  have HW := Lib.hid hwb
  have HB := Lib.hid hbel
  clear h hbel
  go_enter Tryz.func20, Tryz.ntmps20
  go_upto_region 1 with fail
  rw [← HW.out]
  clear hwb
  go_wp2_with (go_at_call 43; ((with_reducible refine (HN.out).mono ?_); rintro e w3 ⟨rfl, rfl⟩))
  go_ret2
  exact ⟨rfl, HB.out⟩
set_option maxRecDepth 100000 in
set_option maxHeartbeats 8000000 in
theorem do_c (h : Srv w s Y X k) (hV : V X k) (hk : k + 1 ≤ 1000) {a : Int} (ha : I64 a) (q : Rq) (hi : I64 q.win) (ho : I64 q.other) (z1 : q.p.name.size ≤ maxLen) (z2 : q.p.typ.size ≤ maxLen) :
    Calls Tryz.prog 20 #[srvP s, .int .i64 a, rqV q] w fun ex w' => ex = .returned (.tuple #[.int .i64 (X.do a q).1, .int .i64 (X.do a q).2.1]) ∧ SrvTo w s Y (X.do a q).2.2 (k + 1) w' := by
  obtain ⟨wb, hwb⟩ : ∃ wb, wb = w.alloc (.cells #[.int .i64 q.kind, .int .i64 q.win, .int .i64 q.other, .int .i64 q.x, .int .i64 q.y, .int .i64 q.a, .int .i64 q.e, .string q.p.name, .string q.p.typ, .string q.p.data] 37) := ⟨_, rfl⟩
  have hbel : Below w.heap.size w wb := by rw [hwb]; exact (Below.refl _ _).alloc (Nat.le_refl _) _
  have hbx : Blk wb w.heap.size 37 (rqL q) := by rw [hwb]; exact Blk.new w _ _
  have hs := h.next hbel
  obtain ⟨x0, x1, x2, x3, x4, x5, x6, x7, x8, x9⟩ := hbx.c10
  have HW := Lib.hid hwb
  have HB := Lib.hid hbel
  have HN := Lib.hid (windows_c hs)
  have hA := acts_c hs a
  have HQ := Lib.hid ((SrvTo.same h hbel).more (Nat.le_succ k))
  obtain ⟨ac, hac⟩ : ∃ ac, ac = (if a = 0 then X.G else decide (0 < a)) := ⟨_, rfl⟩
  rw [← hac] at hA
  have HA := Lib.hid hA
  have hwr : X.wrong a q.kind = (!ac || decide (q.kind < 1) || decide (11 < q.kind)) := by
    unfold Xs.wrong
    rw [hac]
    by_cases h0 : a = 0
    · subst h0; simp
    · by_cases h1 : a < 0
      · have : ¬ (0 < a) := by omega
        simp [h0, h1, this]
      · have : 0 < a := by omega
        simp [h0, h1, this]
  cases hw : X.wrong a q.kind with
  | true =>
    rw [show X.do a q = (0, 1, X) by unfold Xs.do; rw [if_pos hw]]
    rw [hw] at hwr
    have hcs : ac = false ∨ (ac = true ∧ q.kind < 1) ∨ (ac = true ∧ ¬ q.kind < 1 ∧ 11 < q.kind) := by
      cases ac with
      | false => exact .inl rfl
      | true =>
        by_cases h1 : q.kind < 1
        · exact .inr (.inl ⟨rfl, h1⟩)
        · refine .inr (.inr ⟨rfl, h1, ?_⟩)
          simpa [h1] using hwr
    clear h hV hs hbx hbel ha hA hac hwr hw
    rcases hcs with rfl | ⟨rfl, h1⟩ | ⟨rfl, h1, h2⟩
    all_goals
      go_enter Tryz.func20, Tryz.ntmps20
      go_upto_region 1 with fail
      rw [← HW.out]
      clear hwb
      go_wp2_with (first
        | (go_at_call 43; ((with_reducible refine (HN.out).mono ?_); rintro e w3 ⟨rfl, rfl⟩))
        | (go_at_call 45; ((with_reducible refine (HA.out).mono ?_); rintro e w3 ⟨rfl, rfl⟩)))
      go_ret2
      exact ⟨rfl, HQ.out⟩
  | false =>
    rw [hw] at hwr
    have hz : ac = true ∧ ¬ q.kind < 1 ∧ ¬ 11 < q.kind := by
      cases ac with
      | false => simp at hwr
      | true =>
        refine ⟨rfl, ?_, ?_⟩
        · intro h1; simp [h1] at hwr
        · intro h1; simp [h1] at hwr
    obtain ⟨z3, z4, z5⟩ := hz
    have ha0 : 0 ≤ a := by
      by_cases h1 : a = 0
      · omega
      · rw [z3, if_neg h1] at hac
        have := of_decide_eq_true hac.symm
        omega
    have hX : (X.do a q) = ((X.answer a q).1, (X.answer a q).2.1, (X.answer a q).2.2.look) := by
      unfold Xs.do Xs.answer
      rw [if_neg (by rw [hw]; decide)]
      split
      · next h1 =>
        have hv := hV.created hk ha0 ha q ho
        rw [look_eq _ hv.foc]
      · rfl
    have hV1 : V0 (X.answer a q).2.2 (k + 1) := by
      unfold Xs.answer
      split
      · exact (hV.created hk ha0 ha q ho).toV0
      · exact hV.toV0.others hk a q hi ho
    have HC := Lib.hid (answer_c hs hV.toV0 hk ha0 q hi ho z1 z2)
    rw [hX]
    obtain ⟨n, hn⟩ : ∃ n, n = (X.answer a q).1 := ⟨_, rfl⟩
    obtain ⟨er, her⟩ : ∃ er, er = (X.answer a q).2.1 := ⟨_, rfl⟩
    obtain ⟨X1, hX1⟩ : ∃ X1, X1 = (X.answer a q).2.2 := ⟨_, rfl⟩
    rw [← hn, ← her, ← hX1] at HC ⊢
    rw [← hX1] at hV1
    have HV1 := Lib.hid hV1
    rw [z3] at HA
    clear h hV hs hbx hbel ha hA hac hwr hw ha0 hX hV1 hn her hX1 z3
    go_enter Tryz.func20, Tryz.ntmps20
    go_upto_region 1 with fail
    rw [← HW.out]
    clear hwb
    go_wp2_with (first
      | (go_at_call 43; ((with_reducible refine (HN.out).mono ?_); rintro e w3 ⟨rfl, rfl⟩))
      | (go_at_call 45; ((with_reducible refine (HA.out).mono ?_); rintro e w3 ⟨rfl, rfl⟩))
      | (go_at_call 46; ((with_reducible refine (HC.out).mono ?_); rintro e w4 ⟨rfl, Y1, S1, U1⟩); have HS := Lib.hid (And.intro S1 U1); clear S1 U1)
      | (go_at_call 47; ((with_reducible refine (keep_c HS.out.1 HV1.out.s HV1.out.f64).mono ?_); rintro e w5 ⟨rfl, T5⟩); have HZ := Lib.hid (SrvTo.after HB.out (SrvTo.trans HS.out.2 T5)); clear T5))
    go_ret2
    exact ⟨rfl, HZ.out⟩
end
end Go.Proofs.YtfdgpbdppenhmaaGreat
