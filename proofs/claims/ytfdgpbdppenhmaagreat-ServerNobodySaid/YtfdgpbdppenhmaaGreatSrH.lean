/- A display's calls that write, walked: create, save. -/
import Derived.Test.YtfdgpbdppenhmaaGreatSrG
import Derived.Test.YtfdgpbdppenhmaaGreatSrV
namespace Go.Proofs.YtfdgpbdppenhmaaGreat
open Go.RowKit Go.Shelf Go.Maps
theorem makF_of {M : List Md} {i : Int} (h : inM M i) : makF M i = some (ownM i M) := by
  obtain ⟨m, h1, -⟩ := mfind_some h
  unfold makF ownM
  rw [h1]; rfl
theorem makF_no {M : List Md} {i : Int} (h : ¬ inM M i) : makF M i = none := by unfold makF; rw [mfind_none.2 h]; rfl
theorem makF_drop (M : List Md) (i : Int) : makF (dropM i M) = upd (makF M) i none := by
  funext j
  unfold makF upd
  rw [mfind_drop]
  split <;> rfl
theorem savF_at (M : List Md) (j : Int) : savF M j = match findM j M with
    | some m => if m.sav = true then some () else none
    | none => none := by
  unfold savF savM
  cases findM j M <;> rfl
theorem savF_drop (M : List Md) (i : Int) : savF (dropM i M) = upd (savF M) i none := by
  funext j
  rw [savF_at, mfind_drop]
  unfold upd
  by_cases hji : j = i
  · rw [if_pos hji, if_pos hji]
  · rw [if_neg hji, if_neg hji, savF_at]
theorem makF_sav (M : List Md) (i : Int) (on : Bool) : makF (setSav i on M) = makF M := by
  funext j
  unfold makF
  rw [mfind_sav, Option.map_map]
  congr 1
  funext m
  simp only [Function.comp]
  split <;> rfl
theorem savF_sav {M : List Md} {i : Int} (h : inM M i) (on : Bool) : savF (setSav i on M) = upd (savF M) i (if on = true then some () else none) := by
  funext j
  rw [savF_at, mfind_sav]
  unfold upd
  by_cases hji : j = i
  · subst hji
    obtain ⟨m, h1, -, h2⟩ := mfind_some h
    rw [h1, if_pos rfl]
    simp [h2]
  · rw [if_neg hji, savF_at]
    cases hf : findM j M with
    | none => rfl
    | some m =>
      have := (mfind_mem hf).2
      have hne : ¬ m.win = i := fun e => hji (by omega)
      simp [hne]
theorem makF_snoc {M : List Md} {i : Int} (h : ¬ inM M i) (a : Int) : makF (M ++ [⟨i, a, false⟩]) = upd (makF M) i (some a) := by
  funext j
  unfold makF upd
  rw [mfind_snoc _ h]
  split <;> rfl
theorem savF_snoc {M : List Md} {i : Int} (h : ¬ inM M i) (a : Int) : savF (M ++ [⟨i, a, false⟩]) = savF M := by
  funext j
  rw [savF_at, savF_at, mfind_snoc _ h]
  by_cases hji : j = i
  · subst hji
    rw [if_pos rfl, mfind_none.2 h]
    rfl
  · rw [if_neg hji]
section
variable {w w' : World} {s : Nat} {Y : Yl} {X : Xs} {k m : Nat}
theorem Srv.tree_to (h : Srv w s Y X k) {R' : RT} {L' : List Win} (hc : CT R' L' Y.t Y.l w w') : SrvTo w s Y { X with R := R', L := L' } k w' := by
  obtain ⟨col, h⟩ := h
  obtain ⟨l', h1, h2⟩ := h.treed hc
  exact ⟨_, ⟨_, h1⟩, h2⟩
theorem Srv.put_mak (h : Srv w s Y X k) {i : Int} (hi : I64 i) (hk : k < 1048576) (hno : ¬ inM X.M i) (a : Int) : ∃ w', (Instr.mapUpdate 77 (.map (some Y.mp)) (.int .i64 i) (.int .i64 a)).run Tryz.prog w = .ok () w' ∧ SrvTo w s Y { X with M := X.M ++ [⟨i, a, false⟩] } (k + 1) w' := by
  obtain ⟨col, h⟩ := h
  obtain ⟨n, hn, hm⟩ := h.mak
  obtain ⟨w', h1, h2, h3⟩ := hm.put Tryz.underlying77 hi (by omega) a
  rw [makF_no hno] at h2
  obtain ⟨h4, h5⟩ := h.makers (Nat.le_succ k) (show n + 1 ≤ k + 1 by omega) h2 h3
  refine ⟨w', h1, Y, ⟨paintC w col 3, ?_⟩, h5⟩
  rw [makF_snoc hno, savF_snoc hno]
  exact h4.as rfl rfl rfl rfl
theorem Srv.put_sav (h : Srv w s Y X k) {i : Int} (hi : I64 i) (hk : k < 1048576) (hin : inM X.M i) : ∃ w', (Instr.mapUpdate 78 (.map (some Y.sp)) (.int .i64 i) (.agg #[])).run Tryz.prog w = .ok () w' ∧ SrvTo w s Y { X with M := setSav i true X.M } (k + 1) w' := by
  obtain ⟨col, h⟩ := h
  obtain ⟨n, hn, hm⟩ := h.sav
  obtain ⟨w', h1, h2, h3⟩ := hm.put Tryz.underlying78 hi (by omega) ()
  obtain ⟨h4, h5⟩ := h.saved (k' := k + 1) (Nat.le_succ k) (by split <;> omega) h2 h3
  refine ⟨w', h1, Y, ⟨paintC w col 4, ?_⟩, h5⟩
  rw [makF_sav, savF_sav hin, if_pos rfl]
  exact h4.as rfl rfl rfl rfl
theorem Srv.del_sav (h : Srv w s Y X k) {i : Int} (hi : I64 i) (hin : inM X.M i) (ty : TypeId) : ∃ w', (Builtin.delete_ #[78, 3] ty #[.map (some Y.sp), .int .i64 i]).run Tryz.prog w = .ok (.tuple #[]) w' ∧ SrvTo w s Y { X with M := setSav i false X.M } k w' := by
  obtain ⟨col, h⟩ := h
  obtain ⟨n, hn, hm⟩ := h.sav
  obtain ⟨w', h1, ⟨n', hn', h2⟩, h3⟩ := hm.del Tryz.underlying78 hi ty
  obtain ⟨h4, h5⟩ := h.saved (Nat.le_refl k) (Nat.le_trans hn' hn) h2 h3
  refine ⟨w', h1, Y, ⟨paintC w col 4, ?_⟩, h5⟩
  rw [makF_sav, savF_sav hin, if_neg (by decide)]
  exact h4.as rfl rfl rfl rfl
theorem SrvTo.more {X' : Xs} {k k' : Nat} (h : SrvTo w s Y X' k w') (hk : k ≤ k') : SrvTo w s Y X' k' w' := by
  obtain ⟨Y', h1, h2⟩ := h
  exact ⟨Y', h1.more hk, h2⟩
theorem in_no0 (hV : V0 X k) : ¬ inM X.M 0 := fun h => by
  obtain ⟨v, hv, e⟩ := (hV.same 0).2 h
  have := (hV.s.pos v hv).1
  omega
theorem in_i64 (hV : V0 X k) {i : Int} (h : inM X.M i) : I64 i := by
  obtain ⟨v, hv, e⟩ := (hV.same i).2 h
  have := hV.s.pos v hv
  have := hV.s.last
  have := hV.s.most
  exact ⟨by omega, by omega⟩
theorem isof_of {i : Int} (h : inM X.M i) (a : Int) : decide (makF X.M i = some a) = decide (ownM i X.M = a) := by
  rw [makF_of h]; simp
theorem ssave_c (h : Srv w s Y X k) (hV : V0 X k) {i : Int} (hi : I64 i) (hin : i = 0 ∨ inM X.M i) (hk : k < 1048576) (on : Bool) : Calls Tryz.prog 93 #[srvP s, .int .i64 i, .bool on] w fun ex w' => ex = .returned (.int .i64 (X.save i on).1) ∧ SrvTo w s Y (X.save i on).2 (k + 1) w' := by
  obtain ⟨⟨b0, b1, b2, b3, b4, b5, b6⟩, -⟩ := h.blk.c7
  have HQ := Lib.hid ((SrvTo.same h (Below.refl _ w)).more (Nat.le_succ k))
  by_cases h0 : i = 0
  · subst h0
    rw [show X.save 0 on = (1, X) by unfold Xs.save; rw [own_none (in_no0 hV), if_pos (by omega)]]
    clear h hV hi hin
    go_enter Tryz.func93, Tryz.ntmps93
    go_wp2_with fail
    go_ret
    exact ⟨rfl, HQ.out⟩
  · have h1 : (i == 0) = false := by simpa using h0
    have hin' : inM X.M i := by rcases hin with h | h; exact absurd h h0; exact h
    have HI := isof_c h hi 0
    rw [isof_of hin'] at HI
    obtain ⟨m, hm, hmem, -⟩ := mfind_some hin'
    have ho := hV.own m hmem
    rw [own_of hm] at HI
    by_cases hz : m.own = 0
    · rw [show X.save i on = (1, X) by unfold Xs.save; rw [own_of hm, if_pos (by omega)]]
      rw [decide_eq_true hz] at HI
      have HH := Lib.hid HI
      clear h hV hi hin hin' HI hm hmem ho hz h0
      go_enter Tryz.func93, Tryz.ntmps93
      go_wp2_with (go_at_call 79; ((with_reducible refine (HH.out).mono ?_); rintro e w1 ⟨rfl, rfl⟩))
      go_ret
      exact ⟨rfl, HQ.out⟩
    · rw [show X.save i on = (0, { X with M := setSav i on X.M }) by unfold Xs.save; rw [own_of hm, if_neg (by omega)]]
      rw [decide_eq_false hz] at HI
      have HH := Lib.hid HI
      cases on with
      | true =>
        obtain ⟨w2, e2, t2⟩ := h.put_sav hi hk hin'
        have HT := Lib.hid t2
        clear h hV hi hin hin' HI hm hmem ho hz h0 t2
        go_enter Tryz.func93, Tryz.ntmps93
        go_wp2_with (go_at_call 79; ((with_reducible refine (HH.out).mono ?_); rintro e w1 ⟨rfl, rfl⟩))
        go_ret
        exact ⟨rfl, HT.out⟩
      | false =>
        have HD := Lib.hid (fun ty => h.del_sav hi hin' ty)
        clear h hV hi hin hin' HI hm hmem ho hz h0
        go_enter Tryz.func93, Tryz.ntmps93
        go_wp2_with (first
          | (go_at_call 79; ((with_reducible refine (HH.out).mono ?_); rintro e w1 ⟨rfl, rfl⟩))
          | (at_delete; refine Pp.wpList_delete_any rfl rfl _ _ rfl rfl rfl HD.out ?_; rintro w3 hT3; have HT := Lib.hid hT3; clear hT3))
        go_ret
        exact ⟨rfl, HT.out.more (Nat.le_succ k)⟩
set_option maxRecDepth 100000 in
set_option maxHeartbeats 4000000 in
theorem screate_c (h : Srv w s Y X k) (hV : V0 X k) (hk : k + 1 ≤ 1000) {a : Int} (ha : 0 ≤ a) (q : Rq) (hq : I64 q.other) : Calls Tryz.prog 68 #[srvP s, .int .i64 a, .int .i64 q.other, .agg #[.int .i64 q.x, .int .i64 q.y, .int .i64 q.a, .int .i64 q.e]] w fun ex w' =>
    ex = .returned (.tuple #[.int .i64 (X.create a q).1, .int .i64 (X.create a q).2.1]) ∧ SrvTo w s Y (X.create a q).2.2 (k + 1) w' := by
  obtain ⟨wb, hwb⟩ : ∃ wb, wb = w.alloc (.cells #[.int .i64 q.x, .int .i64 q.y, .int .i64 q.a, .int .i64 q.e] 23) := ⟨_, rfl⟩
  have hbel : Below w.heap.size w wb := by rw [hwb]; exact (Below.refl _ _).alloc (Nat.le_refl _) _
  have hbx : Blk wb w.heap.size 23 #[.int .i64 q.x, .int .i64 q.y, .int .i64 q.a, .int .i64 q.e] := by rw [hwb]; exact Blk.new w _ _
  have hs := h.next hbel
  have HO := Lib.hid (owner_c hs hq)
  have HQ := Lib.hid ((SrvTo.same h hbel).more (Nat.le_succ k))
  have HW := Lib.hid hwb
  have HB := Lib.hid hbel
  have hL := isL_iff X.L q.other
  by_cases hr : isL X.L q.other = true ∧ a ≠ 0 ∧ q.other ≠ 0 ∧ ownM q.other X.M ≠ a
  · obtain ⟨r1, r2, r3, r4⟩ := hr
    rw [show X.create a q = (0, 80, X) by unfold Xs.create; rw [if_pos ⟨r1, r2, r3, r4⟩]]
    have hin : inM X.M q.other := (hV.same _).1 (by rcases hL.1 r1 with h | h; exact absurd h r3; exact h)
    rw [makF_of hin] at HO
    obtain ⟨o, ho⟩ : ∃ o, o = ownM q.other X.M := ⟨_, rfl⟩
    rw [← ho] at HO r4
    have n1 : (o != a) = true := by simpa using r4
    have n2 : (0 : Int) < a := by omega
    clear h hV hs hbx hbel hL r1 r2 r3 r4 hin ho ha
    go_enter Tryz.func68, Tryz.ntmps68
    go_upto_region 1 with fail
    rw [← HW.out]
    clear hwb
    go_wp2_with (first
      | (go_at_call 29; ((with_reducible refine (HO.out).mono ?_); rintro e w1 ⟨rfl, rfl⟩))
      | (go_at_call 67; ((with_reducible refine (client_c _ _).mono ?_); rintro e w1 ⟨rfl, rfl⟩)))
    go_ret2
    exact ⟨rfl, HQ.out⟩
  · have hX : X.create a q = ((tCreate X.R q.other q.x q.y q.a q.e X.L).2.2.1, (tCreate X.R q.other q.x q.y q.a q.e X.L).2.2.2, if (tCreate X.R q.other q.x q.y q.a q.e X.L).2.2.2 = 0 then { X with R := (tCreate X.R q.other q.x q.y q.a q.e X.L).1, L := (tCreate X.R q.other q.x q.y q.a q.e X.L).2.1, M := X.M ++ [⟨(tCreate X.R q.other q.x q.y q.a q.e X.L).2.2.1, a, false⟩] } else X) := by unfold Xs.create; rw [if_neg hr]
    have hg : (decide (0 < a) && ((makF X.M q.other).isSome && !((makF X.M q.other).getD 0 == a))) = false := by
      by_cases hin : inM X.M q.other
      · rw [makF_of hin]
        have h1 : isL X.L q.other = true := hL.2 (.inr ((hV.same _).2 hin))
        have h2 : q.other ≠ 0 := fun e => in_no0 hV (e ▸ hin)
        by_cases h3 : a = 0
        · simp [h3]
        · by_cases h4 : ownM q.other X.M = a
          · simp [h4]
          · exact absurd ⟨h1, h3, h2, h4⟩ hr
      · rw [makF_no hin]; simp
    obtain ⟨k1, k2, k3⟩ := t_create hV.s hk hq q.x q.y q.a q.e
    have HC := Lib.hid (fun (W : World) (hW : Below wb.heap.size wb W) => (show Calls Tryz.prog 91 #[treeP Y.t, .int .i64 q.other, .agg #[.int .i64 q.x, .int .i64 q.y, .int .i64 q.a, .int .i64 q.e]] W fun ex w' => ex = .returned (.tuple #[.int .i64 (tCreate X.R q.other q.x q.y q.a q.e X.L).2.2.1, .int .i64 (tCreate X.R q.other q.x q.y q.a q.e X.L).2.2.2]) ∧ ∃ Y', Srv w' s Y' { X with R := (tCreate X.R q.other q.x q.y q.a q.e X.L).1, L := (tCreate X.R q.other q.x q.y q.a q.e X.L).2.1 } k ∧ Turn (Y.foot s) (Y'.foot s) w w' from
      (k3 W Y.t Y.l (hs.next hW).tree).mono fun ex w' hh => ⟨hh.1, by
        obtain ⟨Y', t1, t2⟩ := (hs.next hW).tree_to hh.2
        exact ⟨Y', t1, t2.after_below (hW.on hbel hbel.size)⟩⟩))
    have hno : (tCreate X.R q.other q.x q.y q.a q.e X.L).2.2.2 = 0 → ¬ inM X.M (tCreate X.R q.other q.x q.y q.a q.e X.L).2.2.1 ∧ I64 (tCreate X.R q.other q.x q.y q.a q.e X.L).2.2.1 := fun he => by
      have e1 : (tCreate X.R q.other q.x q.y q.a q.e X.L).2.2.1 = X.R.last + 1 := by
        unfold tCreate at he ⊢
        split at he
        · exact absurd he (by simp)
        · split at he
          · exact absurd he (by simp)
          · rename_i h1 h2
            rw [if_neg h1, if_neg h2]
      rw [e1]
      have hl := hV.s.low
      have hl2 := hV.s.last
      refine ⟨fun hin => ?_, ⟨by omega, by omega⟩⟩
      obtain ⟨v, hv, e2⟩ := (hV.same _).2 hin
      have := (hV.s.pos v hv).2
      omega
    have hsm : (tCreate X.R q.other q.x q.y q.a q.e X.L).2.2.2 ≠ 0 → (tCreate X.R q.other q.x q.y q.a q.e X.L).1 = X.R ∧ (tCreate X.R q.other q.x q.y q.a q.e X.L).2.1 = X.L := fun he => by
      unfold tCreate at he ⊢
      split
      · exact ⟨rfl, rfl⟩
      · split
        · exact ⟨rfl, rfl⟩
        · rename_i h1 h2
          rw [if_neg h1, if_neg h2] at he
          exact absurd rfl he
    rw [hX]
    obtain ⟨R', hR'⟩ : ∃ x, x = (tCreate X.R q.other q.x q.y q.a q.e X.L).1 := ⟨_, rfl⟩
    obtain ⟨L', hL'⟩ : ∃ x, x = (tCreate X.R q.other q.x q.y q.a q.e X.L).2.1 := ⟨_, rfl⟩
    obtain ⟨id, hid⟩ : ∃ x, x = (tCreate X.R q.other q.x q.y q.a q.e X.L).2.2.1 := ⟨_, rfl⟩
    obtain ⟨err, herr⟩ : ∃ x, x = (tCreate X.R q.other q.x q.y q.a q.e X.L).2.2.2 := ⟨_, rfl⟩
    rw [← hR', ← hL', ← hid, ← herr] at HC ⊢
    rw [← hid, ← herr] at hno
    rw [← hR', ← hL', ← herr] at hsm
    have HSM := Lib.hid hsm
    clear hsm
    have HNO := Lib.hid hno
    obtain ⟨mk, hmk⟩ : ∃ x, x = makF X.M q.other := ⟨_, rfl⟩
    obtain ⟨⟨b0, b1, b2, b3, b4, b5, b6⟩, -⟩ := hs.blk.c7
    obtain ⟨⟨x0, x1, x2, x3⟩, -⟩ := hbx.c4
    have HX := Lib.hid hbx
    rw [← hmk] at HO hg
    have HG := Lib.hid hg
    have hcase : (¬ (0 : Int) < a) ∨ ((0 : Int) < a ∧ mk = none) ∨ ((0 : Int) < a ∧ mk = some a) := by
      by_cases h1 : (0 : Int) < a
      · cases mk with
        | none => exact .inr (.inl ⟨h1, rfl⟩)
        | some o =>
          have h2 : o = a := by simpa [h1] using hg
          exact .inr (.inr ⟨h1, by rw [h2]⟩)
      · exact .inl h1
    clear HG hX hr hL k1 k2 k3 hno hR' hL' hid herr hmk hg hs hbel hbx h hV b1 b3 b4 b5 b6
    by_cases he : err = 0
    · subst he
      rw [if_pos rfl]
      have hn := HNO.out rfl
      have HD := Lib.hid (fun (W : World) (hW : Below wb.heap.size wb W) => (show Calls Tryz.prog 91 #[treeP Y.t, .int .i64 q.other, .agg #[.int .i64 q.x, .int .i64 q.y, .int .i64 q.a, .int .i64 q.e]] W fun ex w' => ex = .returned (.tuple #[.int .i64 id, .int .i64 0]) ∧ ∃ mp w2, w'.cell? ⟨s, 2, none⟩ = some (.map (some mp)) ∧ (Instr.mapUpdate 77 (.map (some mp)) (.int .i64 id) (.int .i64 a)).run Tryz.prog w' = .ok () w2 ∧ SrvTo w s Y { X with R := R', L := L', M := X.M ++ [⟨id, a, false⟩] } (k + 1) w2 from
        (HC.out W hW).mono fun ex w' hh => by
          obtain ⟨h1, Y1, S1, U1⟩ := hh
          obtain ⟨w2, e2, T2⟩ := S1.put_mak hn.2 (by omega) hn.1 a
          exact ⟨h1, Y1.mp, w2, S1.blk.at_ (i := 2) rfl, e2, SrvTo.trans U1 T2⟩))
      clear HNO HC hn HSM
      rcases hcase with hc | ⟨hc, rfl⟩ | ⟨hc, rfl⟩
      all_goals
        go_enter Tryz.func68, Tryz.ntmps68
        go_upto_region 1 with fail
        rw [← HW.out]
        clear hwb
        go_upto_region 4 with (first
          | (go_at_call 29; ((with_reducible refine (HO.out).mono ?_); rintro e w1 ⟨rfl, rfl⟩))
          | (go_at_call 67; ((with_reducible refine (client_c _ _).mono ?_); rintro e w1 ⟨rfl, rfl⟩)))
        go_region_law (go_simp; (go_at_call 91; ((with_reducible refine (HD.out _ (Below.refl _ _).drew).mono ?_); rintro ex w1 ⟨rfl, mp, w2, d2, e2, T2⟩); have HT := Lib.hid T2; clear T2))
      all_goals (go_wp2_with fail)
      all_goals go_ret2
      all_goals exact ⟨rfl, HT.out⟩
    · rw [if_neg he]
      have he1 : (err == 0) = false := by simpa using he
      have hsame := HSM.out he
      have HD := Lib.hid (fun (W : World) (hW : Below wb.heap.size wb W) => (show Calls Tryz.prog 91 #[treeP Y.t, .int .i64 q.other, .agg #[.int .i64 q.x, .int .i64 q.y, .int .i64 q.a, .int .i64 q.e]] W fun ex w' => ex = .returned (.tuple #[.int .i64 id, .int .i64 err]) ∧ SrvTo w s Y X (k + 1) w' from
        (HC.out W hW).mono fun ex w' hh => by
          obtain ⟨h1, Y1, S1, U1⟩ := hh
          rw [hsame.1, hsame.2] at S1
          exact ⟨h1, Y1, S1.more (Nat.le_succ k), U1⟩))
      clear HNO HC he hsame HSM
      rcases hcase with hc | ⟨hc, rfl⟩ | ⟨hc, rfl⟩
      all_goals
        go_enter Tryz.func68, Tryz.ntmps68
        go_upto_region 1 with fail
        rw [← HW.out]
        clear hwb
        go_upto_region 4 with (first
          | (go_at_call 29; ((with_reducible refine (HO.out).mono ?_); rintro e w1 ⟨rfl, rfl⟩))
          | (go_at_call 67; ((with_reducible refine (client_c _ _).mono ?_); rintro e w1 ⟨rfl, rfl⟩)))
        go_region_law (go_simp; (go_at_call 91; ((with_reducible refine (HD.out _ (Below.refl _ _).drew).mono ?_); rintro ex w1 ⟨rfl, T2⟩); have HS := Lib.hid T2; clear T2))
      all_goals (go_wp2_with fail)
      all_goals go_ret2
      all_goals exact ⟨rfl, HS.out⟩
end
end Go.Proofs.YtfdgpbdppenhmaaGreat
