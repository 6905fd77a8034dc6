/- Texts SrH SrI SrJ SrK SrL. -/
import Derived.Test.YtnhchpiafchdgaaGreatTaq
import Derived.Test.YtnhchpiafchdgaaGreatTaa
namespace Go.Proofs.YtnhchpiafchdgaaGreat
open Go.RowKit Go.Shelf Go.Maps
theorem makF_of {M : List Md} {i : Int} (h : inM M i) : makF M i = some (ownM i M) := by
 obtain ⟨m, h1, -⟩ := mfind_some h
 unfold makF ownM
 rw [h1]; rfl
theorem makF_no {M : List Md} {i : Int} (h : ¬ inM M i) : makF M i = none := by unfold makF; rw [mfind_none.2 h]; rfl
theorem makF_drop (M : List Md) (i : Int) : makF (dropM i M) = upd (makF M) i none := by
 funext j
 unfold makF upd
 rw [mfind_drop]
 split <;> rfl
theorem savF_at (M : List Md) (j : Int) : savF M j = match findM j M with
  | some m => if m.sav = true then some () else none
  | none => none := by
 unfold savF savM
 cases findM j M <;> rfl
theorem savF_drop (M : List Md) (i : Int) : savF (dropM i M) = upd (savF M) i none := by
 funext j
 rw [savF_at, mfind_drop]
 unfold upd
 by_cases hji : j = i
 · rw [if_pos hji, if_pos hji]
 · rw [if_neg hji, if_neg hji, savF_at]
theorem makF_sav (M : List Md) (i : Int) (on : Bool) : makF (setSav i on M) = makF M := by
 funext j
 unfold makF
 rw [mfind_sav, Option.map_map]
 congr 1
 funext m
 simp only [Function.comp]
 split <;> rfl
theorem savF_sav {M : List Md} {i : Int} (h : inM M i) (on : Bool) : savF (setSav i on M) = upd (savF M) i (if on = true then some () else none) := by
 funext j
 rw [savF_at, mfind_sav]
 unfold upd
 by_cases hji : j = i
 · subst hji
   obtain ⟨m, h1, -, h2⟩ := mfind_some h
   rw [h1, if_pos rfl]
   simp [h2]
 · rw [if_neg hji, savF_at]
   cases hf : findM j M with
   | none => rfl
   | some m =>
    have := (mfind_mem hf).2
    have hne : ¬ m.win = i := fun e => hji (by omega)
    simp [hne]
theorem makF_snoc {M : List Md} {i : Int} (h : ¬ inM M i) (a : Int) : makF (M ++ [⟨i, a, false⟩]) = upd (makF M) i (some a) := by
 funext j
 unfold makF upd
 rw [mfind_snoc _ h]
 split <;> rfl
theorem savF_snoc {M : List Md} {i : Int} (h : ¬ inM M i) (a : Int) : savF (M ++ [⟨i, a, false⟩]) = savF M := by
 funext j
 rw [savF_at, savF_at, mfind_snoc _ h]
 by_cases hji : j = i
 · subst hji
   rw [if_pos rfl, mfind_none.2 h]
   rfl
 · rw [if_neg hji]
section
variable {w w' : World} {s : Nat} {Y : Yl} {X : Xs} {k m : Nat}
theorem Srv.tree_to (h : Srv w s Y X k) {R' : RT} {L' : List Win} (hc : CT R' L' Y.t Y.l w w') : SrvTo w s Y { X with R := R', L := L' } k w' := by
 obtain ⟨col, h⟩ := h
 obtain ⟨l', h1, h2⟩ := h.treed hc
 exact ⟨_, ⟨_, h1⟩, h2⟩
theorem Srv.put_mak (h : Srv w s Y X k) {i : Int} (hi : I64 i) (hk : k < 1048576) (hno : ¬ inM X.M i) (a : Int) : ∃ w', (Instr.mapUpdate 77 (.map (some Y.mp)) (.int .i64 i) (.int .i64 a)).run Tryz.prog w = .ok () w' ∧ SrvTo w s Y { X with M := X.M ++ [⟨i, a, false⟩] } (k + 1) w' := by
 obtain ⟨col, h⟩ := h
 obtain ⟨n, hn, hm⟩ := h.mak
 obtain ⟨w', h1, h2, h3⟩ := hm.put Tryz.underlying77 hi (by omega) a
 rw [makF_no hno] at h2
 obtain ⟨h4, h5⟩ := h.makers (Nat.le_succ k) (show n + 1 ≤ k + 1 by omega) h2 h3
 refine ⟨w', h1, Y, ⟨paintC w col 3, ?_⟩, h5⟩
 rw [makF_snoc hno, savF_snoc hno]
 exact h4.as rfl rfl rfl rfl
theorem Srv.put_sav (h : Srv w s Y X k) {i : Int} (hi : I64 i) (hk : k < 1048576) (hin : inM X.M i) : ∃ w', (Instr.mapUpdate 78 (.map (some Y.sp)) (.int .i64 i) (.agg #[])).run Tryz.prog w = .ok () w' ∧ SrvTo w s Y { X with M := setSav i true X.M } (k + 1) w' := by
 obtain ⟨col, h⟩ := h
 obtain ⟨n, hn, hm⟩ := h.sav
 obtain ⟨w', h1, h2, h3⟩ := hm.put Tryz.underlying78 hi (by omega) ()
 obtain ⟨h4, h5⟩ := h.saved (k' := k + 1) (Nat.le_succ k) (by split <;> omega) h2 h3
 refine ⟨w', h1, Y, ⟨paintC w col 4, ?_⟩, h5⟩
 rw [makF_sav, savF_sav hin, if_pos rfl]
 exact h4.as rfl rfl rfl rfl
theorem Srv.del_sav (h : Srv w s Y X k) {i : Int} (hi : I64 i) (hin : inM X.M i) (ty : TypeId) : ∃ w', (Builtin.delete_ #[78, 3] ty #[.map (some Y.sp), .int .i64 i]).run Tryz.prog w = .ok (.tuple #[]) w' ∧ SrvTo w s Y { X with M := setSav i false X.M } k w' := by
 obtain ⟨col, h⟩ := h
 obtain ⟨n, hn, hm⟩ := h.sav
 obtain ⟨w', h1, ⟨n', hn', h2⟩, h3⟩ := hm.del Tryz.underlying78 hi ty
 obtain ⟨h4, h5⟩ := h.saved (Nat.le_refl k) (Nat.le_trans hn' hn) h2 h3
 refine ⟨w', h1, Y, ⟨paintC w col 4, ?_⟩, h5⟩
 rw [makF_sav, savF_sav hin, if_neg (by decide)]
 exact h4.as rfl rfl rfl rfl
theorem SrvTo.more {X' : Xs} {k k' : Nat} (h : SrvTo w s Y X' k w') (hk : k ≤ k') : SrvTo w s Y X' k' w' := by
 obtain ⟨Y', h1, h2⟩ := h
 exact ⟨Y', h1.more hk, h2⟩
theorem in_no0 (hV : V0 X k) : ¬ inM X.M 0 := fun h => by
 obtain ⟨v, hv, e⟩ := (hV.same 0).2 h
 have := (hV.s.pos v hv).1
 omega
theorem in_i64 (hV : V0 X k) {i : Int} (h : inM X.M i) : I64 i := by
 obtain ⟨v, hv, e⟩ := (hV.same i).2 h
 have := hV.s.pos v hv
 have := hV.s.last
 have := hV.s.most
 exact ⟨by omega, by omega⟩
theorem isof_of {i : Int} (h : inM X.M i) (a : Int) : decide (makF X.M i = some a) = decide (ownM i X.M = a) := by
 rw [makF_of h]; simp
theorem ssave_c (h : Srv w s Y X k) (hV : V0 X k) {i : Int} (hi : I64 i) (hin : i = 0 ∨ inM X.M i) (hk : k < 1048576) (on : Bool) : Calls Tryz.prog 93 #[srvP s, .int .i64 i, .bool on] w fun ex w' => ex = .returned (.int .i64 (X.save i on).1) ∧ SrvTo w s Y (X.save i on).2 (k + 1) w' := by
 obtain ⟨⟨b0, b1, b2, b3, b4, b5, b6⟩, -⟩ := h.blk.c7
 have HQ := Lib.hid ((SrvTo.same h (Below.refl _ w)).more (Nat.le_succ k))
 by_cases h0 : i = 0
 · subst h0
   rw [show X.save 0 on = (1, X) by unfold Xs.save; rw [own_none (in_no0 hV), if_pos (by omega)]]
   clear h hV hi hin
   go_enter Tryz.func93, Tryz.ntmps93
   go_wp2_with fail
   go_ret
   exact ⟨rfl, HQ.out⟩
 · have h1 : (i == 0) = false := by simpa using h0
   have hin' : inM X.M i := by rcases hin with h | h; exact absurd h h0; exact h
   have HI := isof_c h hi 0
   rw [isof_of hin'] at HI
   obtain ⟨m, hm, hmem, -⟩ := mfind_some hin'
   have ho := hV.own m hmem
   rw [own_of hm] at HI
   by_cases hz : m.own = 0
   · rw [show X.save i on = (1, X) by unfold Xs.save; rw [own_of hm, if_pos (by omega)]]
     rw [decide_eq_true hz] at HI
     have HH := Lib.hid HI
     clear h hV hi hin hin' HI hm hmem ho hz h0
     go_enter Tryz.func93, Tryz.ntmps93
     go_wp2_with (go_at_call 79; ((with_reducible refine (HH.out).mono ?_); rintro e w1 ⟨rfl, rfl⟩))
     go_ret
     exact ⟨rfl, HQ.out⟩
   · rw [show X.save i on = (0, { X with M := setSav i on X.M }) by unfold Xs.save; rw [own_of hm, if_neg (by omega)]]
     rw [decide_eq_false hz] at HI
     have HH := Lib.hid HI
     cases on with
     | true =>
      obtain ⟨w2, e2, t2⟩ := h.put_sav hi hk hin'
      have HT := Lib.hid t2
      clear h hV hi hin hin' HI hm hmem ho hz h0 t2
      go_enter Tryz.func93, Tryz.ntmps93
      go_wp2_with (go_at_call 79; ((with_reducible refine (HH.out).mono ?_); rintro e w1 ⟨rfl, rfl⟩))
      go_ret
      exact ⟨rfl, HT.out⟩
     | false =>
      have HD := Lib.hid (fun ty => h.del_sav hi hin' ty)
      clear h hV hi hin hin' HI hm hmem ho hz h0
      go_enter Tryz.func93, Tryz.ntmps93
      go_wp2_with (first
       | (go_at_call 79; ((with_reducible refine (HH.out).mono ?_); rintro e w1 ⟨rfl, rfl⟩))
       | (at_delete; refine Pp.wpList_delete_any rfl rfl _ _ rfl rfl rfl HD.out ?_; rintro w3 hT3; have HT := Lib.hid hT3; clear hT3))
      go_ret
      exact ⟨rfl, HT.out.more (Nat.le_succ k)⟩
set_option maxRecDepth 100000 in
set_option maxHeartbeats 4000000 in
theorem screate_c (h : Srv w s Y X k) (hV : V0 X k) (hk : k + 1 ≤ 1000) {a : Int} (ha : 0 ≤ a) (q : Rq) (hq : I64 q.other) : Calls Tryz.prog 68 #[srvP s, .int .i64 a, .int .i64 q.other, .agg #[.int .i64 q.x, .int .i64 q.y, .int .i64 q.a, .int .i64 q.e]] w fun ex w' =>
   ex = .returned (.tuple #[.int .i64 (X.create a q).1, .int .i64 (X.create a q).2.1]) ∧ SrvTo w s Y (X.create a q).2.2 (k + 1) w' := by
 obtain ⟨wb, hwb⟩ : ∃ wb, wb = w.alloc (.cells #[.int .i64 q.x, .int .i64 q.y, .int .i64 q.a, .int .i64 q.e] 23) := ⟨_, rfl⟩
 have hbel : Below w.heap.size w wb := by rw [hwb]; exact (Below.refl _ _).alloc (Nat.le_refl _) _
 have hbx : Blk wb w.heap.size 23 #[.int .i64 q.x, .int .i64 q.y, .int .i64 q.a, .int .i64 q.e] := by rw [hwb]; exact Blk.new w _ _
 have hs := h.next hbel
 have HO := Lib.hid (owner_c hs hq)
 have HQ := Lib.hid ((SrvTo.same h hbel).more (Nat.le_succ k))
 have HW := Lib.hid hwb
 have HB := Lib.hid hbel
 have hL := isL_iff X.L q.other
 by_cases hr : isL X.L q.other = true ∧ a ≠ 0 ∧ q.other ≠ 0 ∧ ownM q.other X.M ≠ a
 · obtain ⟨r1, r2, r3, r4⟩ := hr
   rw [show X.create a q = (0, 80, X) by unfold Xs.create; rw [if_pos ⟨r1, r2, r3, r4⟩]]
   have hin : inM X.M q.other := (hV.same _).1 (by rcases hL.1 r1 with h | h; exact absurd h r3; exact h)
   rw [makF_of hin] at HO
   obtain ⟨o, ho⟩ : ∃ o, o = ownM q.other X.M := ⟨_, rfl⟩
   rw [← ho] at HO r4
   have n1 : (o != a) = true := by simpa using r4
   have n2 : (0 : Int) < a := by omega
   clear h hV hs hbx hbel hL r1 r2 r3 r4 hin ho ha
   go_enter Tryz.func68, Tryz.ntmps68
   go_upto_region 1 with fail
   rw [← HW.out]
   clear hwb
   go_wp2_with (first
     | (go_at_call 29; ((with_reducible refine (HO.out).mono ?_); rintro e w1 ⟨rfl, rfl⟩))
     | (go_at_call 67; ((with_reducible refine (client_c _ _).mono ?_); rintro e w1 ⟨rfl, rfl⟩)))
   go_ret2
   exact ⟨rfl, HQ.out⟩
 · have hX : X.create a q = ((tCreate X.R q.other q.x q.y q.a q.e X.L).2.2.1, (tCreate X.R q.other q.x q.y q.a q.e X.L).2.2.2, if (tCreate X.R q.other q.x q.y q.a q.e X.L).2.2.2 = 0 then { X with R := (tCreate X.R q.other q.x q.y q.a q.e X.L).1, L := (tCreate X.R q.other q.x q.y q.a q.e X.L).2.1, M := X.M ++ [⟨(tCreate X.R q.other q.x q.y q.a q.e X.L).2.2.1, a, false⟩] } else X) := by unfold Xs.create; rw [if_neg hr]
   have hg : (decide (0 < a) && ((makF X.M q.other).isSome && !((makF X.M q.other).getD 0 == a))) = false := by
     by_cases hin : inM X.M q.other
     · rw [makF_of hin]
       have h1 : isL X.L q.other = true := hL.2 (.inr ((hV.same _).2 hin))
       have h2 : q.other ≠ 0 := fun e => in_no0 hV (e ▸ hin)
       by_cases h3 : a = 0
       · simp [h3]
       · by_cases h4 : ownM q.other X.M = a
         · simp [h4]
         · exact absurd ⟨h1, h3, h2, h4⟩ hr
     · rw [makF_no hin]; simp
   obtain ⟨k1, k2, k3⟩ := t_create hV.s hk hq q.x q.y q.a q.e
   have HC := Lib.hid (fun (W : World) (hW : Below wb.heap.size wb W) => (show Calls Tryz.prog 91 #[treeP Y.t, .int .i64 q.other, .agg #[.int .i64 q.x, .int .i64 q.y, .int .i64 q.a, .int .i64 q.e]] W fun ex w' => ex = .returned (.tuple #[.int .i64 (tCreate X.R q.other q.x q.y q.a q.e X.L).2.2.1, .int .i64 (tCreate X.R q.other q.x q.y q.a q.e X.L).2.2.2]) ∧ ∃ Y', Srv w' s Y' { X with R := (tCreate X.R q.other q.x q.y q.a q.e X.L).1, L := (tCreate X.R q.other q.x q.y q.a q.e X.L).2.1 } k ∧ Turn (Y.foot s) (Y'.foot s) w w' from
     (k3 W Y.t Y.l (hs.next hW).tree).mono fun ex w' hh => ⟨hh.1, by
       obtain ⟨Y', t1, t2⟩ := (hs.next hW).tree_to hh.2
       exact ⟨Y', t1, t2.after_below (hW.on hbel hbel.size)⟩⟩))
   have hno : (tCreate X.R q.other q.x q.y q.a q.e X.L).2.2.2 = 0 → ¬ inM X.M (tCreate X.R q.other q.x q.y q.a q.e X.L).2.2.1 ∧ I64 (tCreate X.R q.other q.x q.y q.a q.e X.L).2.2.1 := fun he => by
     have e1 : (tCreate X.R q.other q.x q.y q.a q.e X.L).2.2.1 = X.R.last + 1 := by
       unfold tCreate at he ⊢
       split at he
       · exact absurd he (by simp)
       · split at he
         · exact absurd he (by simp)
         · rename_i h1 h2
           rw [if_neg h1, if_neg h2]
     rw [e1]
     have hl := hV.s.low
     have hl2 := hV.s.last
     refine ⟨fun hin => ?_, ⟨by omega, by omega⟩⟩
     obtain ⟨v, hv, e2⟩ := (hV.same _).2 hin
     have := (hV.s.pos v hv).2
     omega
   have hsm : (tCreate X.R q.other q.x q.y q.a q.e X.L).2.2.2 ≠ 0 → (tCreate X.R q.other q.x q.y q.a q.e X.L).1 = X.R ∧ (tCreate X.R q.other q.x q.y q.a q.e X.L).2.1 = X.L := fun he => by
     unfold tCreate at he ⊢
     split
     · exact ⟨rfl, rfl⟩
     · split
       · exact ⟨rfl, rfl⟩
       · rename_i h1 h2
         rw [if_neg h1, if_neg h2] at he
         exact absurd rfl he
   rw [hX]
   obtain ⟨R', hR'⟩ : ∃ x, x = (tCreate X.R q.other q.x q.y q.a q.e X.L).1 := ⟨_, rfl⟩
   obtain ⟨L', hL'⟩ : ∃ x, x = (tCreate X.R q.other q.x q.y q.a q.e X.L).2.1 := ⟨_, rfl⟩
   obtain ⟨id, hid⟩ : ∃ x, x = (tCreate X.R q.other q.x q.y q.a q.e X.L).2.2.1 := ⟨_, rfl⟩
   obtain ⟨err, herr⟩ : ∃ x, x = (tCreate X.R q.other q.x q.y q.a q.e X.L).2.2.2 := ⟨_, rfl⟩
   rw [← hR', ← hL', ← hid, ← herr] at HC ⊢
   rw [← hid, ← herr] at hno
   rw [← hR', ← hL', ← herr] at hsm
   have HSM := Lib.hid hsm
   clear hsm
   have HNO := Lib.hid hno
   obtain ⟨mk, hmk⟩ : ∃ x, x = makF X.M q.other := ⟨_, rfl⟩
   obtain ⟨⟨b0, b1, b2, b3, b4, b5, b6⟩, -⟩ := hs.blk.c7
   obtain ⟨⟨x0, x1, x2, x3⟩, -⟩ := hbx.c4
   have HX := Lib.hid hbx
   rw [← hmk] at HO hg
   have HG := Lib.hid hg
   have hcase : (¬ (0 : Int) < a) ∨ ((0 : Int) < a ∧ mk = none) ∨ ((0 : Int) < a ∧ mk = some a) := by
     by_cases h1 : (0 : Int) < a
     · cases mk with
       | none => exact .inr (.inl ⟨h1, rfl⟩)
       | some o =>
         have h2 : o = a := by simpa [h1] using hg
         exact .inr (.inr ⟨h1, by rw [h2]⟩)
     · exact .inl h1
   clear HG hX hr hL k1 k2 k3 hno hR' hL' hid herr hmk hg hs hbel hbx h hV b1 b3 b4 b5 b6
   by_cases he : err = 0
   · subst he
     rw [if_pos rfl]
     have hn := HNO.out rfl
     have HD := Lib.hid (fun (W : World) (hW : Below wb.heap.size wb W) => (show Calls Tryz.prog 91 #[treeP Y.t, .int .i64 q.other, .agg #[.int .i64 q.x, .int .i64 q.y, .int .i64 q.a, .int .i64 q.e]] W fun ex w' => ex = .returned (.tuple #[.int .i64 id, .int .i64 0]) ∧ ∃ mp w2, w'.cell? ⟨s, 2, none⟩ = some (.map (some mp)) ∧ (Instr.mapUpdate 77 (.map (some mp)) (.int .i64 id) (.int .i64 a)).run Tryz.prog w' = .ok () w2 ∧ SrvTo w s Y { X with R := R', L := L', M := X.M ++ [⟨id, a, false⟩] } (k + 1) w2 from
       (HC.out W hW).mono fun ex w' hh => by
         obtain ⟨h1, Y1, S1, U1⟩ := hh
         obtain ⟨w2, e2, T2⟩ := S1.put_mak hn.2 (by omega) hn.1 a
         exact ⟨h1, Y1.mp, w2, S1.blk.at_ (i := 2) rfl, e2, SrvTo.trans U1 T2⟩))
     clear HNO HC hn HSM
     rcases hcase with hc | ⟨hc, rfl⟩ | ⟨hc, rfl⟩
     all_goals
       go_enter Tryz.func68, Tryz.ntmps68
       go_upto_region 1 with fail
       rw [← HW.out]
       clear hwb
       go_upto_region 4 with (first
         | (go_at_call 29; ((with_reducible refine (HO.out).mono ?_); rintro e w1 ⟨rfl, rfl⟩))
         | (go_at_call 67; ((with_reducible refine (client_c _ _).mono ?_); rintro e w1 ⟨rfl, rfl⟩)))
       go_region_law (go_simp; (go_at_call 91; ((with_reducible refine (HD.out _ (Below.refl _ _).drew).mono ?_); rintro ex w1 ⟨rfl, mp, w2, d2, e2, T2⟩); have HT := Lib.hid T2; clear T2))
     all_goals (go_wp2_with fail)
     all_goals go_ret2
     all_goals exact ⟨rfl, HT.out⟩
   · rw [if_neg he]
     have he1 : (err == 0) = false := by simpa using he
     have hsame := HSM.out he
     have HD := Lib.hid (fun (W : World) (hW : Below wb.heap.size wb W) => (show Calls Tryz.prog 91 #[treeP Y.t, .int .i64 q.other, .agg #[.int .i64 q.x, .int .i64 q.y, .int .i64 q.a, .int .i64 q.e]] W fun ex w' => ex = .returned (.tuple #[.int .i64 id, .int .i64 err]) ∧ SrvTo w s Y X (k + 1) w' from
       (HC.out W hW).mono fun ex w' hh => by
         obtain ⟨h1, Y1, S1, U1⟩ := hh
         rw [hsame.1, hsame.2] at S1
         exact ⟨h1, Y1, S1.more (Nat.le_succ k), U1⟩))
     clear HNO HC he hsame HSM
     rcases hcase with hc | ⟨hc, rfl⟩ | ⟨hc, rfl⟩
     all_goals
       go_enter Tryz.func68, Tryz.ntmps68
       go_upto_region 1 with fail
       rw [← HW.out]
       clear hwb
       go_upto_region 4 with (first
         | (go_at_call 29; ((with_reducible refine (HO.out).mono ?_); rintro e w1 ⟨rfl, rfl⟩))
         | (go_at_call 67; ((with_reducible refine (client_c _ _).mono ?_); rintro e w1 ⟨rfl, rfl⟩)))
       go_region_law (go_simp; (go_at_call 91; ((with_reducible refine (HD.out _ (Below.refl _ _).drew).mono ?_); rintro ex w1 ⟨rfl, T2⟩); have HS := Lib.hid T2; clear T2))
     all_goals (go_wp2_with fail)
     all_goals go_ret2
     all_goals exact ⟨rfl, HS.out⟩
end
end Go.Proofs.YtnhchpiafchdgaaGreat
namespace Go.Proofs.YtnhchpiafchdgaaGreat
open Go.RowKit Go.Shelf Go.Maps
abbrev rqL (q : Rq) : Array Value := #[.int .i64 q.kind, .int .i64 q.win, .int .i64 q.other, .int .i64 q.x, .int .i64 q.y, .int .i64 q.a, .int .i64 q.e, .string q.p.name, .string q.p.typ, .string q.p.data]
abbrev rqV (q : Rq) : Value := .agg (rqL q)
theorem Blk.c10 {w : World} {g : Nat} {t : TypeId} {v0 v1 v2 v3 v4 v5 v6 v7 v8 v9 : Value} (h : Blk w g t #[v0, v1, v2, v3, v4, v5, v6, v7, v8, v9]) :
  w.cell? ⟨g, 0, none⟩ = some v0 ∧ w.cell? ⟨g, 1, none⟩ = some v1 ∧ w.cell? ⟨g, 2, none⟩ = some v2 ∧ w.cell? ⟨g, 3, none⟩ = some v3 ∧ w.cell? ⟨g, 4, none⟩ = some v4 ∧ w.cell? ⟨g, 5, none⟩ = some v5 ∧ w.cell? ⟨g, 6, none⟩ = some v6 ∧ w.cell? ⟨g, 7, none⟩ = some v7 ∧ w.cell? ⟨g, 8, none⟩ = some v8 ∧ w.cell? ⟨g, 9, none⟩ = some v9 :=
 ⟨h.at_ (i := 0) rfl, h.at_ (i := 1) rfl, h.at_ (i := 2) rfl, h.at_ (i := 3) rfl, h.at_ (i := 4) rfl, h.at_ (i := 5) rfl, h.at_ (i := 6) rfl, h.at_ (i := 7) rfl, h.at_ (i := 8) rfl, h.at_ (i := 9) rfl⟩
def Xs.carry (X : Xs) (q : Rq) : Int × Xs :=
 if q.kind = 3 then ((tMap true q.win X.L).2, { X with L := (tMap true q.win X.L).1 })
 else if q.kind = 4 then ((tMap false q.win X.L).2, { X with L := (tMap false q.win X.L).1 })
 else if q.kind = 5 then ((tConf q.win q.x q.y q.a q.e X.L).2, { X with L := (tConf q.win q.x q.y q.a q.e X.L).1 })
 else if q.kind = 6 then ((tRaise q.win X.L).2, { X with L := (tRaise q.win X.L).1 })
 else ((tLower q.win X.L).2, { X with L := (tLower q.win X.L).1 })
section
variable {w w' : World} {s : Nat} {Y : Yl} {X : Xs} {k m : Nat}
theorem Srv.via {w0 W : World} (h : Srv w0 s Y X k) (h0 : Below w.heap.size w w0) (hW : Below w0.heap.size w0 W) {f : Nat} {args : Array Value} {err : Int} {L' : List Win}
  (hc : Calls Tryz.prog f args W fun ex w' => ex = .returned (.int .i64 err) ∧ CT X.R L' Y.t Y.l W w') : Calls Tryz.prog f args W fun ex w' => ex = .returned (.int .i64 err) ∧ SrvTo w s Y { X with L := L' } k w' :=
 hc.mono fun ex w' hh => ⟨hh.1, by
  have h1 := (h.next hW).tree_to hh.2
  exact SrvTo.after (hW.on h0 h0.size) h1⟩
set_option maxRecDepth 100000 in
set_option maxHeartbeats 4000000 in
theorem carry_c (h : Srv w s Y X k) (hS : Sane X.R X.L m) (q : Rq) (hi : I64 q.win) : Calls Tryz.prog 98 #[srvP s, rqV q] w fun ex w' => ex = .returned (.int .i64 (X.carry q).1) ∧ SrvTo w s Y (X.carry q).2 k w' := by
 obtain ⟨wb, hwb⟩ : ∃ wb, wb = w.alloc (.cells #[.int .i64 q.kind, .int .i64 q.win, .int .i64 q.other, .int .i64 q.x, .int .i64 q.y, .int .i64 q.a, .int .i64 q.e, .string q.p.name, .string q.p.typ, .string q.p.data] 37) := ⟨_, rfl⟩
 have hbel : Below w.heap.size w wb := by rw [hwb]; exact (Below.refl _ _).alloc (Nat.le_refl _) _
 have hbx : Blk wb w.heap.size 37 (rqL q) := by rw [hwb]; exact Blk.new w _ _
 have hs := h.next hbel
 obtain ⟨⟨b0, -, -, -, -, -, -⟩, -⟩ := hs.blk.c7
 obtain ⟨x0, x1, -, x3, x4, x5, x6, -, -, -⟩ := hbx.c10
 have HW := Lib.hid hwb
 have HT := Lib.hid (fun (W : World) (hW : Below wb.heap.size wb W) => (hs.next hW).tree)
 obtain ⟨kind, hkd⟩ : ∃ n, n = q.kind := ⟨_, rfl⟩
 unfold Xs.carry
 rw [← hkd] at x0 ⊢
 by_cases h3 : kind = 3
 · subst h3
   rw [if_pos rfl]
   have HC := Lib.hid (fun (W : World) (hW : Below wb.heap.size wb W) => hs.via hbel hW ((t_map hS hi true).2.2 W Y.t Y.l (HT.out W hW)))
   clear h hS hs hbx hbel hkd
   go_enter Tryz.func98, Tryz.ntmps98
   go_upto_region 1 with fail
   rw [← HW.out]
   clear hwb
   go_upto_region 3 with fail
   go_region_law (go_simp; (go_at_call 120; ((with_reducible refine (HC.out _ (Below.refl _ _).drew).mono ?_); rintro ex w1 ⟨rfl, T2⟩); have HS := Lib.hid T2; clear T2))
   all_goals (go_wp2_with fail)
   all_goals go_ret
   all_goals exact ⟨rfl, HS.out⟩
 · rw [if_neg h3]
   have h3' : (kind == 3) = false := by simpa using h3
   by_cases h4 : kind = 4
   · subst h4
     rw [if_pos rfl]
     have HC := Lib.hid (fun (W : World) (hW : Below wb.heap.size wb W) => hs.via hbel hW ((t_map hS hi false).2.2 W Y.t Y.l (HT.out W hW)))
     clear h hS hs hbx hbel hkd h3 h3'
     go_enter Tryz.func98, Tryz.ntmps98
     go_upto_region 1 with fail
     rw [← HW.out]
     clear hwb
     go_upto_region 5 with fail
     go_region_law (go_simp; (go_at_call 120; ((with_reducible refine (HC.out _ (Below.refl _ _).drew).mono ?_); rintro ex w1 ⟨rfl, T2⟩); have HS := Lib.hid T2; clear T2))
     all_goals (go_wp2_with fail)
     all_goals go_ret
     all_goals exact ⟨rfl, HS.out⟩
   · rw [if_neg h4]
     have h4' : (kind == 4) = false := by simpa using h4
     by_cases h5 : kind = 5
     · subst h5
       rw [if_pos rfl]
       have HC := Lib.hid (fun (W : World) (hW : Below wb.heap.size wb W) => hs.via hbel hW ((t_conf hS hi q.x q.y q.a q.e).2.2 W Y.t Y.l (HT.out W hW)))
       clear h hS hs hbx hbel hkd h3 h3' h4 h4'
       go_enter Tryz.func98, Tryz.ntmps98
       go_upto_region 1 with fail
       rw [← HW.out]
       clear hwb
       go_upto_region 7 with fail
       go_region_law (go_simp; (go_at_call 121; ((with_reducible refine (HC.out _ (Below.refl _ _).drew).mono ?_); rintro ex w1 ⟨rfl, T2⟩); have HS := Lib.hid T2; clear T2))
       all_goals (go_wp2_with fail)
       all_goals go_ret
       all_goals exact ⟨rfl, HS.out⟩
     · rw [if_neg h5]
       have h5' : (kind == 5) = false := by simpa using h5
       by_cases h6 : kind = 6
       · subst h6
         rw [if_pos rfl]
         have HC := Lib.hid (fun (W : World) (hW : Below wb.heap.size wb W) => hs.via hbel hW ((t_raise hS hi).2.2 W Y.t Y.l (HT.out W hW)))
         clear h hS hs hbx hbel hkd h3 h3' h4 h4' h5 h5'
         go_enter Tryz.func98, Tryz.ntmps98
         go_upto_region 1 with fail
         rw [← HW.out]
         clear hwb
         go_upto_region 9 with fail
         go_region_law (go_simp; (go_at_call 122; ((with_reducible refine (HC.out _ (Below.refl _ _).drew).mono ?_); rintro ex w1 ⟨rfl, T2⟩); have HS := Lib.hid T2; clear T2))
         all_goals (go_wp2_with fail)
         all_goals go_ret
         all_goals exact ⟨rfl, HS.out⟩
       · rw [if_neg h6]
         have h6' : (kind == 6) = false := by simpa using h6
         have HC := Lib.hid (fun (W : World) (hW : Below wb.heap.size wb W) => hs.via hbel hW ((t_lower hS hi).2.2 W Y.t Y.l (HT.out W hW)))
         clear h hS hs hbx hbel hkd h3 h4 h5 h6
         go_enter Tryz.func98, Tryz.ntmps98
         go_upto_region 1 with fail
         rw [← HW.out]
         clear hwb
         go_upto_region 10 with fail
         go_region_law (go_simp; (go_at_call 123; ((with_reducible refine (HC.out _ (Below.refl _ _).drew).mono ?_); rintro ex w1 ⟨rfl, T2⟩); have HS := Lib.hid T2; clear T2))
         all_goals (go_wp2_with fail)
         all_goals go_ret
         all_goals exact ⟨rfl, HS.out⟩
end
end Go.Proofs.YtnhchpiafchdgaaGreat
namespace Go.Proofs.YtnhchpiafchdgaaGreat
open Go.RowKit Go.Shelf Go.Maps
def Xs.setp (X : Xs) (actor i : Int) (p : Pp.Pr) : Xs :=
 let X' : Xs := if Pp.eH X.H i p = 0 then { X with H := Pp.sH X.H i p } else X
 if Pp.eH X.H i p = 0 ∧ actor ≠ 0 then X'.tell ⟨5, i, 0, 0, 0, 0, p.name⟩ else X'
section
variable {w w' : World} {s : Nat} {Y : Yl} {X : Xs} {k m : Nat}
theorem Srv.table_to (h : Srv w s Y X k) (hk : k ≤ m) {l' : Pp.Tl} {H' : List Pp.Hd} (ht : l'.t = Y.tl.t) (h1 : Pp.TT w' l' H' m) (h2 : Turn Y.tl.foot l'.foot w w') : SrvTo w s Y { X with H := H' } m w' := by
 obtain ⟨col, h⟩ := h
 obtain ⟨h3, h4⟩ := h.tabled hk h1 h2
 refine ⟨_, ⟨paintC w col 2, ?_⟩, h4⟩
 have e : srvA Y X = srvA { Y with tl := l' } { X with H := H' } := by
  show #[treeP Y.t, Pp.tabP Y.tl.t, .map (some Y.mp), .map (some Y.sp), Y.wv, .int .i64 X.F, .bool X.G] = #[treeP Y.t, Pp.tabP l'.t, .map (some Y.mp), .map (some Y.sp), Y.wv, .int .i64 X.F, .bool X.G]
  rw [ht]
 rw [← e]
 exact h3
theorem eH_name {H : List Pp.Hd} {i : Int} {p : Pp.Pr} (h : Pp.eH H i p = 0) : p.name.size ≤ 32 := by
 unfold Pp.eH Pp.setE at h
 split at h
 · next hb => exact Pp.nameB_size hb.1
 · omega
theorem sH_same {H : List Pp.Hd} {i : Int} {p : Pp.Pr} (h : Pp.eH H i p ≠ 0) : Pp.sH H i p = H := by
 unfold Pp.sH Pp.setR
 rw [if_neg]
 exact h
set_option maxRecDepth 100000 in
set_option maxHeartbeats 4000000 in
theorem setprop_c (h : Srv w s Y X k) (hV : V0 X k) (hk : k + 1 ≤ 1000) {a i : Int} (ha : 0 ≤ a) (hi : I64 i) (p : Pp.Pr) (z1 : p.name.size ≤ maxLen) (z2 : p.typ.size ≤ maxLen) :
   Calls Tryz.prog 95 #[srvP s, .int .i64 a, .int .i64 i, Pp.prV p] w fun ex w' => ex = .returned (.int .i64 (Pp.eH X.H i p)) ∧ SrvTo w s Y (X.setp a i p) (k + 1) w' := by
 obtain ⟨wb, hwb⟩ : ∃ wb, wb = w.alloc (.cells #[.string p.name, .string p.typ, .string p.data] 35) := ⟨_, rfl⟩
 have hbel : Below w.heap.size w wb := by rw [hwb]; exact (Below.refl _ _).alloc (Nat.le_refl _) _
 have hbx : Blk wb w.heap.size 35 #[.string p.name, .string p.typ, .string p.data] := by rw [hwb]; exact Blk.new w _ _
 have hs := h.next hbel
 obtain ⟨⟨-, b1, -, -, -, -, -⟩, -⟩ := hs.blk.c7
 obtain ⟨⟨x0, x1, x2⟩, -⟩ := hbx.c3
 have HW := Lib.hid hwb
 have HB := Lib.hid hbel
 obtain ⟨X1, hX1⟩ : ∃ X1 : Xs, X1 = { X with H := Pp.sH X.H i p } := ⟨_, rfl⟩
 obtain ⟨err, herr⟩ : ∃ err, err = Pp.eH X.H i p := ⟨_, rfl⟩
 have HC := Lib.hid (fun (W : World) (hW : Below wb.heap.size wb W) => (show Calls Tryz.prog 119 #[Pp.tabP Y.tl.t, .int .i64 i, Pp.prV p] W fun ex w' => ex = .returned (.int .i64 err) ∧ Blk w' w.heap.size 35 #[.string p.name, .string p.typ, .string p.data] ∧ ∃ Y1, Srv w' s Y1 X1 (k + 1) ∧ Turn (Y.foot s) (Y1.foot s) w w' from by
   rw [herr]
   refine (Pp.tt_set (hs.next hW).tab hV.h (by omega) hi p z1 z2).mono fun ex w' hh => ?_
   obtain ⟨h1, l', h2, h3, h4⟩ := hh
   have h5 := (hs.next hW).table_to (Nat.le_succ k) h2 h3 h4
   obtain ⟨Y1, h6, h7⟩ := h5
   refine ⟨h1, h7.blk (hbx.next hW) (fun hf => ?_), Y1, by rw [hX1]; exact h6, h7.after_below (hW.on hbel hbel.size)⟩
   have := h.foot_lt hf
   omega))
 have hE : X1.E.length ≤ 4096 := by rw [hX1]; exact hV.ev
 have HE := Lib.hid hE
 by_cases he : err = 0
 · subst he
   have hnm := eH_name herr.symm
   by_cases h0 : a = 0
   · subst h0
     have HX := Lib.hid (show X.setp 0 i p = X1 by unfold Xs.setp; rw [← herr]; simp [hX1])
     rw [← herr]
     clear h hV hs hbx hbel hX1 hE herr hnm
     go_enter Tryz.func95, Tryz.ntmps95
     go_upto_region 1 with fail
     rw [← HW.out]
     clear hwb
     go_region_law (go_simp; (go_at_call 119; ((with_reducible refine (HC.out _ (Below.refl _ _).drew).mono ?_); rintro ex w1 ⟨rfl, hx1, Y1, S1, U1⟩); have HS := Lib.hid (And.intro S1 U1); clear S1 U1 hx1))
     all_goals (go_wp2_with (go_at_call 67; ((with_reducible refine (client_c _ _).mono ?_); rintro e w2 ⟨rfl, rfl⟩)))
     all_goals go_ret
     all_goals exact ⟨rfl, by rw [HX.out]; exact ⟨_, HS.out.1, HS.out.2⟩⟩
   · have HX := Lib.hid (show X.setp a i p = X1.tell ⟨5, i, 0, 0, 0, 0, p.name⟩ by unfold Xs.setp; rw [← herr]; simp [hX1, h0])
     have hpos : (0 : Int) < a := by omega
     rw [← herr]
     have HN := Lib.hid (show p.name.size ≤ 281474976710656 by omega)
     clear h hV hs hbx hbel hX1 hE herr hnm h0 ha
     go_enter Tryz.func95, Tryz.ntmps95
     go_upto_region 1 with fail
     rw [← HW.out]
     clear hwb
     go_region_law (go_simp; (go_at_call 119; ((with_reducible refine (HC.out _ (Below.refl _ _).drew).mono ?_); rintro ex w1 ⟨rfl, hx1, Y1, S1, U1⟩); have HS := Lib.hid (And.intro S1 U1); clear S1 U1; obtain ⟨⟨y0, y1, y2⟩, -⟩ := hx1.c3; clear hx1))
     all_goals (go_wp2_with (first
      | (go_at_call 67; ((with_reducible refine (client_c _ _).mono ?_); rintro e w2 ⟨rfl, rfl⟩))
      | (go_at_call 99; ((with_reducible refine (Pp.strclone_c _ _ HN.out).mono ?_); rintro e w2 ⟨rfl, hb⟩); have HS2 := Lib.hid (And.intro (HS.out.1.next hb) (HS.out.2.then_below hb)); clear hb)
      | (go_at_call 110; ((with_reducible refine (tell_c HS2.out.1 HE.out ⟨5, i, 0, 0, 0, 0, p.name⟩).mono ?_); rintro e w3 ⟨rfl, T3⟩); have HT := Lib.hid (SrvTo.trans HS2.out.2 T3); clear T3)))
     all_goals go_ret
     all_goals exact ⟨rfl, by rw [HX.out]; exact HT.out⟩
 · have he' : (err == 0) = false := by simpa using he
   have HX := Lib.hid (show X.setp a i p = X1 by
     have hne : Pp.eH X.H i p ≠ 0 := by rw [← herr]; exact he
     unfold Xs.setp; simp only [if_neg hne, if_neg (fun hh : Pp.eH X.H i p = 0 ∧ a ≠ 0 => hne hh.1), hX1, sH_same hne])
   rw [← herr]
   clear h hV hs hbx hbel hX1 hE herr he
   go_enter Tryz.func95, Tryz.ntmps95
   go_upto_region 1 with fail
   rw [← HW.out]
   clear hwb
   go_region_law (go_simp; (go_at_call 119; ((with_reducible refine (HC.out _ (Below.refl _ _).drew).mono ?_); rintro ex w1 ⟨rfl, hx1, Y1, S1, U1⟩); have HS := Lib.hid (And.intro S1 U1); clear S1 U1 hx1))
   all_goals (go_wp2_with (go_at_call 67; ((with_reducible refine (client_c _ _).mono ?_); rintro e w2 ⟨rfl, rfl⟩)))
   all_goals go_ret
   all_goals exact ⟨rfl, by rw [HX.out]; exact ⟨_, HS.out.1, HS.out.2⟩⟩
end
end Go.Proofs.YtnhchpiafchdgaaGreat
namespace Go.Proofs.YtnhchpiafchdgaaGreat
open Go.RowKit Go.Shelf Go.Maps
def Xs.ask (X : Xs) (q : Rq) : Int × Xs :=
 if q.kind = 3 then (0, X.tell ⟨1, q.win, 0, 0, 0, 0, noText⟩)
 else if q.kind = 4 then (X.tell ⟨3, q.win, 0, 0, 0, 0, noText⟩).carry q
 else if q.kind = 5 then (if rightB q.x q.y q.a q.e = false then (10, X) else (0, X.tell ⟨2, q.win, q.x, q.y, q.a, q.e, noText⟩))
 else (80, X)
section
variable {w w' : World} {s : Nat} {Y : Yl} {X : Xs} {k m : Nat}
theorem tell_RL (X : Xs) (e : Ev) : (X.tell e).R = X.R ∧ (X.tell e).L = X.L ∧ (X.tell e).H = X.H ∧ (X.tell e).M = X.M ∧ (X.tell e).F = X.F ∧ (X.tell e).G = X.G := by
 unfold Xs.tell; split <;> exact ⟨rfl, rfl, rfl, rfl, rfl, rfl⟩
set_option maxRecDepth 100000 in
set_option maxHeartbeats 4000000 in
theorem ask_c (h : Srv w s Y X k) (hS : Sane X.R X.L m) (hE : X.E.length ≤ 4096) (q : Rq) (hi : I64 q.win) : Calls Tryz.prog 97 #[srvP s, rqV q] w fun ex w' => ex = .returned (.int .i64 (X.ask q).1) ∧ SrvTo w s Y (X.ask q).2 k w' := by
 obtain ⟨wb, hwb⟩ : ∃ wb, wb = w.alloc (.cells #[.int .i64 q.kind, .int .i64 q.win, .int .i64 q.other, .int .i64 q.x, .int .i64 q.y, .int .i64 q.a, .int .i64 q.e, .string q.p.name, .string q.p.typ, .string q.p.data] 37) := ⟨_, rfl⟩
 have hbel : Below w.heap.size w wb := by rw [hwb]; exact (Below.refl _ _).alloc (Nat.le_refl _) _
 have hbx : Blk wb w.heap.size 37 (rqL q) := by rw [hwb]; exact Blk.new w _ _
 have hs := h.next hbel
 obtain ⟨x0, x1, x2, x3, x4, x5, x6, x7, x8, x9⟩ := hbx.c10
 have HW := Lib.hid hwb
 have HB := Lib.hid hbel
 have HX := Lib.hid hbx
 have HT := Lib.hid (fun (e : Ev) => tell_c hs hE e)
 have HQ := Lib.hid (SrvTo.same h hbel)
 have HF := Lib.hid (fun b (hb : Y.foot s b) => h.foot_lt hb)
 obtain ⟨kind, hkd⟩ : ∃ n, n = q.kind := ⟨_, rfl⟩
 unfold Xs.ask
 rw [← hkd] at x0 ⊢
 by_cases h3 : kind = 3
 · subst h3
   rw [if_pos rfl]
   clear h hS hs hbx hbel hkd
   go_enter Tryz.func97, Tryz.ntmps97
   go_upto_region 1 with fail
   rw [← HW.out]
   clear hwb
   go_wp2_with (go_at_call 110; ((with_reducible refine (HT.out ⟨1, q.win, 0, 0, 0, 0, ⟨#[]⟩⟩).mono ?_); rintro e w3 ⟨rfl, T3⟩); have HS := Lib.hid (SrvTo.after HB.out T3); clear T3)
   go_ret
   exact ⟨rfl, HS.out⟩
 · rw [if_neg h3]
   have h3' : (kind == 3) = false := by simpa using h3
   by_cases h4 : kind = 4
   · subst h4
     rw [if_pos rfl]
     have HC := Lib.hid (fun (W : World) (Y1 : Yl) (S1 : Srv W s Y1 (X.tell ⟨3, q.win, 0, 0, 0, 0, ⟨#[]⟩⟩) k) => carry_c S1 (m := m) (by rw [(tell_RL X _).1, (tell_RL X _).2.1]; exact hS) q hi)
     have HK := Lib.hid hkd
     clear h hS hs hbx hbel h3 h3' hkd
     go_enter Tryz.func97, Tryz.ntmps97
     go_upto_region 1 with fail
     rw [← HW.out]
     clear hwb
     go_wp2_with (first
       | (go_at_call 110; ((with_reducible refine (HT.out ⟨3, q.win, 0, 0, 0, 0, ⟨#[]⟩⟩).mono ?_); rintro e w3 ⟨rfl, Y1, S1, U1⟩); have HS := Lib.hid (And.intro S1 U1); have HX3 := U1.blk HX.out (fun hf => Nat.lt_irrefl _ (HF.out _ hf)); clear x0 x1 x2 x3 x4 x5 x6 x7 x8 x9; obtain ⟨x0, x1, x2, x3, x4, x5, x6, x7, x8, x9⟩ := HX3.c10; clear S1 U1 HX3)
       | (go_at_call 98; ((with_reducible refine (HC.out _ _ HS.out.1).mono ?_); rintro e w4 ⟨rfl, T4⟩); have HR := Lib.hid (SrvTo.after HB.out (SrvTo.trans HS.out.2 T4)); clear T4))
     go_ret
     exact ⟨rfl, HR.out⟩
   · rw [if_neg h4]
     have h4' : (kind == 4) = false := by simpa using h4
     by_cases h5 : kind = 5
     · subst h5
       rw [if_pos rfl]
       have HR := Lib.hid (fun W => right_c q.x q.y q.a q.e W)
       cases hr : rightB q.x q.y q.a q.e with
       | false =>
        rw [if_pos rfl]
        rw [hr] at HR
        clear h hS hs hbx hbel hkd h3 h3' h4 h4' hr HT
        go_enter Tryz.func97, Tryz.ntmps97
        go_upto_region 1 with fail
        rw [← HW.out]
        clear hwb
        go_wp2_with (go_at_call 81; ((with_reducible refine (HR.out _).mono ?_); rintro e w3 ⟨rfl, hb⟩); have HS := Lib.hid hb; clear hb)
        go_ret
        exact ⟨rfl, HQ.out.then HS.out⟩
       | true =>
        rw [if_neg (by decide)]
        rw [hr] at HR
        have HT2 := Lib.hid (fun (W : World) (hW : Below wb.heap.size wb W) (e : Ev) => tell_c (hs.next hW) hE e)
        clear h hS hs hbx hbel hkd h3 h3' h4 h4' hr HT
        go_enter Tryz.func97, Tryz.ntmps97
        go_upto_region 1 with fail
        rw [← HW.out]
        clear hwb
        go_wp2_with (first
         | (go_at_call 81; ((with_reducible refine (HR.out _).mono ?_); rintro e w3 ⟨rfl, hb⟩); have HS := Lib.hid hb; clear x0 x1 x2 x3 x4 x5 x6 x7 x8 x9; obtain ⟨x0, x1, x2, x3, x4, x5, x6, x7, x8, x9⟩ := (HX.out.next hb).c10; clear hb)
         | (go_at_call 110; ((with_reducible refine (HT2.out _ HS.out ⟨2, q.win, q.x, q.y, q.a, q.e, ⟨#[]⟩⟩).mono ?_); rintro e w4 ⟨rfl, T4⟩); have HZ := Lib.hid (SrvTo.after (HS.out.on HB.out HB.out.size) T4); clear T4))
        go_ret
        exact ⟨rfl, HZ.out⟩
     · rw [if_neg h5]
       have h5' : (kind == 5) = false := by simpa using h5
       clear h hS hs hbx hbel hkd h3 h4 h5 HT
       go_enter Tryz.func97, Tryz.ntmps97
       go_upto_region 1 with fail
       rw [← HW.out]
       clear hwb
       go_wp2_with fail
       go_ret
       exact ⟨rfl, HQ.out⟩
set_option maxRecDepth 100000 in
set_option maxHeartbeats 4000000 in
theorem foreign_c (h : Srv w s Y X k) (hV : V0 X k) {i : Int} (hin : inM X.M i) : Calls Tryz.prog 96 #[srvP s, .int .i64 i] w fun ex w' => ex = .returned (.bool (decide ((winL X.R X.L i).par = 0) || decide (ownM (winL X.R X.L i).par X.M ≠ ownM i X.M))) ∧ Below w.heap.size w w' := by
 have hi := in_i64 hV hin
 obtain ⟨v, hv⟩ : ∃ v, v = winL X.R X.L i := ⟨_, rfl⟩
 have HG := (shows_all hV.s hi).cget w _ _ h.tree
 rw [← hv] at HG ⊢
 obtain ⟨b0, -⟩ := h.blk.c7.1
 have HH := Lib.hid HG
 have hpar : v.par = 0 ∨ (v.par ≠ 0 ∧ inM X.M v.par) := by
   obtain ⟨u, hu, e⟩ := (hV.same i).2 hin
   have hd := nd_of hV.s.uniq hu
   have e1 : v = u := by
     rw [hv]
     unfold winL
     rw [← e, hd]; rfl
   by_cases h0 : v.par = 0
   · exact .inl h0
   · refine .inr ⟨h0, (hV.same _).1 ?_⟩
     obtain ⟨dp, hdp⟩ := par_there hV.s.toGood hu
     obtain ⟨h1, h2⟩ := getR_some (ndL_some hdp).1
     rw [e1] at h0 ⊢
     rcases h2 with ⟨h2, -⟩ | ⟨-, h2⟩
     · exact absurd h2 h0
     · exact ⟨_, h2, h1⟩
 have HM := Lib.hid (fun (W : World) (hW : Below w.heap.size w W) => (show W.cell? ⟨s, 2, none⟩ = some (.map (some Y.mp)) ∧ (Instr.lookup 77 (.map (some Y.mp)) (.int .i64 i) false).run Tryz.prog W = .ok (.int .i64 (ownM i X.M)) W from
   ⟨(h.next hW).blk.at_ (i := 2) rfl, by have := look_mak1 (h.next hW) hi; rw [makF_of hin] at this; exact this⟩))
 rcases hpar with hp | ⟨hp, hpin⟩
 · have hd : decide (v.par = 0) = true := by simpa using hp
   have hd2 : (v.par == 0) = true := by simpa using hp
   rw [hd, Bool.true_or]
   clear h hV hin hv HG
   go_enter Tryz.func96, Tryz.ntmps96
   go_upto_region 2 with (go_at_call 48; ((with_reducible refine (HH.out).mono ?_); rintro e w1 ⟨rfl, hb⟩); have HB := Lib.hid hb; clear hb)
   obtain ⟨wc, hwc⟩ : ∃ wc, wc = w1.alloc (.cells #[.int .i64 v.id, .int .i64 0, .int .i64 v.x, .int .i64 v.y, .int .i64 v.w, .int .i64 v.h, .bool v.on] 61) := ⟨_, rfl⟩
   have hx : Blk wc w1.heap.size 61 #[.int .i64 v.id, .int .i64 0, .int .i64 v.x, .int .i64 v.y, .int .i64 v.w, .int .i64 v.h, .bool v.on] := by rw [hwc]; exact Blk.new w1 _ _
   have hb2 : Below w.heap.size w wc := by rw [hwc]; exact HB.out.alloc HB.out.size _
   have y1 := hx.at_ (i := 1) rfl
   rw [← hwc]
   obtain ⟨z2, zl⟩ := HM.out wc hb2
   have HB2 := Lib.hid hb2
   clear hx hb2 hwc
   go_quiet (fail)
   go_wp2_with fail
   go_ret
   exact ⟨rfl, below_drewN HB2.out _⟩
 · have hd : decide (v.par = 0) = false := by simpa using hp
   have hd2 : (v.par == 0) = false := by simpa using hp
   rw [hd, Bool.false_or]
   have HI := Lib.hid (fun (W : World) (hW : Below w.heap.size w W) => (show Calls Tryz.prog 79 #[srvP s, .int .i64 v.par, .int .i64 (ownM i X.M)] W fun e w' => e = .returned (.bool (decide (ownM v.par X.M = ownM i X.M))) ∧ w' = W from by
     have h1 := isof_c (h.next hW) (in_i64 hV hpin) (ownM i X.M)
     rw [isof_of hpin] at h1
     exact h1.mono fun e w' hh => ⟨hh.1, hh.2.symm⟩))
   have HE := Lib.hid (show (!decide (ownM v.par X.M = ownM i X.M)) = decide (ownM v.par X.M ≠ ownM i X.M) by simp)
   clear h hV hin hv HG
   go_enter Tryz.func96, Tryz.ntmps96
   go_upto_region 2 with (go_at_call 48; ((with_reducible refine (HH.out).mono ?_); rintro e w1 ⟨rfl, hb⟩); have HB := Lib.hid hb; clear hb)
   obtain ⟨wc, hwc⟩ : ∃ wc, wc = w1.alloc (.cells #[.int .i64 v.id, .int .i64 v.par, .int .i64 v.x, .int .i64 v.y, .int .i64 v.w, .int .i64 v.h, .bool v.on] 61) := ⟨_, rfl⟩
   have hx : Blk wc w1.heap.size 61 #[.int .i64 v.id, .int .i64 v.par, .int .i64 v.x, .int .i64 v.y, .int .i64 v.w, .int .i64 v.h, .bool v.on] := by rw [hwc]; exact Blk.new w1 _ _
   have hb2 : Below w.heap.size w wc := by rw [hwc]; exact HB.out.alloc HB.out.size _
   have y1 := hx.at_ (i := 1) rfl
   rw [← hwc]
   obtain ⟨z2, -⟩ := HM.out wc hb2
   have zl := fun n => (HM.out (wc.drewN n) (below_drewN hb2 n)).2
   have HB2 := Lib.hid hb2
   clear hx hb2 hwc
   go_quiet ((go_at_call 79; exact Calls.quiet_of_same (HI.out _ (below_drewN HB2.out _))))
   go_wp2_with fail
   go_ret
   exact ⟨ret_bool HE.out, below_drewN HB2.out _⟩
end
end Go.Proofs.YtnhchpiafchdgaaGreat
namespace Go.Proofs.YtnhchpiafchdgaaGreat
open Go.RowKit Go.Shelf Go.Maps
section
variable {w w' : World} {s : Nat} {Y : Yl} {X : Xs} {k m : Nat}
theorem Srv.tab_drop (h : Srv w s Y X k) (hH : Pp.HOk X.H) {i : Int} (hi : I64 i) : Calls Tryz.prog 111 #[Pp.tabP Y.tl.t, .int .i64 i] w fun e w' => e = .returned (.tuple #[]) ∧ SrvTo w s Y { X with H := Pp.dropH i X.H } k w' :=
 (Pp.tt_drop h.tab hH hi).mono fun e w' hh => ⟨hh.1, by
  obtain ⟨l', h2, h3, h4⟩ := hh.2
  exact h.table_to (Nat.le_refl k) h2 h3 h4⟩
theorem Srv.del_both (h : Srv w s Y X k) {i : Int} (hi : I64 i) (ty : TypeId) : ∃ w1, (Builtin.delete_ #[78, 3] ty #[.map (some Y.sp), .int .i64 i]).run Tryz.prog w = .ok (.tuple #[]) w1 ∧ w1.cell? ⟨s, 2, none⟩ = some (.map (some Y.mp)) ∧
  ∀ ty, ∃ w2, (Builtin.delete_ #[77, 3] ty #[.map (some Y.mp), .int .i64 i]).run Tryz.prog w1 = .ok (.tuple #[]) w2 ∧ SrvTo w s Y { X with M := dropM i X.M } k w2 := by
 obtain ⟨col, h⟩ := h
 obtain ⟨n, hn, hm⟩ := h.sav
 obtain ⟨w1, h1, ⟨n', hn', h2⟩, h3⟩ := hm.del Tryz.underlying78 hi ty
 obtain ⟨h4, h5⟩ := h.saved (Nat.le_refl k) (Nat.le_trans hn' hn) h2 h3
 refine ⟨w1, h1, h4.srv.at_ (i := 2) rfl, fun ty2 => ?_⟩
 obtain ⟨q, hq, hmq⟩ := h4.mak
 obtain ⟨w2, g1, ⟨q', hq', g2⟩, g3⟩ := hmq.del Tryz.underlying77 hi ty2
 obtain ⟨g4, g5⟩ := h4.makers (Nat.le_refl k) (Nat.le_trans hq' hq) g2 g3
 refine ⟨w2, g1, Y, ⟨paintC w1 (paintC w col 4) 3, ?_⟩, h5.trans g5⟩
 rw [makF_drop, savF_drop]
 exact g4.as rfl rfl rfl rfl
theorem forget_eq (X : Xs) (i : Int) : X.forget i = { (if ownM i X.M ≠ 0 then X.tell ⟨4, i, 0, 0, 0, 0, noText⟩ else X) with H := Pp.dropH i X.H, M := dropM i X.M } := by
 unfold Xs.forget
 dsimp only
 split
 · rw [(tell_RL X _).2.2.1, (tell_RL X _).2.2.2.1]
 · rfl
theorem forget_parts (X : Xs) (i : Int) : (X.forget i).R = X.R ∧ (X.forget i).L = X.L ∧ (X.forget i).H = Pp.dropH i X.H ∧ (X.forget i).M = dropM i X.M ∧ (X.forget i).F = X.F ∧ (X.forget i).G = X.G := by
 rw [forget_eq]
 split
 · obtain ⟨a, b, c, d, e, f⟩ := tell_RL X ⟨4, i, 0, 0, 0, 0, noText⟩
   exact ⟨a, b, rfl, rfl, e, f⟩
 · exact ⟨rfl, rfl, rfl, rfl, rfl, rfl⟩
theorem tell_len {X : Xs} (h : X.E.length ≤ 4096) (e : Ev) : (X.tell e).E.length ≤ 4096 := by
 unfold Xs.tell; split
 · next hh => simp; omega
 · exact h
theorem forget_len {X : Xs} (h : X.E.length ≤ 4096) (i : Int) : (X.forget i).E.length ≤ 4096 := by
 rw [forget_eq]
 split
 · exact tell_len h _
 · exact h
structure Fg (X : Xs) : Prop where
 ev : X.E.length ≤ 4096
 h : Pp.HOk X.H
 own : ∀ m ∈ X.M, 0 ≤ m.own
theorem Fg.forget {X : Xs} (h : Fg X) (i : Int) : Fg (X.forget i) := by
 obtain ⟨a, b, c, d, e, f⟩ := forget_parts X i
 exact ⟨forget_len h.ev i, by rw [c]; exact h.h.drop i, fun m hm => h.own m (by rw [d] at hm; exact (dropM_mem.1 hm).1)⟩
theorem Fg.fold {X : Xs} (h : Fg X) : ∀ gs : List Int, Fg (gs.foldl Xs.forget X) := by
 intro gs
 induction gs generalizing X with
 | nil => exact h
 | cons a t ih => exact ih (h.forget a)
theorem fold_snoc {xs : List Int} {j : Nat} {x : Int} (hx : xs[j]? = some x) (X : Xs) : (xs.take (j + 1)).foldl Xs.forget X = ((xs.take j).foldl Xs.forget X).forget x := by
 rw [show xs.take (j + 1) = xs.take j ++ [x] by rw [List.take_add_one, hx]; rfl, List.foldl_append]; rfl
def DyS (w : World) (s : Nat) (Y : Yl) (X0 : Xs) (k : Nat) (v : Value) (xs : List Int) (j : Nat) (wr : World) : Prop :=
 ∃ Y1, Srv wr s Y1 ((xs.take j).foldl Xs.forget X0) k ∧ Turn (Y.foot s) (Y1.foot s) w wr ∧ RdI wr v xs ∧ (xs ≠ [] → ∀ r, v.ownBlock = some r → r < wr.heap.size ∧ ¬ Y1.foot s r)
theorem rdI_turn {F F' : Nat → Prop} {v : Value} {xs : List Int} (h : RdI w v xs) (hT : Turn F F' w w') (hn : xs ≠ [] → ∀ r, v.ownBlock = some r → r < w.heap.size ∧ ¬ F r) : RdI w' v xs := by
 obtain ⟨p, c, rfl, hc⟩ := h
 refine ⟨p, c, rfl, fun j x hx => ?_⟩
 obtain ⟨g, rfl, h1⟩ := hc j x hx
 refine ⟨g, rfl, ?_⟩
 obtain ⟨h2, h3⟩ := hn (fun e => by rw [e] at hx; simp at hx) g rfl
 have := hT.block g h2 h3
 unfold World.cell? at h1 ⊢
 dsimp only at h1 ⊢
 rw [this]; exact h1
theorem rdI_own {v : Value} {xs : List Int} (h : RdI w v xs) : ∃ p c, v = .slice p xs.length c := by
 obtain ⟨p, c, e, -⟩ := h
 exact ⟨p, c, e⟩
theorem DyS.turn {X0 : Xs} {v : Value} {xs : List Int} {j : Nat} {wr : World} {x : Int} (hx : xs[j]? = some x) {Y1 : Yl} (hY : Srv wr s Y1 ((xs.take j).foldl Xs.forget X0) k ∧ Turn (Y.foot s) (Y1.foot s) w wr ∧ RdI wr v xs ∧ (xs ≠ [] → ∀ r, v.ownBlock = some r → r < wr.heap.size ∧ ¬ Y1.foot s r))
  (k1 : SrvTo wr s Y1 (((xs.take j).foldl Xs.forget X0).forget x) k w') : DyS w s Y X0 k v xs (j + 1) w' := by
 obtain ⟨h1, h2, h3, h4⟩ := hY
 obtain ⟨Y2, h5, h6⟩ := k1
 refine ⟨Y2, by rw [fold_snoc hx]; exact h5, h2.trans h6, rdI_turn h3 h6 h4, fun hne r hr => ?_⟩
 obtain ⟨h7, h8⟩ := h4 hne r hr
 exact ⟨Nat.lt_of_lt_of_le h7 h6.size, h6.not h7 h8⟩
theorem fold_parts (X : Xs) : ∀ gs : List Int, (gs.foldl Xs.forget X).R = X.R ∧ (gs.foldl Xs.forget X).L = X.L ∧ (gs.foldl Xs.forget X).F = X.F ∧ (gs.foldl Xs.forget X).G = X.G ∧ (∀ m, m ∈ (gs.foldl Xs.forget X).M ↔ m ∈ X.M ∧ m.win ∉ gs) ∧ (gs.foldl Xs.forget X).M.Sublist X.M ∧ (gs.foldl Xs.forget X).H.length ≤ X.H.length := by
 intro gs
 induction gs generalizing X with
 | nil => exact ⟨rfl, rfl, rfl, rfl, fun m => by simp, List.Sublist.refl _, Nat.le_refl _⟩
 | cons a t ih =>
  obtain ⟨h1, h2, h3, h4, h5, h6, h7⟩ := ih (X.forget a)
  obtain ⟨a1, a2, a3, a4, a5, a6⟩ := forget_parts X a
  refine ⟨h1.trans a1, h2.trans a2, h3.trans a5, h4.trans a6, fun m => ?_, h6.trans (by rw [a4]; exact List.filter_sublist), Nat.le_trans h7 (by rw [a3]; exact List.length_filter_le _ _)⟩
  rw [List.foldl_cons, h5 m, a4, dropM_mem]
  simp only [List.mem_cons, not_or]
  exact ⟨fun ⟨⟨q1, q2⟩, q3⟩ => ⟨q1, q2, q3⟩, fun ⟨q1, q2, q3⟩ => ⟨⟨q1, q2⟩, q3⟩⟩
theorem fold_in {X : Xs} {gs : List Int} {y : Int} (h : inM X.M y) (hn : y ∉ gs) : inM (gs.foldl Xs.forget X).M y := by
 obtain ⟨m, h1, rfl⟩ := h
 exact ⟨m, ((fold_parts X gs).2.2.2.2.1 m).2 ⟨h1, hn⟩, rfl⟩
set_option maxRecDepth 100000 in
set_option maxHeartbeats 8000000 in
theorem sdestroy_c (h : Srv w s Y X k) (hV : V0 X k) {i : Int} (hi : I64 i) : Calls Tryz.prog 80 #[srvP s, .int .i64 i] w fun ex w' => ex = .returned (.int .i64 (tDestroy X.R i X.L).2.2) ∧ SrvTo w s Y (X.destroy i) k w' := by
 obtain ⟨k1, k2, -, k4⟩ := t_destroy hV.s hi
 obtain ⟨b0, -⟩ := h.blk.c7.1
 obtain ⟨X0, hX0⟩ : ∃ X0 : Xs, X0 = { X with L := (tDestroy X.R i X.L).1 } := ⟨_, rfl⟩
 obtain ⟨xs, hxs⟩ : ∃ xs, xs = (tDestroy X.R i X.L).2.1 := ⟨_, rfl⟩
 obtain ⟨err, herr⟩ : ∃ err, err = (tDestroy X.R i X.L).2.2 := ⟨_, rfl⟩
 have hfin : xs.foldl Xs.forget X0 = X.destroy i := by
  unfold Xs.destroy
  rw [hxs, hX0]
  unfold tDestroy
  split
  · rfl
  · rfl
 have hfacts : xs.Nodup ∧ ∀ x ∈ xs, inM X.M x := by
  rw [hxs]
  unfold tDestroy
  split
  · exact ⟨List.nodup_nil, fun x hx => by cases hx⟩
  · next hn =>
    have hask := (ask_iff X.L i).1 (Decidable.not_not.1 hn)
    obtain ⟨v, hv, rfl⟩ := hask.2
    obtain ⟨m, -, -, hnd, hin, -⟩ := gone_facts hV.s hv
    exact ⟨hnd, fun x hx => (hV.same x).1 (hin x hx)⟩
 have hF0 : Fg X0 := ⟨by rw [hX0]; exact hV.ev, by rw [hX0]; exact hV.h, fun m hm => (hV.own m (by rw [hX0] at hm; exact hm)).1⟩
 have hM0 : X0.M = X.M := by rw [hX0]
 have HC := Lib.hid (show Calls Tryz.prog 109 #[treeP Y.t, .int .i64 i] w fun ex w' => ∃ v, ex = .returned (.tuple #[v, .int .i64 err]) ∧ DyS w s Y X0 k v xs 0 w' from by
  rw [herr]
  refine (k4 w Y.t Y.l h.tree).mono fun ex w' hh => ?_
  obtain ⟨v, h1, h2, h3, l', h4, h5, h6⟩ := hh
  rw [← hxs] at h2
  have hlt : xs ≠ [] → ∀ r, v.ownBlock = some r → r < w'.heap.size := fun hne r hr => by
    obtain ⟨p, c, rfl, hcl⟩ := h2
    cases hq : xs with
    | nil => exact absurd hq hne
    | cons a t =>
      obtain ⟨g, e1, e2⟩ := hcl 0 a (by rw [hq]; rfl)
      subst e1
      have e3 : g = r := by simpa [Value.ownBlock] using hr
      rw [← e3]
      exact World.block_lt_of_cell? _ _ e2
  obtain ⟨col, hc⟩ := h
  obtain ⟨n, hn, hm⟩ := hc.mak
  have h7 := hc.tree
  have hfoot : ∀ b, Y.foot s b → b < w.heap.size := fun b hb => hc.foot_lt hb
  obtain ⟨n', hn', hm'⟩ := hc.sav
  have hY : SrvR (paintC w col 1) w' s (srvA Y X) { Y with l := l' } { X with L := (tDestroy X.R i X.L).1 } (makF X.M) (savF X.M) k :=
    ⟨(hc.c0.block hc.c1 (by decide) h5 rfl).trans hc.srv, h4, hc.tab.kept fun b hb => hc.c2.block hc.c1 (by decide) h5 hb, ⟨n, hn, hm.same (hc.c3.block hc.c1 (by decide) h5 rfl)⟩, ⟨n', hn', hm'.same (hc.c4.block hc.c1 (by decide) h5 rfl)⟩,
      row_kept hc.row fun b hb => hc.c5.block hc.c1 (by decide) h5 hb, hc.c0.stay h5.size, hc.c1.turn h5 (fun b hb => h4.foot_lt hb), hc.c2.stay h5.size, hc.c3.stay h5.size, hc.c4.stay h5.size, hc.c5.stay h5.size⟩
  refine ⟨v, h1, { Y with l := l' }, ⟨_, by rw [List.take_zero, List.foldl_nil, hX0]; exact hY⟩, h5.wide (fun b hb => .inr (.inl hb)) (fun b hb => ?_), h2, fun hne r hr => ⟨hlt hne r hr, fun hf => ?_⟩⟩
  · rcases hb with hb | hb | hb
    · exact .inr (.inl hb)
    · exact .inl hb
    · exact .inr (.inr (.inr hb))
  · have h8 := h3 r hr
    rcases hf with hf | hf | hf
    · have := hfoot r (.inl hf); omega
    · exact h6 r hr hf
    · have := hfoot r (.inr (.inr hf)); omega)
 have HR := Lib.hid (fun (j : Nat) (v : Value) (wr : World) (hj : j ≤ xs.length) (hD : DyS w s Y X0 k v xs j wr) => hD)
 have HXF := Lib.hid (fun (j : Nat) (x : Int) (hx : xs[j]? = some x) => (show inM ((xs.take j).foldl Xs.forget X0).M x ∧ I64 x ∧ Fg ((xs.take j).foldl Xs.forget X0) from
  ⟨fold_in (by rw [hM0]; exact hfacts.2 x (List.mem_of_getElem? hx)) (nodup_take hfacts.1 hx), in_i64 hV (hfacts.2 x (List.mem_of_getElem? hx)), hF0.fold _⟩))
 have HFIN := Lib.hid hfin
 have hlen : xs.length ≤ 1000 := by rw [hxs]; exact k2
 rw [← herr]
 clear k1 k2 k4 hX0 hxs herr hfin hfacts hF0 hM0 h hV hi HR
 go_enter Tryz.func80, Tryz.ntmps80
 go_upto_region 2 with (go_at_call 109; ((with_reducible refine (HC.out).mono ?_); rintro ex w1 ⟨v, rfl, hD⟩); have HD0 := Lib.hid hD; obtain ⟨Y9, -, -, hr9, -⟩ := hD; obtain ⟨p, c, hv⟩ := rdI_own hr9; subst hv; clear hr9)
 obtain ⟨n, hn⟩ : ∃ n, n = xs.length := ⟨_, rfl⟩
 have HN := Lib.hid hn
 rw [← hn] at hlen ⊢
 have hn0 : (n : Int) ≤ 1000 := by omega
 clear hn hlen
 go_wp2_with fail
 go_loopw [20] (fun z wr => ∃ j : Nat, j ≤ n ∧ z = .int .i64 j ∧ DyS w s Y X0 k (.slice p n c) xs j wr) (fun z _ => n - (intOf z).toNat)
 case atStart => exact ⟨0, Nat.zero_le _, rfl, by rw [HN.out]; exact HD0.out⟩
 case round =>
  obtain ⟨j, hj, rfl, hD⟩ := hrel
  by_cases hlt : j < n
  · obtain ⟨x, hx⟩ : ∃ x, xs[j]? = some x := ⟨_, List.getElem?_eq_getElem (by rw [← HN.out]; exact hlt)⟩
    obtain ⟨hin, hi6, hFg⟩ := HXF.out j x hx
    obtain ⟨Y1, hY⟩ := hD
    obtain ⟨S1, U1, R1, N1⟩ := hY
    obtain ⟨p', c', hpe, hcell⟩ := R1
    obtain ⟨g, hp, hcx⟩ := hcell j x hx
    simp only [Value.slice.injEq] at hpe
    obtain ⟨rfl, -, rfl⟩ := hpe
    subst hp
    have HY := Lib.hid (show Srv wr s Y1 ((xs.take j).foldl Xs.forget X0) k ∧ Turn (Y.foot s) (Y1.foot s) w wr ∧ RdI wr (.slice (some ⟨g, 0, none⟩) n c) xs ∧ (xs ≠ [] → ∀ r, (Value.slice (some ⟨g, 0, none⟩) n c).ownBlock = some r → r < wr.heap.size ∧ ¬ Y1.foot s r) from ⟨S1, U1, ⟨_, c, by rw [HN.out], hcell⟩, N1⟩)
    obtain ⟨X2, hX2⟩ : ∃ X2, X2 = (xs.take j).foldl Xs.forget X0 := ⟨_, rfl⟩
    rw [← hX2] at S1 hin hFg
    obtain ⟨⟨d0, d1, d2, d3, d4, d5, d6⟩, -⟩ := S1.blk.c7
    have el := look_mak1 S1 hi6
    rw [makF_of hin] at el
    have hi0' : (0 : Int) ≤ (j : Int) := by omega
    have hi1 : (j : Int) < (n : Int) := by omega
    have HT := Lib.hid (fun (W : World) (hT : SrvTo wr s Y1 (X2.forget x) k W) => (show DyS w s Y X0 k (.slice (some ⟨g, 0, none⟩) n c) xs (j + 1) W from DyS.turn hx HY.out (by rw [← hX2]; exact hT)))
    obtain ⟨o, ho⟩ : ∃ o, o = ownM x X2.M := ⟨_, rfl⟩
    rw [← ho] at el
    have hpos : 0 ≤ o := by
      obtain ⟨m, hm1, hm2, -⟩ := mfind_some hin
      rw [ho, own_of hm1]
      exact hFg.own m hm2
    obtain ⟨h64, hHH, -⟩ := hFg
    have HS := Lib.hid S1
    have H64 := Lib.hid h64
    have HHO := Lib.hid hHH
    have HXX := Lib.hid (forget_eq X2 x)
    rw [← ho] at HXX
    by_cases hc : o = 0
    · rw [hc] at el HXX
      have HX3 := Lib.hid (show X2.forget x = { X2 with H := Pp.dropH x X2.H, M := dropM x X2.M } from by rw [HXX.out]; rfl)
      have HDR := Lib.hid (S1.tab_drop hHH hi6)
      clear hx hin S1 U1 N1 hcell hX2 ho hpos h64 hHH hc HXX
      go_wp2_with (first
       | (go_at_call 67; ((with_reducible refine (client_c _ _).mono ?_); rintro e w2 ⟨rfl, rfl⟩))
       | (go_at_call 111; ((with_reducible refine (HDR.out).mono ?_); rintro e w4 ⟨rfl, Y3, S3, U3⟩); have d3' := (S3.blk.at_ (i := 3) (v := .map (some Y3.sp)) rfl); have HDB := Lib.hid (fun ty => S3.del_both hi6 ty); have HU3 := Lib.hid U3; clear S3 U3)
       | (at_delete; refine Pp.wpList_delete_any rfl rfl _ _ rfl rfl rfl HDB.out ?_; rintro w5 ⟨d2', hD5⟩; have HD5 := Lib.hid hD5; clear hD5)
       | (at_delete; refine Pp.wpList_delete_any rfl rfl _ _ rfl rfl rfl HD5.out ?_; rintro w6 hT6; have HT6 := Lib.hid (SrvTo.trans HU3.out hT6); clear hT6))
      go_roundw
      case rel => exact ⟨j + 1, by omega, by go_num, HT.out _ (by rw [HX3.out]; exact HT6.out)⟩
      case measure => simp [intOf]; omega
    · have hp1 : (0 : Int) < o := by omega
      have HX3 := Lib.hid (show X2.forget x = { X2.tell ⟨4, x, 0, 0, 0, 0, ⟨#[]⟩⟩ with H := Pp.dropH x X2.H, M := dropM x X2.M } from by rw [HXX.out, if_pos hc]; rfl)
      have HTL := Lib.hid (tell_c S1 h64 ⟨4, x, 0, 0, 0, 0, ⟨#[]⟩⟩)
      obtain ⟨X4, hX4⟩ : ∃ X4, X4 = X2.tell ⟨4, x, 0, 0, 0, 0, ⟨#[]⟩⟩ := ⟨_, rfl⟩
      have hp4 := tell_RL X2 ⟨4, x, 0, 0, 0, 0, ⟨#[]⟩⟩
      rw [← hX4] at HX3 HTL hp4
      have HP4 := Lib.hid hp4
      clear hx hin S1 U1 N1 hcell hX2 ho hpos h64 hHH hc HXX hX4 hp4
      go_wp2_with (first
       | (go_at_call 67; ((with_reducible refine (client_c _ _).mono ?_); rintro e w2 ⟨rfl, rfl⟩))
       | (go_at_call 110; ((with_reducible refine (HTL.out).mono ?_); rintro e w3 ⟨rfl, Y2, S2, U2⟩); have d1' := (S2.blk.at_ (i := 1) (v := Pp.tabP Y2.tl.t) rfl); have HDR := Lib.hid (S2.tab_drop (by rw [HP4.out.2.2.1]; exact HHO.out) hi6); have HU2 := Lib.hid U2; clear S2 U2)
       | (go_at_call 111; ((with_reducible refine (HDR.out).mono ?_); rintro e w4 ⟨rfl, Y3, S3, U3⟩); have d3' := (S3.blk.at_ (i := 3) (v := .map (some Y3.sp)) rfl); have HDB := Lib.hid (fun ty => S3.del_both hi6 ty); have HU3 := Lib.hid (HU2.out.trans U3); clear S3 U3)
       | (at_delete; refine Pp.wpList_delete_any rfl rfl _ _ rfl rfl rfl HDB.out ?_; rintro w5 ⟨d2', hD5⟩; have HD5 := Lib.hid hD5; clear hD5)
       | (at_delete; refine Pp.wpList_delete_any rfl rfl _ _ rfl rfl rfl HD5.out ?_; rintro w6 hT6; have HT6 := Lib.hid (SrvTo.trans HU3.out hT6); clear hT6))
      go_roundw
      case rel => exact ⟨j + 1, by omega, by go_num, HT.out _ (by rw [HX3.out]; have h1 := HT6.out; rw [HP4.out.2.2.1, HP4.out.2.2.2.1] at h1; exact h1)⟩
      case measure => simp [intOf]; omega
  · obtain rfl : j = n := by omega
    obtain ⟨Y1, S1, U1, -⟩ := hD
    rw [HN.out, List.take_length, HFIN.out] at S1
    have HS := Lib.hid (And.intro S1 U1)
    clear S1 U1
    go_wp2_with fail
    go_ret
    exact ⟨rfl, Y1, HS.out.1, HS.out.2⟩
end
end Go.Proofs.YtnhchpiafchdgaaGreat
