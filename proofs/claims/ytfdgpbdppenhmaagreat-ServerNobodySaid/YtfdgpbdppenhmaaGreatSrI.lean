/- A display's calls that write, walked: carryOut, setProp, foreign. -/
import Derived.Test.YtfdgpbdppenhmaaGreatSrH
namespace Go.Proofs.YtfdgpbdppenhmaaGreat
open Go.RowKit Go.Shelf Go.Maps
abbrev rqL (q : Rq) : Array Value := #[.int .i64 q.kind, .int .i64 q.win, .int .i64 q.other, .int .i64 q.x, .int .i64 q.y, .int .i64 q.a, .int .i64 q.e, .string q.p.name, .string q.p.typ, .string q.p.data]
abbrev rqV (q : Rq) : Value := .agg (rqL q)
theorem Blk.c10 {w : World} {g : Nat} {t : TypeId} {v0 v1 v2 v3 v4 v5 v6 v7 v8 v9 : Value} (h : Blk w g t #[v0, v1, v2, v3, v4, v5, v6, v7, v8, v9]) :
    w.cell? ⟨g, 0, none⟩ = some v0 ∧ w.cell? ⟨g, 1, none⟩ = some v1 ∧ w.cell? ⟨g, 2, none⟩ = some v2 ∧ w.cell? ⟨g, 3, none⟩ = some v3 ∧ w.cell? ⟨g, 4, none⟩ = some v4 ∧ w.cell? ⟨g, 5, none⟩ = some v5 ∧ w.cell? ⟨g, 6, none⟩ = some v6 ∧ w.cell? ⟨g, 7, none⟩ = some v7 ∧ w.cell? ⟨g, 8, none⟩ = some v8 ∧ w.cell? ⟨g, 9, none⟩ = some v9 :=
  ⟨h.at_ (i := 0) rfl, h.at_ (i := 1) rfl, h.at_ (i := 2) rfl, h.at_ (i := 3) rfl, h.at_ (i := 4) rfl, h.at_ (i := 5) rfl, h.at_ (i := 6) rfl, h.at_ (i := 7) rfl, h.at_ (i := 8) rfl, h.at_ (i := 9) rfl⟩
def Xs.carry (X : Xs) (q : Rq) : Int × Xs :=
  if q.kind = 3 then ((tMap true q.win X.L).2, { X with L := (tMap true q.win X.L).1 })
  else if q.kind = 4 then ((tMap false q.win X.L).2, { X with L := (tMap false q.win X.L).1 })
  else if q.kind = 5 then ((tConf q.win q.x q.y q.a q.e X.L).2, { X with L := (tConf q.win q.x q.y q.a q.e X.L).1 })
  else if q.kind = 6 then ((tRaise q.win X.L).2, { X with L := (tRaise q.win X.L).1 })
  else ((tLower q.win X.L).2, { X with L := (tLower q.win X.L).1 })
section
variable {w w' : World} {s : Nat} {Y : Yl} {X : Xs} {k m : Nat}
/-- What a call on the tree leaves of the display. -/
theorem Srv.via {w0 W : World} (h : Srv w0 s Y X k) (h0 : Below w.heap.size w w0) (hW : Below w0.heap.size w0 W) {f : Nat} {args : Array Value} {err : Int} {L' : List Win}
    (hc : Calls Tryz.prog f args W fun ex w' => ex = .returned (.int .i64 err) ∧ CT X.R L' Y.t Y.l W w') : Calls Tryz.prog f args W fun ex w' => ex = .returned (.int .i64 err) ∧ SrvTo w s Y { X with L := L' } k w' :=
  hc.mono fun ex w' hh => ⟨hh.1, by
    have h1 := (h.next hW).tree_to hh.2
    exact SrvTo.after (hW.on h0 h0.size) h1⟩
set_option maxRecDepth 100000 in
set_option maxHeartbeats 4000000 in
theorem carry_c (h : Srv w s Y X k) (hS : Sane X.R X.L m) (q : Rq) (hi : I64 q.win) : Calls Tryz.prog 98 #[srvP s, rqV q] w fun ex w' => ex = .returned (.int .i64 (X.carry q).1) ∧ SrvTo w s Y (X.carry q).2 k w' := by
  obtain ⟨wb, hwb⟩ : ∃ wb, wb = w.alloc (.cells #[.int .i64 q.kind, .int .i64 q.win, .int .i64 q.other, .int .i64 q.x, .int .i64 q.y, .int .i64 q.a, .int .i64 q.e, .string q.p.name, .string q.p.typ, .string q.p.data] 37) := ⟨_, rfl⟩
  have hbel : Below w.heap.size w wb := by rw [hwb]; exact (Below.refl _ _).alloc (Nat.le_refl _) _
  have hbx : Blk wb w.heap.size 37 (rqL q) := by rw [hwb]; exact Blk.new w _ _
  have hs := h.next hbel
  obtain ⟨⟨b0, -, -, -, -, -, -⟩, -⟩ := hs.blk.c7
  obtain ⟨x0, x1, -, x3, x4, x5, x6, -, -, -⟩ := hbx.c10
  have HW := Lib.hid hwb
  have HT := Lib.hid (fun (W : World) (hW : Below wb.heap.size wb W) => (hs.next hW).tree)
  obtain ⟨kind, hkd⟩ : ∃ n, n = q.kind := ⟨_, rfl⟩
  unfold Xs.carry
  rw [← hkd] at x0 ⊢
  by_cases h3 : kind = 3
  · subst h3
    rw [if_pos rfl]
    have HC := Lib.hid (fun (W : World) (hW : Below wb.heap.size wb W) => hs.via hbel hW ((t_map hS hi true).2.2 W Y.t Y.l (HT.out W hW)))
    clear h hS hs hbx hbel hkd
    go_enter Tryz.func98, Tryz.ntmps98
    go_upto_region 1 with fail
    rw [← HW.out]
    clear hwb
    go_upto_region 3 with fail
    go_region_law (go_simp; (go_at_call 120; ((with_reducible refine (HC.out _ (Below.refl _ _).drew).mono ?_); rintro ex w1 ⟨rfl, T2⟩); have HS := Lib.hid T2; clear T2))
    all_goals (go_wp2_with fail)
    all_goals go_ret
    all_goals exact ⟨rfl, HS.out⟩
  · rw [if_neg h3]
    have h3' : (kind == 3) = false := by simpa using h3
    by_cases h4 : kind = 4
    · subst h4
      rw [if_pos rfl]
      have HC := Lib.hid (fun (W : World) (hW : Below wb.heap.size wb W) => hs.via hbel hW ((t_map hS hi false).2.2 W Y.t Y.l (HT.out W hW)))
      clear h hS hs hbx hbel hkd h3 h3'
      go_enter Tryz.func98, Tryz.ntmps98
      go_upto_region 1 with fail
      rw [← HW.out]
      clear hwb
      go_upto_region 5 with fail
      go_region_law (go_simp; (go_at_call 120; ((with_reducible refine (HC.out _ (Below.refl _ _).drew).mono ?_); rintro ex w1 ⟨rfl, T2⟩); have HS := Lib.hid T2; clear T2))
      all_goals (go_wp2_with fail)
      all_goals go_ret
      all_goals exact ⟨rfl, HS.out⟩
    · rw [if_neg h4]
      have h4' : (kind == 4) = false := by simpa using h4
      by_cases h5 : kind = 5
      · subst h5
        rw [if_pos rfl]
        have HC := Lib.hid (fun (W : World) (hW : Below wb.heap.size wb W) => hs.via hbel hW ((t_conf hS hi q.x q.y q.a q.e).2.2 W Y.t Y.l (HT.out W hW)))
        clear h hS hs hbx hbel hkd h3 h3' h4 h4'
        go_enter Tryz.func98, Tryz.ntmps98
        go_upto_region 1 with fail
        rw [← HW.out]
        clear hwb
        go_upto_region 7 with fail
        go_region_law (go_simp; (go_at_call 121; ((with_reducible refine (HC.out _ (Below.refl _ _).drew).mono ?_); rintro ex w1 ⟨rfl, T2⟩); have HS := Lib.hid T2; clear T2))
        all_goals (go_wp2_with fail)
        all_goals go_ret
        all_goals exact ⟨rfl, HS.out⟩
      · rw [if_neg h5]
        have h5' : (kind == 5) = false := by simpa using h5
        by_cases h6 : kind = 6
        · subst h6
          rw [if_pos rfl]
          have HC := Lib.hid (fun (W : World) (hW : Below wb.heap.size wb W) => hs.via hbel hW ((t_raise hS hi).2.2 W Y.t Y.l (HT.out W hW)))
          clear h hS hs hbx hbel hkd h3 h3' h4 h4' h5 h5'
          go_enter Tryz.func98, Tryz.ntmps98
          go_upto_region 1 with fail
          rw [← HW.out]
          clear hwb
          go_upto_region 9 with fail
          go_region_law (go_simp; (go_at_call 122; ((with_reducible refine (HC.out _ (Below.refl _ _).drew).mono ?_); rintro ex w1 ⟨rfl, T2⟩); have HS := Lib.hid T2; clear T2))
          all_goals (go_wp2_with fail)
          all_goals go_ret
          all_goals exact ⟨rfl, HS.out⟩
        · rw [if_neg h6]
          have h6' : (kind == 6) = false := by simpa using h6
          have HC := Lib.hid (fun (W : World) (hW : Below wb.heap.size wb W) => hs.via hbel hW ((t_lower hS hi).2.2 W Y.t Y.l (HT.out W hW)))
          clear h hS hs hbx hbel hkd h3 h4 h5 h6
          go_enter Tryz.func98, Tryz.ntmps98
          go_upto_region 1 with fail
          rw [← HW.out]
          clear hwb
          go_upto_region 10 with fail
          go_region_law (go_simp; (go_at_call 123; ((with_reducible refine (HC.out _ (Below.refl _ _).drew).mono ?_); rintro ex w1 ⟨rfl, T2⟩); have HS := Lib.hid T2; clear T2))
          all_goals (go_wp2_with fail)
          all_goals go_ret
          all_goals exact ⟨rfl, HS.out⟩
end
end Go.Proofs.YtfdgpbdppenhmaaGreat
