/- Small calls of a display, walked: the focus, the events. -/
import Derived.Test.YtfdgpbdppenhmaaGreatSrF
import Derived.Deep.AppendLies
import Derived.Deep.RegionHeld3
import Derived.Deep.RegionLaw
import Derived.Deep.DeepCutAuto
namespace Go.Proofs.YtfdgpbdppenhmaaGreat
open Go.RowKit Go.Shelf Go.Maps
theorem look_eq (X : Xs) (h : X.F = 0 ∨ viewL X.R X.L X.F = true) : X.look = X := by
  unfold Xs.look
  rw [if_neg]
  rintro ⟨h1, h2⟩
  rcases h with h | h
  · exact h1 h
  · rw [h] at h2; cases h2
section
variable {w : World} {s : Nat} {Y : Yl} {X : Xs} {k m : Nat}
/-- The focus turned. -/
theorem Srv.focused (h : Srv w s Y X k) (i : Int) : SrvTo w s Y { X with F := i } k (w.setCell ⟨s, 5, none⟩ (.int .i64 i)) := by
  obtain ⟨col, h⟩ := h
  obtain ⟨h1, h2⟩ := h.cell 5 (.int .i64 i)
  exact ⟨Y, ⟨_, SrvR.as (X := X) (X' := { X with F := i }) h1 rfl rfl rfl rfl⟩, h2⟩
theorem Srv.drewN (h : Srv w s Y X k) (q : Nat) : Srv (w.drewN q) s Y X k := by
  obtain ⟨col, h⟩ := h
  exact ⟨_, h.kept (Nat.le_refl _) fun _ _ => rfl⟩
theorem view_root (_S : Sane X.R X.L m) : viewL X.R X.L 0 = true := by
  have hd : ndL X.R X.L 0 = some ⟨rootW X.R, kidsL X.L 0⟩ := nd_root
  have hw : Way (ndL X.R X.L) 0 0 := ⟨rfl, _, hd⟩
  unfold viewL
  rw [ups_eq hw]
  unfold thereL viewB onOf
  rw [hd]
  rfl
theorem keep_c (h : Srv w s Y X k) (hS : Sane X.R X.L m) (hf : I64 X.F) : Calls Tryz.prog 47 #[srvP s] w fun e w' => e = .returned (.tuple #[]) ∧ SrvTo w s Y X.look k w' := by
  obtain ⟨⟨b0, b1, b2, b3, b4, b5, b6⟩, ⟨z0, z1, z2, z3, z4, z5, z6⟩⟩ := h.blk.c7
  have HV := fun q => (shows_all hS hf).cview (w.drewN q) _ _ (h.drewN q).tree
  cases hv : viewL X.R X.L X.F with
  | true =>
    simp only [hv] at HV
    have HH := Lib.hid HV
    have HR := Lib.hid (fun q => (show SrvTo w s Y X.look k (w.drewN q) from by
      rw [look_eq X (.inr hv)]
      exact ⟨Y, h.drewN q, Turn.of_below (below_drewN (Below.refl _ _) _)⟩))
    clear h hS hf HV hv
    go_enter Tryz.func47, Tryz.ntmps47
    go_wp2_with fail
    go_quiet ((go_at_call 44; exact Calls.quiet_of_same ((HH.out _).mono fun e w' h => ⟨h.1, h.2.symm⟩)))
    go_wp2_with fail
    go_end0
    exact ⟨rfl, HR.out _⟩
  | false =>
    simp only [hv] at HV
    have HH := Lib.hid HV
    have h0 : X.F ≠ 0 := fun e => by rw [e, view_root hS] at hv; cases hv
    have HR := Lib.hid (fun q => (show SrvTo w s Y X.look k ((w.drewN q).setCell ⟨s, 5, none⟩ (.int .i64 0)) from by
      unfold Xs.look
      rw [if_pos ⟨h0, hv⟩]
      exact SrvTo.after (below_drewN (Below.refl _ _) _) ((h.drewN q).focused 0)))
    clear h hS hf HV hv
    go_enter Tryz.func47, Tryz.ntmps47
    go_wp2_with fail
    go_quiet ((go_at_call 44; exact Calls.quiet_of_same ((HH.out _).mono fun e w' h => ⟨h.1, h.2.symm⟩)))
    go_wp2_with fail
    go_end0
    exact ⟨rfl, HR.out _⟩
theorem evInfo : (Tryz.prog.info? 71).map (fun i => (i.zero, i.size, i.bytes)) = some (some (.agg #[.int .i64 0, .int .i64 0, .int .i64 0, .int .i64 0, .int .i64 0, .int .i64 0, .string ByteArray.empty]), 7, 64) := by kernel_rfl
theorem Srv.told (h : Srv w s Y X k) {Wa W : World} (hb : Below w.heap.size w Wa) (hg : Wa.grownBy W Y.wv.ownBlock) {v' : Value} {E' : List Ev} (ho : OwK encE 71 7 W 0 v' E') (hv : ∀ r, v'.ownBlock = some r → Y.wv.ownBlock = some r ∨ w.heap.size ≤ r) : SrvTo w s Y { X with E := E' } k (W.setCell ⟨s, 4, none⟩ v') := by
  obtain ⟨col, h⟩ := h
  obtain ⟨h1, h2⟩ := h.rowed hb hg ho hv
  obtain ⟨h3, h4⟩ := h1.cell 4 v'
  exact ⟨{ Y with wv := v' }, ⟨_, h3⟩, h2.trans h4⟩
theorem Srv.row_ne (h : Srv w s Y X k) : some s ≠ Y.wv.ownBlock := by
  obtain ⟨col, h⟩ := h
  intro e
  have h1 := (h.c0 s rfl).2
  have h2 := (h.c5 s e.symm).2
  rw [h1] at h2; cases h2
theorem Srv.row (h : Srv w s Y X k) : OwK encE 71 7 w 0 Y.wv X.E := by
  obtain ⟨col, h⟩ := h
  exact h.row
abbrev evV (e : Ev) : Value := .agg #[.int .i64 e.kind, .int .i64 e.win, .int .i64 e.x, .int .i64 e.y, .int .i64 e.a, .int .i64 e.e, .string e.name]
theorem cell_list7 (w : World) (t : TypeId) (v0 v1 v2 v3 v4 v5 v6 : Value) : ∀ (j : Nat) (u : Value), [v0, v1, v2, v3, v4, v5, v6][j]? = some u → ((w.alloc (.cells #[v0, v1, v2, v3, v4, v5, v6] t)).drew).cell? ((⟨w.heap.size, 0, none⟩ : Addr).add j) = some u := by
  intro j u hu
  have h := ((Blk.new w t #[v0, v1, v2, v3, v4, v5, v6]).drew).cell j
  rw [Addr.add_lit, Nat.zero_add, h]
  simpa using hu
set_option maxRecDepth 100000 in
set_option maxHeartbeats 2000000 in
theorem tell_c (h : Srv w s Y X k) (hE : X.E.length ≤ 4096) (e : Ev) : Calls Tryz.prog 110 #[srvP s, evV e] w fun ex w' => ex = .returned (.tuple #[]) ∧ SrvTo w s Y (X.tell e) k w' := by
  obtain ⟨wb, hwb⟩ : ∃ wb, wb = w.alloc (.cells #[.int .i64 e.kind, .int .i64 e.win, .int .i64 e.x, .int .i64 e.y, .int .i64 e.a, .int .i64 e.e, .string e.name] 71) := ⟨_, rfl⟩
  have hbel : Below w.heap.size w wb := by rw [hwb]; exact (Below.refl _ _).alloc (Nat.le_refl _) _
  have hbx : Blk wb w.heap.size 71 #[.int .i64 e.kind, .int .i64 e.win, .int .i64 e.x, .int .i64 e.y, .int .i64 e.a, .int .i64 e.e, .string e.name] := by rw [hwb]; exact Blk.new w _ _
  have hs := h.next hbel
  obtain ⟨⟨b0, b1, b2, b3, b4, b5, b6⟩, -⟩ := hs.blk.c7
  obtain ⟨⟨x0, x1, x2, x3, x4, x5, x6⟩, -⟩ := hbx.c7
  obtain ⟨p, c, hwv⟩ := h.row.slice
  have HW := Lib.hid hwb
  have HB := Lib.hid hbel
  obtain ⟨n, hn⟩ : ∃ n, n = X.E.length := ⟨_, rfl⟩
  rw [hwv, ← hn] at b4
  rw [← hn] at hE
  by_cases hG : X.G = true
  · rw [hG] at b6
    by_cases hl : n < 4096
    · have hX : X.tell e = { X with E := X.E ++ [e] } := by unfold Xs.tell; rw [if_pos ⟨hG, by rw [← hn]; exact hl⟩]
      obtain ⟨i0, hi0, hz0, hz1, hz2⟩ := info_parts evInfo
      have hl1 : (n : Int) < 4096 := by omega
      have hWa : Below wb.heap.size wb (wb.alloc (.cells #[.int .i64 e.kind, .int .i64 e.win, .int .i64 e.x, .int .i64 e.y, .int .i64 e.a, .int .i64 e.e, .string e.name] 71)).drew := ((Below.refl _ wb).alloc (Nat.le_refl _) _).drew
      have ha := hs.next hWa
      obtain ⟨⟨a0, a1, a2, a3, a4, a5, a6⟩, -⟩ := ha.blk.c7
      rw [hwv, ← hn] at a4
      have HR := Lib.hid (show (wb.alloc (.cells #[.int .i64 e.kind, .int .i64 e.win, .int .i64 e.x, .int .i64 e.y, .int .i64 e.a, .int .i64 e.e, .string e.name] 71)).drew.ownsRow 0 71 7 (.slice p n c) n (X.E.flatMap encE) from by
        have := ha.row
        rw [hwv, ← hn] at this
        unfold OwK at this
        rw [← hn] at this
        exact this)
      have HK := Lib.hid (fun (W : World) (hg : (wb.alloc (.cells #[.int .i64 e.kind, .int .i64 e.win, .int .i64 e.x, .int .i64 e.y, .int .i64 e.a, .int .i64 e.e, .string e.name] 71)).drew.grownBy W (Value.slice p n c).ownBlock) => (show W.cell? ⟨s, 4, none⟩ = some (.slice p n c) ∧ W.frozen? ⟨s, 4, none⟩ = false from by
        have k1 := ha.blk.grown hg (by rw [hn, ← hwv]; exact h.row_ne)
        exact ⟨by have := k1.at_ (i := 4) (v := Y.wv) rfl; rw [hwv, ← hn] at this; exact this, k1.frozen 4⟩))
      have HG2 := Lib.hid (fun (W : World) (g' cap' : Nat) (ho : W.ownsRow 0 71 7 (.slice (some ⟨g', 0, none⟩) (n + 1) cap') (n + 1) (X.E.flatMap encE ++ [.int .i64 e.kind, .int .i64 e.win, .int .i64 e.x, .int .i64 e.y, .int .i64 e.a, .int .i64 e.e, .string e.name])) (hg : (wb.alloc (.cells #[.int .i64 e.kind, .int .i64 e.win, .int .i64 e.x, .int .i64 e.y, .int .i64 e.a, .int .i64 e.e, .string e.name] 71)).drew.grownBy W (Value.slice p n c).ownBlock)
          (hgg : (Value.slice p n c).ownBlock = some g' ∨ g' = (wb.alloc (.cells #[.int .i64 e.kind, .int .i64 e.win, .int .i64 e.x, .int .i64 e.y, .int .i64 e.a, .int .i64 e.e, .string e.name] 71)).drew.heap.size) => (show SrvTo w s Y (X.tell e) k (W.setCell ⟨s, 4, none⟩ (.slice (some ⟨g', 0, none⟩) (n + 1) cap')) from by
        rw [hX]
        refine h.told (hWa.on HB.out HB.out.size) (by rw [hwv, ← hn]; exact hg) (by
          unfold OwK
          rw [List.length_append, List.flatMap_append, ← hn]
          exact ho) (fun r hr => ?_)
        obtain rfl : g' = r := by simpa [Value.ownBlock] using hr
        rcases hgg with e1 | e1
        · exact .inl (by rw [hwv, ← hn]; exact e1)
        · have := HB.out.size
          have := hWa.size
          exact .inr (by omega)))
      clear h hs ha hWa hbel hbx hX hn hwv hl hG a0 a1 a2 a3 a5 a6
      go_enter Tryz.func110, Tryz.ntmps110
      go_upto_region 1 with fail
      rw [← HW.out]
      clear hwb
      go_upto_region 2 with fail
      go_region_law ((refine step_append_lies _ rfl (.tmp 20) (.tmp 22) 57 rfl 0 71 i0 (.agg #[.int .i64 0, .int .i64 0, .int .i64 0, .int .i64 0, .int .i64 0, .int .i64 0, .string ByteArray.empty]) 7 64 Tryz.underlying57 hi0 hz0 hz1 hz2 rfl (by decide) _ _ _ rfl HR.out ⟨_, 0, none⟩ 1 1 [.int .i64 e.kind, .int .i64 e.win, .int .i64 e.x, .int .i64 e.y, .int .i64 e.a, .int .i64 e.e, .string e.name] rfl rfl (fun j' u' hu' => cell_list7 _ _ _ _ _ _ _ _ _ j' u' hu') (fun u hu => ?_) (by decide) (by unfold maxLen; omega) (by omega) (Nat.zero_le _) _ rfl ?_; (simp only [List.mem_cons, List.not_mem_nil, or_false] at hu; rcases hu with rfl | rfl | rfl | rfl | rfl | rfl | rfl <;> rfl); intro g' cap' w7 ho hg' hgg _; obtain ⟨q0, q1⟩ := HK.out w7 hg'; have HQ := Lib.hid (HG2.out w7 g' cap' ho hg' hgg)))
      all_goals
        generalize w7.setCell ⟨s, 4, none⟩ (.slice (some ⟨g', 0, none⟩) (n + 1) cap') = W8 at HQ ⊢
        go_wp2_with fail
        go_end0
        exact ⟨rfl, HQ.out⟩
    · have hl1 : ¬ (n : Int) < 4096 := by omega
      have hX : X.tell e = X := by unfold Xs.tell; rw [if_neg (fun hh => hl (by rw [hn]; exact hh.2))]
      have HQ := Lib.hid (show SrvTo w s Y (X.tell e) k wb from by rw [hX]; exact SrvTo.same h hbel)
      clear h hs hbel hbx hX hn hwv hl hG
      go_enter Tryz.func110, Tryz.ntmps110
      go_upto_region 1 with fail
      rw [← HW.out]
      clear hwb
      go_wp2_with fail
      go_end0
      exact ⟨rfl, HQ.out⟩
  · have hG' : X.G = false := by simpa using hG
    rw [hG'] at b6
    have hX : X.tell e = X := by unfold Xs.tell; rw [if_neg (fun hh => hG hh.1)]
    have HQ := Lib.hid (show SrvTo w s Y (X.tell e) k wb from by rw [hX]; exact SrvTo.same h hbel)
    clear h hs hbel hbx hX hn hwv hG hG'
    go_enter Tryz.func110, Tryz.ntmps110
    go_upto_region 1 with fail
    rw [← HW.out]
    clear hwb
    go_wp2_with fail
    go_end0
    exact ⟨rfl, HQ.out⟩
theorem events_c (h : Srv w s Y X k) : Calls Tryz.prog 24 #[srvP s] w fun ex w' => ex = .returned Y.wv ∧ OwK encE 71 7 w' 0 Y.wv X.E ∧ SrvTo w s Y { X with E := [] } k w' := by
  obtain ⟨⟨b0, b1, b2, b3, b4, b5, b6⟩, ⟨z0, z1, z2, z3, z4, z5, z6⟩⟩ := h.blk.c7
  have HQ := Lib.hid (h.told (Below.refl _ w) (World.grownBy.refl w _) (OwK.nil w 0) (fun r hr => by cases hr))
  have HO := Lib.hid (row_kept (w' := w.setCell ⟨s, 4, none⟩ (.slice none 0 0)) h.row fun b hb => Below.heap_setCell w _ _ b (fun e => h.row_ne (by rw [hb, show b = s from e])))
  obtain ⟨p, c, hwv⟩ := h.row.slice
  rw [hwv] at b4
  rw [hwv] at HO
  rw [hwv]
  clear h hwv
  go_enter Tryz.func24, Tryz.ntmps24
  go_wp2_with fail
  go_ret
  exact ⟨rfl, HO.out, HQ.out⟩
theorem events_no {p : Value} (h : NoSrv w p) : Calls Tryz.prog 24 #[p] w fun ex w' => ex = .returned (.slice none 0 0) ∧ ((p = .pointer none ∧ w = w') ∨ ∃ s, p = srvP s ∧ Blk w s 80 #[.pointer none, .pointer none, .map none, .map none, .slice none 0 0, .int .i64 0, .bool false] ∧ w' = w.setCell ⟨s, 4, none⟩ (.slice none 0 0)) := by
  rcases h with rfl | ⟨t, rfl, h⟩
  · go_enter Tryz.func24, Tryz.ntmps24
    go_wp2
    go_ret
    exact ⟨rfl, .inl ⟨by first | trivial | rfl, by first | trivial | rfl⟩⟩
  · obtain ⟨⟨b0, b1, b2, b3, b4, b5, b6⟩, ⟨z0, z1, z2, z3, z4, z5, z6⟩⟩ := h.c7
    have HH := Lib.hid h
    clear h
    go_enter Tryz.func24, Tryz.ntmps24
    go_wp2_with fail
    go_ret
    exact ⟨rfl, .inr ⟨t, rfl, HH.out, rfl⟩⟩
theorem start_no {p : Value} (h : NoSrv w p) : Calls Tryz.prog 32 #[p] w fun ex w' => ex = .returned (.int .i64 3) ∧ w = w' := by
  have H := Lib.hid (windows_no h)
  clear h
  go_enter Tryz.func32, Tryz.ntmps32
  go_wp2_with (go_at_call 43; ((with_reducible refine (H.out).mono ?_); rintro e w' ⟨rfl, rfl⟩))
  go_ret
  exact ⟨rfl, rfl⟩
theorem stop_no {p : Value} (h : NoSrv w p) : Calls Tryz.prog 31 #[p] w fun ex w' => ex = .returned (.int .i64 3) ∧ w = w' := by
  have H := Lib.hid (windows_no h)
  clear h
  go_enter Tryz.func31, Tryz.ntmps31
  go_wp2_with (go_at_call 43; ((with_reducible refine (H.out).mono ?_); rintro e w' ⟨rfl, rfl⟩))
  go_ret
  exact ⟨rfl, rfl⟩
theorem Srv.managed (h : Srv w s Y X k) (b : Bool) : SrvTo w s Y { X with G := b } k (w.setCell ⟨s, 6, none⟩ (.bool b)) := by
  obtain ⟨col, h⟩ := h
  obtain ⟨h1, h2⟩ := h.cell 6 (.bool b)
  exact ⟨Y, ⟨_, SrvR.as (X := X) (X' := { X with G := b }) h1 rfl rfl rfl rfl⟩, h2⟩
theorem start_c (h : Srv w s Y X k) : Calls Tryz.prog 32 #[srvP s] w fun ex w' => ex = .returned (.int .i64 (if X.G = true then 8 else 0)) ∧ SrvTo w s Y { X with G := true } k w' := by
  obtain ⟨⟨b0, b1, b2, b3, b4, b5, b6⟩, ⟨z0, z1, z2, z3, z4, z5, z6⟩⟩ := h.blk.c7
  have H := Lib.hid (windows_c h)
  cases hG : X.G with
  | true =>
    rw [hG] at b6
    have HQ := Lib.hid (show SrvTo w s Y { X with G := true } k w from by
      rw [show ({ X with G := true } : Xs) = X by rw [← hG]]
      exact SrvTo.same h (Below.refl _ _))
    clear h hG
    go_enter Tryz.func32, Tryz.ntmps32
    go_wp2_with (go_at_call 43; ((with_reducible refine (H.out).mono ?_); rintro e w' ⟨rfl, rfl⟩))
    go_ret
    exact ⟨rfl, HQ.out⟩
  | false =>
    rw [hG] at b6
    have HQ := Lib.hid (h.managed true)
    clear h hG
    go_enter Tryz.func32, Tryz.ntmps32
    go_wp2_with (go_at_call 43; ((with_reducible refine (H.out).mono ?_); rintro e w' ⟨rfl, rfl⟩))
    go_ret
    exact ⟨rfl, HQ.out⟩
theorem setfocus_c (h : Srv w s Y X k) (hS : Sane X.R X.L m) {i : Int} (hi : I64 i) : Calls Tryz.prog 94 #[srvP s, .int .i64 i] w fun ex w' => ex = .returned (.int .i64 (if i ≠ 0 ∧ viewL X.R X.L i = false then 8 else 0)) ∧ SrvTo w s Y (if i ≠ 0 ∧ viewL X.R X.L i = false then X else { X with F := i }) k w' := by
  obtain ⟨⟨b0, b1, b2, b3, b4, b5, b6⟩, ⟨z0, z1, z2, z3, z4, z5, z6⟩⟩ := h.blk.c7
  have HV := (shows_all hS hi).cview w _ _ h.tree
  by_cases h0 : i = 0
  · subst h0
    rw [if_neg (by simp), if_neg (by simp)]
    have HQ := Lib.hid (h.focused 0)
    clear h hS hi HV
    go_enter Tryz.func94, Tryz.ntmps94
    go_wp2_with fail
    go_ret
    exact ⟨rfl, HQ.out⟩
  · have h1 : (i == 0) = false := by simpa using h0
    cases hv : viewL X.R X.L i with
    | true =>
      rw [hv] at HV
      rw [if_neg (by simp), if_neg (by simp)]
      have HQ := Lib.hid (h.focused i)
      have HH := Lib.hid HV
      clear h hS hi HV h0
      go_enter Tryz.func94, Tryz.ntmps94
      go_wp2_with (go_at_call 44; ((with_reducible refine (HH.out).mono ?_); rintro e w' ⟨rfl, rfl⟩))
      go_ret
      exact ⟨rfl, HQ.out⟩
    | false =>
      rw [hv] at HV
      rw [if_pos ⟨h0, rfl⟩, if_pos ⟨h0, rfl⟩]
      have HQ := Lib.hid (SrvTo.same h (Below.refl _ _))
      have HH := Lib.hid HV
      clear h hS hi HV h0
      go_enter Tryz.func94, Tryz.ntmps94
      go_wp2_with (go_at_call 44; ((with_reducible refine (HH.out).mono ?_); rintro e w' ⟨rfl, rfl⟩))
      go_ret
      exact ⟨rfl, HQ.out⟩
end
end Go.Proofs.YtfdgpbdppenhmaaGreat
