/- Small calls of a display, walked: what only looks. -/
import Derived.Test.YtfdgpbdppenhmaaGreatSrE
import Derived.BigQuiet
import Derived.Deep.QuietTactic
namespace Go.Proofs.YtfdgpbdppenhmaaGreat
open Go.RowKit Go.Shelf Go.Maps
/-- What no call made. -/
def NoSrv (w : World) (p : Value) : Prop := p = .pointer none ∨ ∃ s, p = srvP s ∧ Blk w s 80 #[.pointer none, .pointer none, .map none, .map none, .slice none 0 0, .int .i64 0, .bool false]
theorem NoSrv.next {w w' : World} {p : Value} (h : NoSrv w p) (hb : Below w.heap.size w w') : NoSrv w' p := by
  rcases h with h | ⟨t, h, k⟩
  · exact .inl h
  · exact .inr ⟨t, h, k.next hb⟩
section
variable {w : World} {s : Nat} {Y : Yl} {X : Xs} {k m : Nat}
theorem windows_no {p : Value} (h : NoSrv w p) : Calls Tryz.prog 43 #[p] w fun e w' => e = .returned (.pointer none) ∧ w = w' := by
  rcases h with rfl | ⟨t, rfl, h⟩
  · go_enter Tryz.func43, Tryz.ntmps43
    go_wp2
    go_ret
    exact ⟨rfl, rfl⟩
  · obtain ⟨⟨b0, b1, b2, b3, b4, b5, b6⟩, -⟩ := h.c7
    clear h
    go_enter Tryz.func43, Tryz.ntmps43
    go_wp2
    go_ret
    exact ⟨rfl, rfl⟩
theorem windows_c (h : Srv w s Y X k) : Calls Tryz.prog 43 #[srvP s] w fun e w' => e = .returned (treeP Y.t) ∧ w = w' := by
  obtain ⟨⟨b0, b1, b2, b3, b4, b5, b6⟩, -⟩ := h.blk.c7
  clear h
  go_enter Tryz.func43, Tryz.ntmps43
  go_wp2
  go_ret
  exact ⟨rfl, rfl⟩
theorem client_c (a : Int) (w : World) : Calls Tryz.prog 67 #[.int .i64 a] w fun e w' => e = .returned (.bool (decide (0 < a))) ∧ w = w' := by
  go_enter Tryz.func67, Tryz.ntmps67
  go_wp2
  go_ret
  exact ⟨rfl, rfl⟩
theorem focus_no {p : Value} (h : NoSrv w p) : Calls Tryz.prog 17 #[p] w fun e w' => e = .returned (.int .i64 0) ∧ w = w' := by
  rcases h with rfl | ⟨t, rfl, h⟩
  · go_enter Tryz.func17, Tryz.ntmps17
    go_wp2
    go_ret
    exact ⟨rfl, rfl⟩
  · obtain ⟨⟨b0, b1, b2, b3, b4, b5, b6⟩, -⟩ := h.c7
    clear h
    go_enter Tryz.func17, Tryz.ntmps17
    go_wp2
    go_ret
    exact ⟨rfl, rfl⟩
theorem focus_c (h : Srv w s Y X k) : Calls Tryz.prog 17 #[srvP s] w fun e w' => e = .returned (.int .i64 X.F) ∧ w = w' := by
  obtain ⟨⟨b0, b1, b2, b3, b4, b5, b6⟩, -⟩ := h.blk.c7
  clear h
  go_enter Tryz.func17, Tryz.ntmps17
  go_wp2
  go_ret
  exact ⟨rfl, rfl⟩
theorem acts_c (h : Srv w s Y X k) (a : Int) : Calls Tryz.prog 45 #[srvP s, .int .i64 a] w fun e w' => e = .returned (.bool (if a = 0 then X.G else decide (0 < a))) ∧ w = w' := by
  obtain ⟨⟨b0, b1, b2, b3, b4, b5, b6⟩, -⟩ := h.blk.c7
  clear h
  by_cases h0 : a = 0
  · subst h0
    go_enter Tryz.func45, Tryz.ntmps45
    go_wp2_with fail
    go_ret
    exact ⟨rfl, rfl⟩
  · have h1 : (a == 0) = false := by simpa using h0
    rw [if_neg h0]
    clear h0
    go_enter Tryz.func45, Tryz.ntmps45
    go_wp2_with (go_at_call 67; ((with_reducible refine (client_c _ _).mono ?_); rintro e w' ⟨rfl, rfl⟩))
    go_ret
    exact ⟨rfl, rfl⟩
theorem zeroN (w : World) : (zeroValue 3).run Tryz.prog w = .ok (.int .i64 0) w := by kernel_rfl
theorem zeroU (w : World) : (zeroValue 132).run Tryz.prog w = .ok (.agg #[]) w := by kernel_rfl
theorem Srv.mak {w : World} (h : Srv w s Y X k) : ∃ n, n ≤ k ∧ MapG eltN 0 w Y.mp (makF X.M) n := by
  obtain ⟨col, h⟩ := h
  exact h.mak
theorem Srv.sav {w : World} (h : Srv w s Y X k) : ∃ n, n ≤ k ∧ MapG eltU () w Y.sp (savF X.M) n := by
  obtain ⟨col, h⟩ := h
  exact h.sav
theorem look_mak (h : Srv w s Y X k) {i : Int} (hi : I64 i) : (Instr.lookup 77 (.map (some Y.mp)) (.int .i64 i) true).run Tryz.prog w = .ok (.tuple #[.int .i64 ((makF X.M i).getD 0), .bool (makF X.M i).isSome]) w := by
  obtain ⟨n, -, hm⟩ := h.mak
  exact hm.look2 Tryz.underlying77 (zeroN w) hi
theorem look_mak1 (h : Srv w s Y X k) {i : Int} (hi : I64 i) : (Instr.lookup 77 (.map (some Y.mp)) (.int .i64 i) false).run Tryz.prog w = .ok (.int .i64 ((makF X.M i).getD 0)) w := by
  obtain ⟨n, -, hm⟩ := h.mak
  exact hm.look Tryz.underlying77 (zeroN w) hi
theorem owner_no {p : Value} (h : NoSrv w p) {i : Int} (hi : I64 i) : Calls Tryz.prog 29 #[p, .int .i64 i] w fun e w' => e = .returned (.tuple #[.int .i64 0, .bool false]) ∧ w = w' := by
  rcases h with rfl | ⟨t, rfl, h⟩
  · go_enter Tryz.func29, Tryz.ntmps29
    go_wp2
    go_ret2
    exact ⟨rfl, rfl⟩
  · obtain ⟨⟨b0, b1, b2, b3, b4, b5, b6⟩, -⟩ := h.c7
    have e0 : (Instr.lookup 77 (.map none) (.int .i64 i) true).run Tryz.prog w = .ok (.tuple #[.int .i64 0, .bool false]) w := Maps.look_nil true keyed Tryz.underlying77 (zeroN w) (key_of hi)
    clear h
    go_enter Tryz.func29, Tryz.ntmps29
    go_wp2
    go_ret2
    exact ⟨rfl, rfl⟩
theorem owner_c (h : Srv w s Y X k) {i : Int} (hi : I64 i) : Calls Tryz.prog 29 #[srvP s, .int .i64 i] w fun e w' => e = .returned (.tuple #[.int .i64 ((makF X.M i).getD 0), .bool (makF X.M i).isSome]) ∧ w = w' := by
  obtain ⟨⟨b0, b1, b2, b3, b4, b5, b6⟩, -⟩ := h.blk.c7
  have e0 := look_mak h hi
  obtain ⟨u, hu⟩ : ∃ u, u = (makF X.M i).getD 0 := ⟨_, rfl⟩
  obtain ⟨v, hv⟩ : ∃ v, v = (makF X.M i).isSome := ⟨_, rfl⟩
  rw [← hu, ← hv] at e0 ⊢
  clear h hi hu hv
  go_enter Tryz.func29, Tryz.ntmps29
  go_wp2
  go_ret2
  exact ⟨rfl, rfl⟩
theorem isof_c (h : Srv w s Y X k) {i : Int} (hi : I64 i) (a : Int) : Calls Tryz.prog 79 #[srvP s, .int .i64 i, .int .i64 a] w fun e w' => e = .returned (.bool (decide (makF X.M i = some a))) ∧ w = w' := by
  have H := Lib.hid (owner_c h hi)
  clear h hi
  cases hm : makF X.M i with
  | none =>
    rw [hm] at H
    clear hm
    go_enter Tryz.func79, Tryz.ntmps79
    go_wp2_with (go_at_call 29; ((with_reducible refine (H.out).mono ?_); rintro e w' ⟨rfl, rfl⟩))
    go_ret
    exact ⟨rfl, rfl⟩
  | some o =>
    rw [hm] at H
    clear hm
    by_cases ho : o = a
    · have h1 : (o == a) = true := by simpa using ho
      rw [show decide (some o = some a) = true by simp [ho]]
      clear ho
      go_enter Tryz.func79, Tryz.ntmps79
      go_wp2_with (go_at_call 29; ((with_reducible refine (H.out).mono ?_); rintro e w' ⟨rfl, rfl⟩))
      go_ret
      exact ⟨rfl, rfl⟩
    · have h1 : (o == a) = false := by simpa using ho
      rw [show decide (some o = some a) = false by simp [ho]]
      clear ho
      go_enter Tryz.func79, Tryz.ntmps79
      go_wp2_with (go_at_call 29; ((with_reducible refine (H.out).mono ?_); rintro e w' ⟨rfl, rfl⟩))
      go_ret
      exact ⟨rfl, rfl⟩
theorem has_c (h : Srv w s Y X k) (hS : Sane X.R X.L m) {i : Int} (hi : I64 i) : Calls Tryz.prog 92 #[srvP s, .int .i64 i] w fun e w' => e = .returned (.bool (thereL X.R X.L i)) ∧ Below w.heap.size w w' := by
  obtain ⟨⟨b0, b1, b2, b3, b4, b5, b6⟩, -⟩ := h.blk.c7
  have H := Lib.hid ((shows_all hS hi).cget w _ _ h.tree)
  clear h hS hi
  go_enter Tryz.func92, Tryz.ntmps92
  go_wp2_with (go_at_call 48; ((with_reducible refine (H.out).mono ?_); rintro e w' ⟨rfl, hb⟩); have HB := Lib.hid hb; clear hb)
  go_ret
  exact ⟨rfl, HB.out.alloc HB.out.size _⟩
end
section
variable {w : World} {s : Nat} {Y : Yl} {X : Xs} {k m : Nat} {p tv : Value}
set_option maxRecDepth 100000 in
theorem sget_f {i : Int} {v : Win} {ok : Bool} (hw : ∀ W, Below w.heap.size w W → Calls Tryz.prog 43 #[p] W fun e w' => e = .returned tv ∧ W = w')
    (hg : ∀ W, Below w.heap.size w W → Calls Tryz.prog 48 #[tv, .int .i64 i] W fun e w' => e = .returned (.tuple #[winV v, .bool ok]) ∧ Below W.heap.size W w') :
    Calls Tryz.prog 21 #[p, .int .i64 i] w fun e w' => e = .returned (.tuple #[winV v, .bool ok]) ∧ Below w.heap.size w w' := by
  obtain ⟨wb, hwb⟩ : ∃ wb, wb = w.alloc (.cells #[.int .i64 0, .int .i64 0, .int .i64 0, .int .i64 0, .int .i64 0, .int .i64 0, .bool false] 61) := ⟨_, rfl⟩
  have hbel : Below w.heap.size w wb := by rw [hwb]; exact (Below.refl _ _).alloc (Nat.le_refl _) _
  have hbx : Blk wb w.heap.size 61 #[.int .i64 0, .int .i64 0, .int .i64 0, .int .i64 0, .int .i64 0, .int .i64 0, .bool false] := by rw [hwb]; exact Blk.new w _ _
  have H := Lib.hid (hw wb hbel)
  have HG := Lib.hid (hg wb hbel)
  have HX := Lib.hid hbx
  have HB := Lib.hid hbel
  have HW := Lib.hid hwb
  clear hw hg hbx hbel
  go_enter Tryz.func21, Tryz.ntmps21
  go_upto_region 1 with fail
  rw [← HW.out]
  clear hwb
  go_wp2_with (first
    | (go_at_call 43; ((with_reducible refine (H.out).mono ?_); rintro e w' ⟨rfl, rfl⟩))
    | (go_at_call 48; ((with_reducible refine (HG.out).mono ?_); rintro e w1 ⟨rfl, hb⟩); have HB1 := Lib.hid (hb.on HB.out HB.out.size); obtain ⟨⟨z0, z1, z2, z3, z4, z5, z6⟩, ⟨f0, f1, f2, f3, f4, f5, f6⟩⟩ := (HX.out.next hb).c7; clear hb))
  refine bodyPost_ret (v := .tuple #[winV v, .bool ok]) (by simp [results, Tryz.results21, go_sem, z0, z1, z2, z3, z4, z5, z6]) rfl ?_
  exact ⟨rfl, ((((((HB1.out.setCell (Nat.le_refl _) _).setCell (Nat.le_refl _) _).setCell (Nat.le_refl _) _).setCell (Nat.le_refl _) _).setCell (Nat.le_refl _) _).setCell (Nat.le_refl _) _).setCell (Nat.le_refl _) _⟩
theorem sabs_f {i x y : Int} {ok : Bool} (hw : ∀ W, Below w.heap.size w W → Calls Tryz.prog 43 #[p] W fun e w' => e = .returned tv ∧ W = w')
    (hg : ∀ W, Below w.heap.size w W → Calls Tryz.prog 51 #[tv, .int .i64 i] W fun e w' => e = .returned (.tuple #[.agg #[.int .i64 x, .int .i64 y], .bool ok]) ∧ Below W.heap.size W w') :
    Calls Tryz.prog 30 #[p, .int .i64 i] w fun e w' => e = .returned (.tuple #[.agg #[.int .i64 x, .int .i64 y], .bool ok]) ∧ Below w.heap.size w w' := by
  obtain ⟨wb, hwb⟩ : ∃ wb, wb = w.alloc (.cells #[.int .i64 0, .int .i64 0] 87) := ⟨_, rfl⟩
  have hbel : Below w.heap.size w wb := by rw [hwb]; exact (Below.refl _ _).alloc (Nat.le_refl _) _
  have hbx : Blk wb w.heap.size 87 #[.int .i64 0, .int .i64 0] := by rw [hwb]; exact Blk.new w _ _
  have H := Lib.hid (hw wb hbel)
  have HG := Lib.hid (hg wb hbel)
  have HX := Lib.hid hbx
  have HB := Lib.hid hbel
  have HW := Lib.hid hwb
  clear hw hg hbx hbel
  go_enter Tryz.func30, Tryz.ntmps30
  go_upto_region 1 with fail
  rw [← HW.out]
  clear hwb
  go_wp2_with (first
    | (go_at_call 43; ((with_reducible refine (H.out).mono ?_); rintro e w' ⟨rfl, rfl⟩))
    | (go_at_call 51; ((with_reducible refine (HG.out).mono ?_); rintro e w1 ⟨rfl, hb⟩); have HB1 := Lib.hid (hb.on HB.out HB.out.size); obtain ⟨⟨z0, z1⟩, ⟨f0, f1⟩⟩ := (HX.out.next hb).c2; clear hb))
  refine bodyPost_ret (v := .tuple #[.agg #[.int .i64 x, .int .i64 y], .bool ok]) (by simp [results, Tryz.results30, go_sem, z0, z1]) rfl ?_
  exact ⟨rfl, (HB1.out.setCell (Nat.le_refl _) _).setCell (Nat.le_refl _) _⟩
theorem sview_f {i : Int} {b : Bool} (hw : Calls Tryz.prog 43 #[p] w fun e w' => e = .returned tv ∧ w = w')
    (hg : Calls Tryz.prog 44 #[tv, .int .i64 i] w fun e w' => e = .returned (.bool b) ∧ w = w') :
    Calls Tryz.prog 18 #[p, .int .i64 i] w fun e w' => e = .returned (.bool b) ∧ w = w' := by
  have H := Lib.hid hw
  have HG := Lib.hid hg
  clear hw hg
  go_enter Tryz.func18, Tryz.ntmps18
  go_wp2_with (first
    | (go_at_call 43; ((with_reducible refine (H.out).mono ?_); rintro e w' ⟨rfl, rfl⟩))
    | (go_at_call 44; ((with_reducible refine (HG.out).mono ?_); rintro e w1 ⟨rfl, rfl⟩)))
  go_ret
  exact ⟨rfl, rfl⟩
theorem skids_f {i : Int} {xs : List Int} (hw : Calls Tryz.prog 43 #[p] w fun e w' => e = .returned tv ∧ w = w')
    (hg : Calls Tryz.prog 49 #[tv, .int .i64 i] w fun e w' => ∃ v', e = .returned v' ∧ RdI w' v' xs ∧ Below w.heap.size w w') :
    Calls Tryz.prog 26 #[p, .int .i64 i] w fun e w' => ∃ v', e = .returned v' ∧ RdI w' v' xs ∧ Below w.heap.size w w' := by
  have H := Lib.hid hw
  have HG := Lib.hid hg
  clear hw hg
  go_enter Tryz.func26, Tryz.ntmps26
  go_wp2_with (first
    | (go_at_call 43; ((with_reducible refine (H.out).mono ?_); rintro e w' ⟨rfl, rfl⟩))
    | (go_at_call 49; ((with_reducible refine (HG.out).mono ?_); rintro e w1 ⟨v', rfl, hr, hb⟩); have HR := Lib.hid (And.intro hr hb); obtain ⟨p0, c0, hv, -⟩ := hr; subst hv; clear hb))
  go_ret
  exact ⟨_, rfl, HR.out⟩
theorem sget_c (h : Srv w s Y X k) (hS : Sane X.R X.L m) {i : Int} (hi : I64 i) : Calls Tryz.prog 21 #[srvP s, .int .i64 i] w fun e w' => e = .returned (.tuple #[winV (winL X.R X.L i), .bool (thereL X.R X.L i)]) ∧ Below w.heap.size w w' :=
  sget_f (fun _ hW => windows_c (h.next hW)) fun W hW => (shows_all hS hi).cget W _ _ (h.next hW).tree
theorem sabs_c (h : Srv w s Y X k) (hS : Sane X.R X.L m) {i : Int} (hi : I64 i) : Calls Tryz.prog 30 #[srvP s, .int .i64 i] w fun e w' => e = .returned (.tuple #[.agg #[.int .i64 (absXL X.R X.L i), .int .i64 (absYL X.R X.L i)], .bool (thereL X.R X.L i)]) ∧ Below w.heap.size w w' :=
  sabs_f (fun _ hW => windows_c (h.next hW)) fun W hW => (shows_all hS hi).cabs W _ _ (h.next hW).tree
theorem sview_c (h : Srv w s Y X k) (hS : Sane X.R X.L m) {i : Int} (hi : I64 i) : Calls Tryz.prog 18 #[srvP s, .int .i64 i] w fun e w' => e = .returned (.bool (viewL X.R X.L i)) ∧ w = w' :=
  sview_f (windows_c h) ((shows_all hS hi).cview w _ _ h.tree)
theorem skids_c (h : Srv w s Y X k) (hS : Sane X.R X.L m) {i : Int} (hi : I64 i) : Calls Tryz.prog 26 #[srvP s, .int .i64 i] w fun e w' => ∃ v', e = .returned v' ∧ RdI w' v' (kidsL X.L i) ∧ Below w.heap.size w w' :=
  skids_f (windows_c h) ((shows_all hS hi).ckids w _ _ h.tree)
theorem Srv.tab {w : World} (h : Srv w s Y X k) : Pp.TT w Y.tl X.H k := by
  obtain ⟨col, h⟩ := h
  exact h.tab
theorem sprop_c (h : Srv w s Y X k) (hH : Pp.HOk X.H) {i : Int} (hi : I64 i) {n : ByteArray} (hn : n.size ≤ maxLen) :
    Calls Tryz.prog 28 #[srvP s, .int .i64 i, .string n] w fun e w' => e = .returned (.tuple #[Pp.prV ((Pp.msH X.H i n).getD Pp.noP), .bool (Pp.msH X.H i n).isSome]) ∧ Below w.heap.size w w' := by
  obtain ⟨wb, hwb⟩ : ∃ wb, wb = w.alloc (.cells #[.string ⟨#[]⟩, .string ⟨#[]⟩, .string ⟨#[]⟩] 35) := ⟨_, rfl⟩
  have hbel : Below w.heap.size w wb := by rw [hwb]; exact (Below.refl _ _).alloc (Nat.le_refl _) _
  have hbx : Blk wb w.heap.size 35 #[.string ⟨#[]⟩, .string ⟨#[]⟩, .string ⟨#[]⟩] := by rw [hwb]; exact Blk.new w _ _
  obtain ⟨⟨b0, b1, b2, b3, b4, b5, b6⟩, -⟩ := (h.next hbel).blk.c7
  have HG := Lib.hid (Pp.tt_get (h.next hbel).tab hH hi hn)
  obtain ⟨q, hq⟩ : ∃ q, q = (Pp.msH X.H i n).getD Pp.noP := ⟨_, rfl⟩
  obtain ⟨ok, hok⟩ : ∃ ok, ok = (Pp.msH X.H i n).isSome := ⟨_, rfl⟩
  rw [← hq, ← hok] at HG ⊢
  have HX := Lib.hid hbx
  have HB := Lib.hid hbel
  have HW := Lib.hid hwb
  clear h hH hi hn hq hok hbx hbel
  go_enter Tryz.func28, Tryz.ntmps28
  go_upto_region 1 with fail
  rw [← HW.out]
  clear hwb
  go_wp2_with (go_at_call 50; ((with_reducible refine (HG.out).mono ?_); rintro e w1 ⟨rfl, hb⟩); have HB1 := Lib.hid (hb.on HB.out HB.out.size); obtain ⟨⟨z0, z1, z2⟩, ⟨f0, f1, f2⟩⟩ := (HX.out.next hb).c3; clear hb)
  refine bodyPost_ret (v := .tuple #[Pp.prV q, .bool ok]) (by simp [results, Tryz.results28, go_sem, z0, z1, z2]) rfl ?_
  exact ⟨rfl, ((HB1.out.setCell (Nat.le_refl _) _).setCell (Nat.le_refl _) _).setCell (Nat.le_refl _) _⟩
end
/-! ### nobody's -/
section
variable {w : World} {p : Value}
theorem sget_no (h : NoSrv w p) {i : Int} (hi : I64 i) : Calls Tryz.prog 21 #[p, .int .i64 i] w fun e w' => e = .returned (.tuple #[winV zeroW, .bool false]) ∧ Below w.heap.size w w' :=
  sget_f (fun _ hW => windows_no (h.next hW)) fun _ _ => get_no (.inl rfl) hi
theorem sabs_no (h : NoSrv w p) {i : Int} (hi : I64 i) : Calls Tryz.prog 30 #[p, .int .i64 i] w fun e w' => e = .returned (.tuple #[.agg #[.int .i64 0, .int .i64 0], .bool false]) ∧ Below w.heap.size w w' :=
  sabs_f (fun _ hW => windows_no (h.next hW)) fun _ _ => abs_no (.inl rfl) hi
theorem sview_no (h : NoSrv w p) {i : Int} (hi : I64 i) : Calls Tryz.prog 18 #[p, .int .i64 i] w fun e w' => e = .returned (.bool false) ∧ w = w' :=
  sview_f (windows_no h) (view_no (.inl rfl) hi)
theorem skids_no (h : NoSrv w p) {i : Int} (hi : I64 i) : Calls Tryz.prog 26 #[p, .int .i64 i] w fun e w' => ∃ v', e = .returned v' ∧ RdI w' v' [] ∧ Below w.heap.size w w' :=
  skids_f (windows_no h) ((kids_no (.inl rfl) hi).mono fun e w' hh => ⟨_, hh.1, ⟨none, 0, rfl, fun j x hx => by simp at hx⟩, hh.2 ▸ Below.refl _ _⟩)
theorem sprop_no (h : NoSrv w p) {i : Int} (hi : I64 i) {n : ByteArray} (hn : n.size ≤ maxLen) :
    Calls Tryz.prog 28 #[p, .int .i64 i, .string n] w fun e w' => e = .returned (.tuple #[Pp.prV Pp.noP, .bool false]) ∧ Below w.heap.size w w' := by
  rcases h with rfl | ⟨t, rfl, h⟩
  · clear hi hn
    go_enter Tryz.func28, Tryz.ntmps28
    go_wp2_with fail
    refine bodyPost_ret (v := .tuple #[Pp.prV Pp.noP, .bool false]) (by simp [results, Tryz.results28, go_sem, Pp.noP]) rfl ?_
    exact ⟨rfl, by repeat' (first | (with_reducible exact Below.refl _ _) | (with_reducible assumption) | (with_reducible refine Below.alloc ?_ ?_ _) | (with_reducible refine Below.drew ?_) | (with_reducible refine Below.setCell ?_ ?_ _) | (with_reducible refine Below.on (by with_reducible assumption) ?_ ?_) | go_size)⟩
  · obtain ⟨wb, hwb⟩ : ∃ wb, wb = w.alloc (.cells #[.string ⟨#[]⟩, .string ⟨#[]⟩, .string ⟨#[]⟩] 35) := ⟨_, rfl⟩
    have hbel : Below w.heap.size w wb := by rw [hwb]; exact (Below.refl _ _).alloc (Nat.le_refl _) _
    have hbx : Blk wb w.heap.size 35 #[.string ⟨#[]⟩, .string ⟨#[]⟩, .string ⟨#[]⟩] := by rw [hwb]; exact Blk.new w _ _
    obtain ⟨⟨b0, b1, b2, b3, b4, b5, b6⟩, -⟩ := (h.next hbel).c7
    have HG := Lib.hid (Pp.get_nobody (w := wb) (v := .pointer none) (.inl rfl) hi hn)
    have HX := Lib.hid hbx
    have HB := Lib.hid hbel
    have HW := Lib.hid hwb
    clear h hi hn hbx hbel
    go_enter Tryz.func28, Tryz.ntmps28
    go_upto_region 1 with fail
    rw [← HW.out]
    clear hwb
    go_wp2_with (go_at_call 50; ((with_reducible refine (HG.out).mono ?_); rintro e w1 ⟨rfl, hb⟩); have HB1 := Lib.hid (hb.on HB.out HB.out.size); obtain ⟨⟨z0, z1, z2⟩, ⟨f0, f1, f2⟩⟩ := (HX.out.next hb).c3; clear hb)
    refine bodyPost_ret (v := .tuple #[Pp.prV Pp.noP, .bool false]) (by simp [results, Tryz.results28, go_sem, z0, z1, z2]) rfl ?_
    exact ⟨rfl, ((HB1.out.setCell (Nat.le_refl _) _).setCell (Nat.le_refl _) _).setCell (Nat.le_refl _) _⟩
end
end Go.Proofs.YtfdgpbdppenhmaaGreat
