/- A display's destroy, walked. -/
import Derived.Test.YtfdgpbdppenhmaaGreatSrK
namespace Go.Proofs.YtfdgpbdppenhmaaGreat
open Go.RowKit Go.Shelf Go.Maps
section
variable {w w' : World} {s : Nat} {Y : Yl} {X : Xs} {k m : Nat}
theorem Srv.tab_drop (h : Srv w s Y X k) (hH : Pp.HOk X.H) {i : Int} (hi : I64 i) : Calls Tryz.prog 111 #[Pp.tabP Y.tl.t, .int .i64 i] w fun e w' => e = .returned (.tuple #[]) ∧ SrvTo w s Y { X with H := Pp.dropH i X.H } k w' :=
  (Pp.tt_drop h.tab hH hi).mono fun e w' hh => ⟨hh.1, by
    obtain ⟨l', h2, h3, h4⟩ := hh.2
    exact h.table_to (Nat.le_refl k) h2 h3 h4⟩
/-- The maps without a window: the saved ones first. -/
theorem Srv.del_both (h : Srv w s Y X k) {i : Int} (hi : I64 i) (ty : TypeId) : ∃ w1, (Builtin.delete_ #[78, 3] ty #[.map (some Y.sp), .int .i64 i]).run Tryz.prog w = .ok (.tuple #[]) w1 ∧ w1.cell? ⟨s, 2, none⟩ = some (.map (some Y.mp)) ∧
    ∀ ty, ∃ w2, (Builtin.delete_ #[77, 3] ty #[.map (some Y.mp), .int .i64 i]).run Tryz.prog w1 = .ok (.tuple #[]) w2 ∧ SrvTo w s Y { X with M := dropM i X.M } k w2 := by
  obtain ⟨col, h⟩ := h
  obtain ⟨n, hn, hm⟩ := h.sav
  obtain ⟨w1, h1, ⟨n', hn', h2⟩, h3⟩ := hm.del Tryz.underlying78 hi ty
  obtain ⟨h4, h5⟩ := h.saved (Nat.le_refl k) (Nat.le_trans hn' hn) h2 h3
  refine ⟨w1, h1, h4.srv.at_ (i := 2) rfl, fun ty2 => ?_⟩
  obtain ⟨q, hq, hmq⟩ := h4.mak
  obtain ⟨w2, g1, ⟨q', hq', g2⟩, g3⟩ := hmq.del Tryz.underlying77 hi ty2
  obtain ⟨g4, g5⟩ := h4.makers (Nat.le_refl k) (Nat.le_trans hq' hq) g2 g3
  refine ⟨w2, g1, Y, ⟨paintC w1 (paintC w col 4) 3, ?_⟩, h5.trans g5⟩
  rw [makF_drop, savF_drop]
  exact g4.as rfl rfl rfl rfl
theorem forget_eq (X : Xs) (i : Int) : X.forget i = { (if ownM i X.M ≠ 0 then X.tell ⟨4, i, 0, 0, 0, 0, noText⟩ else X) with H := Pp.dropH i X.H, M := dropM i X.M } := by
  unfold Xs.forget
  dsimp only
  split
  · rw [(tell_RL X _).2.2.1, (tell_RL X _).2.2.2.1]
  · rfl
theorem forget_parts (X : Xs) (i : Int) : (X.forget i).R = X.R ∧ (X.forget i).L = X.L ∧ (X.forget i).H = Pp.dropH i X.H ∧ (X.forget i).M = dropM i X.M ∧ (X.forget i).F = X.F ∧ (X.forget i).G = X.G := by
  rw [forget_eq]
  split
  · obtain ⟨a, b, c, d, e, f⟩ := tell_RL X ⟨4, i, 0, 0, 0, 0, noText⟩
    exact ⟨a, b, rfl, rfl, e, f⟩
  · exact ⟨rfl, rfl, rfl, rfl, rfl, rfl⟩
theorem tell_len {X : Xs} (h : X.E.length ≤ 4096) (e : Ev) : (X.tell e).E.length ≤ 4096 := by
  unfold Xs.tell; split
  · next hh => simp; omega
  · exact h
theorem forget_len {X : Xs} (h : X.E.length ≤ 4096) (i : Int) : (X.forget i).E.length ≤ 4096 := by
  rw [forget_eq]
  split
  · exact tell_len h _
  · exact h
/-- What the rounds of destroy keep. -/
structure Fg (X : Xs) : Prop where
  ev : X.E.length ≤ 4096
  h : Pp.HOk X.H
  own : ∀ m ∈ X.M, 0 ≤ m.own
theorem Fg.forget {X : Xs} (h : Fg X) (i : Int) : Fg (X.forget i) := by
  obtain ⟨a, b, c, d, e, f⟩ := forget_parts X i
  exact ⟨forget_len h.ev i, by rw [c]; exact h.h.drop i, fun m hm => h.own m (by rw [d] at hm; exact (dropM_mem.1 hm).1)⟩
theorem Fg.fold {X : Xs} (h : Fg X) : ∀ gs : List Int, Fg (gs.foldl Xs.forget X) := by
  intro gs
  induction gs generalizing X with
  | nil => exact h
  | cons a t ih => exact ih (h.forget a)
theorem fold_snoc {xs : List Int} {j : Nat} {x : Int} (hx : xs[j]? = some x) (X : Xs) : (xs.take (j + 1)).foldl Xs.forget X = ((xs.take j).foldl Xs.forget X).forget x := by
  rw [show xs.take (j + 1) = xs.take j ++ [x] by rw [List.take_add_one, hx]; rfl, List.foldl_append]; rfl
/-- The rounds. -/
def DyS (w : World) (s : Nat) (Y : Yl) (X0 : Xs) (k : Nat) (v : Value) (xs : List Int) (j : Nat) (wr : World) : Prop :=
  ∃ Y1, Srv wr s Y1 ((xs.take j).foldl Xs.forget X0) k ∧ Turn (Y.foot s) (Y1.foot s) w wr ∧ RdI wr v xs ∧ (xs ≠ [] → ∀ r, v.ownBlock = some r → r < wr.heap.size ∧ ¬ Y1.foot s r)
theorem rdI_turn {F F' : Nat → Prop} {v : Value} {xs : List Int} (h : RdI w v xs) (hT : Turn F F' w w') (hn : xs ≠ [] → ∀ r, v.ownBlock = some r → r < w.heap.size ∧ ¬ F r) : RdI w' v xs := by
  obtain ⟨p, c, rfl, hc⟩ := h
  refine ⟨p, c, rfl, fun j x hx => ?_⟩
  obtain ⟨g, rfl, h1⟩ := hc j x hx
  refine ⟨g, rfl, ?_⟩
  obtain ⟨h2, h3⟩ := hn (fun e => by rw [e] at hx; simp at hx) g rfl
  have := hT.block g h2 h3
  unfold World.cell? at h1 ⊢
  dsimp only at h1 ⊢
  rw [this]; exact h1
theorem rdI_own {v : Value} {xs : List Int} (h : RdI w v xs) : ∃ p c, v = .slice p xs.length c := by
  obtain ⟨p, c, e, -⟩ := h
  exact ⟨p, c, e⟩
theorem DyS.turn {X0 : Xs} {v : Value} {xs : List Int} {j : Nat} {wr : World} {x : Int} (hx : xs[j]? = some x) {Y1 : Yl} (hY : Srv wr s Y1 ((xs.take j).foldl Xs.forget X0) k ∧ Turn (Y.foot s) (Y1.foot s) w wr ∧ RdI wr v xs ∧ (xs ≠ [] → ∀ r, v.ownBlock = some r → r < wr.heap.size ∧ ¬ Y1.foot s r))
    (k1 : SrvTo wr s Y1 (((xs.take j).foldl Xs.forget X0).forget x) k w') : DyS w s Y X0 k v xs (j + 1) w' := by
  obtain ⟨h1, h2, h3, h4⟩ := hY
  obtain ⟨Y2, h5, h6⟩ := k1
  refine ⟨Y2, by rw [fold_snoc hx]; exact h5, h2.trans h6, rdI_turn h3 h6 h4, fun hne r hr => ?_⟩
  obtain ⟨h7, h8⟩ := h4 hne r hr
  exact ⟨Nat.lt_of_lt_of_le h7 h6.size, h6.not h7 h8⟩
theorem fold_parts (X : Xs) : ∀ gs : List Int, (gs.foldl Xs.forget X).R = X.R ∧ (gs.foldl Xs.forget X).L = X.L ∧ (gs.foldl Xs.forget X).F = X.F ∧ (gs.foldl Xs.forget X).G = X.G ∧ (∀ m, m ∈ (gs.foldl Xs.forget X).M ↔ m ∈ X.M ∧ m.win ∉ gs) ∧ (gs.foldl Xs.forget X).M.Sublist X.M ∧ (gs.foldl Xs.forget X).H.length ≤ X.H.length := by
  intro gs
  induction gs generalizing X with
  | nil => exact ⟨rfl, rfl, rfl, rfl, fun m => by simp, List.Sublist.refl _, Nat.le_refl _⟩
  | cons a t ih =>
    obtain ⟨h1, h2, h3, h4, h5, h6, h7⟩ := ih (X.forget a)
    obtain ⟨a1, a2, a3, a4, a5, a6⟩ := forget_parts X a
    refine ⟨h1.trans a1, h2.trans a2, h3.trans a5, h4.trans a6, fun m => ?_, h6.trans (by rw [a4]; exact List.filter_sublist), Nat.le_trans h7 (by rw [a3]; exact List.length_filter_le _ _)⟩
    rw [List.foldl_cons, h5 m, a4, dropM_mem]
    simp only [List.mem_cons, not_or]
    exact ⟨fun ⟨⟨q1, q2⟩, q3⟩ => ⟨q1, q2, q3⟩, fun ⟨q1, q2, q3⟩ => ⟨⟨q1, q2⟩, q3⟩⟩
theorem fold_in {X : Xs} {gs : List Int} {y : Int} (h : inM X.M y) (hn : y ∉ gs) : inM (gs.foldl Xs.forget X).M y := by
  obtain ⟨m, h1, rfl⟩ := h
  exact ⟨m, ((fold_parts X gs).2.2.2.2.1 m).2 ⟨h1, hn⟩, rfl⟩
set_option maxRecDepth 100000 in
set_option maxHeartbeats 8000000 in
theorem sdestroy_c (h : Srv w s Y X k) (hV : V0 X k) {i : Int} (hi : I64 i) : Calls Tryz.prog 80 #[srvP s, .int .i64 i] w fun ex w' => ex = .returned (.int .i64 (tDestroy X.R i X.L).2.2) ∧ SrvTo w s Y (X.destroy i) k w' := by
  obtain ⟨k1, k2, -, k4⟩ := t_destroy hV.s hi
  obtain ⟨b0, -⟩ := h.blk.c7.1
  obtain ⟨X0, hX0⟩ : ∃ X0 : Xs, X0 = { X with L := (tDestroy X.R i X.L).1 } := ⟨_, rfl⟩
  obtain ⟨xs, hxs⟩ : ∃ xs, xs = (tDestroy X.R i X.L).2.1 := ⟨_, rfl⟩
  obtain ⟨err, herr⟩ : ∃ err, err = (tDestroy X.R i X.L).2.2 := ⟨_, rfl⟩
  have hfin : xs.foldl Xs.forget X0 = X.destroy i := by
    unfold Xs.destroy
    rw [hxs, hX0]
    unfold tDestroy
    split
    · rfl
    · rfl
  have hfacts : xs.Nodup ∧ ∀ x ∈ xs, inM X.M x := by
    rw [hxs]
    unfold tDestroy
    split
    · exact ⟨List.nodup_nil, fun x hx => by cases hx⟩
    · next hn =>
      have hask := (ask_iff X.L i).1 (Decidable.not_not.1 hn)
      obtain ⟨v, hv, rfl⟩ := hask.2
      obtain ⟨m, -, -, hnd, hin, -⟩ := gone_facts hV.s hv
      exact ⟨hnd, fun x hx => (hV.same x).1 (hin x hx)⟩
  have hF0 : Fg X0 := ⟨by rw [hX0]; exact hV.ev, by rw [hX0]; exact hV.h, fun m hm => (hV.own m (by rw [hX0] at hm; exact hm)).1⟩
  have hM0 : X0.M = X.M := by rw [hX0]
  have HC := Lib.hid (show Calls Tryz.prog 109 #[treeP Y.t, .int .i64 i] w fun ex w' => ∃ v, ex = .returned (.tuple #[v, .int .i64 err]) ∧ DyS w s Y X0 k v xs 0 w' from by
    rw [herr]
    refine (k4 w Y.t Y.l h.tree).mono fun ex w' hh => ?_
    obtain ⟨v, h1, h2, h3, l', h4, h5, h6⟩ := hh
    rw [← hxs] at h2
    have hlt : xs ≠ [] → ∀ r, v.ownBlock = some r → r < w'.heap.size := fun hne r hr => by
      obtain ⟨p, c, rfl, hcl⟩ := h2
      cases hq : xs with
      | nil => exact absurd hq hne
      | cons a t =>
        obtain ⟨g, e1, e2⟩ := hcl 0 a (by rw [hq]; rfl)
        subst e1
        have e3 : g = r := by simpa [Value.ownBlock] using hr
        rw [← e3]
        exact World.block_lt_of_cell? _ _ e2
    obtain ⟨col, hc⟩ := h
    obtain ⟨n, hn, hm⟩ := hc.mak
    have h7 := hc.tree
    have hfoot : ∀ b, Y.foot s b → b < w.heap.size := fun b hb => hc.foot_lt hb
    obtain ⟨n', hn', hm'⟩ := hc.sav
    have hY : SrvR (paintC w col 1) w' s (srvA Y X) { Y with l := l' } { X with L := (tDestroy X.R i X.L).1 } (makF X.M) (savF X.M) k :=
      ⟨(hc.c0.block hc.c1 (by decide) h5 rfl).trans hc.srv, h4, hc.tab.kept fun b hb => hc.c2.block hc.c1 (by decide) h5 hb, ⟨n, hn, hm.same (hc.c3.block hc.c1 (by decide) h5 rfl)⟩, ⟨n', hn', hm'.same (hc.c4.block hc.c1 (by decide) h5 rfl)⟩,
        row_kept hc.row fun b hb => hc.c5.block hc.c1 (by decide) h5 hb, hc.c0.stay h5.size, hc.c1.turn h5 (fun b hb => h4.foot_lt hb), hc.c2.stay h5.size, hc.c3.stay h5.size, hc.c4.stay h5.size, hc.c5.stay h5.size⟩
    refine ⟨v, h1, { Y with l := l' }, ⟨_, by rw [List.take_zero, List.foldl_nil, hX0]; exact hY⟩, h5.wide (fun b hb => .inr (.inl hb)) (fun b hb => ?_), h2, fun hne r hr => ⟨hlt hne r hr, fun hf => ?_⟩⟩
    · rcases hb with hb | hb | hb
      · exact .inr (.inl hb)
      · exact .inl hb
      · exact .inr (.inr (.inr hb))
    · have h8 := h3 r hr
      rcases hf with hf | hf | hf
      · have := hfoot r (.inl hf); omega
      · exact h6 r hr hf
      · have := hfoot r (.inr (.inr hf)); omega)
  have HR := Lib.hid (fun (j : Nat) (v : Value) (wr : World) (hj : j ≤ xs.length) (hD : DyS w s Y X0 k v xs j wr) => hD)
  have HXF := Lib.hid (fun (j : Nat) (x : Int) (hx : xs[j]? = some x) => (show inM ((xs.take j).foldl Xs.forget X0).M x ∧ I64 x ∧ Fg ((xs.take j).foldl Xs.forget X0) from
    ⟨fold_in (by rw [hM0]; exact hfacts.2 x (List.mem_of_getElem? hx)) (nodup_take hfacts.1 hx), in_i64 hV (hfacts.2 x (List.mem_of_getElem? hx)), hF0.fold _⟩))
  have HFIN := Lib.hid hfin
  have hlen : xs.length ≤ 1000 := by rw [hxs]; exact k2
  rw [← herr]
  clear k1 k2 k4 hX0 hxs herr hfin hfacts hF0 hM0 h hV hi HR
  go_enter Tryz.func80, Tryz.ntmps80
  go_upto_region 2 with (go_at_call 109; ((with_reducible refine (HC.out).mono ?_); rintro ex w1 ⟨v, rfl, hD⟩); have HD0 := Lib.hid hD; obtain ⟨Y9, -, -, hr9, -⟩ := hD; obtain ⟨p, c, hv⟩ := rdI_own hr9; subst hv; clear hr9)
  obtain ⟨n, hn⟩ : ∃ n, n = xs.length := ⟨_, rfl⟩
  have HN := Lib.hid hn
  rw [← hn] at hlen ⊢
  have hn0 : (n : Int) ≤ 1000 := by omega
  clear hn hlen
  go_wp2_with fail
  go_loopw [20] (fun z wr => ∃ j : Nat, j ≤ n ∧ z = .int .i64 j ∧ DyS w s Y X0 k (.slice p n c) xs j wr) (fun z _ => n - (intOf z).toNat)
  case atStart => exact ⟨0, Nat.zero_le _, rfl, by rw [HN.out]; exact HD0.out⟩
  case round =>
    obtain ⟨j, hj, rfl, hD⟩ := hrel
    by_cases hlt : j < n
    · obtain ⟨x, hx⟩ : ∃ x, xs[j]? = some x := ⟨_, List.getElem?_eq_getElem (by rw [← HN.out]; exact hlt)⟩
      obtain ⟨hin, hi6, hFg⟩ := HXF.out j x hx
      obtain ⟨Y1, hY⟩ := hD
      obtain ⟨S1, U1, R1, N1⟩ := hY
      obtain ⟨p', c', hpe, hcell⟩ := R1
      obtain ⟨g, hp, hcx⟩ := hcell j x hx
      simp only [Value.slice.injEq] at hpe
      obtain ⟨rfl, -, rfl⟩ := hpe
      subst hp
      have HY := Lib.hid (show Srv wr s Y1 ((xs.take j).foldl Xs.forget X0) k ∧ Turn (Y.foot s) (Y1.foot s) w wr ∧ RdI wr (.slice (some ⟨g, 0, none⟩) n c) xs ∧ (xs ≠ [] → ∀ r, (Value.slice (some ⟨g, 0, none⟩) n c).ownBlock = some r → r < wr.heap.size ∧ ¬ Y1.foot s r) from ⟨S1, U1, ⟨_, c, by rw [HN.out], hcell⟩, N1⟩)
      obtain ⟨X2, hX2⟩ : ∃ X2, X2 = (xs.take j).foldl Xs.forget X0 := ⟨_, rfl⟩
      rw [← hX2] at S1 hin hFg
      obtain ⟨⟨d0, d1, d2, d3, d4, d5, d6⟩, -⟩ := S1.blk.c7
      have el := look_mak1 S1 hi6
      rw [makF_of hin] at el
      have hi0' : (0 : Int) ≤ (j : Int) := by omega
      have hi1 : (j : Int) < (n : Int) := by omega
      have HT := Lib.hid (fun (W : World) (hT : SrvTo wr s Y1 (X2.forget x) k W) => (show DyS w s Y X0 k (.slice (some ⟨g, 0, none⟩) n c) xs (j + 1) W from DyS.turn hx HY.out (by rw [← hX2]; exact hT)))
      obtain ⟨o, ho⟩ : ∃ o, o = ownM x X2.M := ⟨_, rfl⟩
      rw [← ho] at el
      have hpos : 0 ≤ o := by
        obtain ⟨m, hm1, hm2, -⟩ := mfind_some hin
        rw [ho, own_of hm1]
        exact hFg.own m hm2
      obtain ⟨h64, hHH, -⟩ := hFg
      have HS := Lib.hid S1
      have H64 := Lib.hid h64
      have HHO := Lib.hid hHH
      have HXX := Lib.hid (forget_eq X2 x)
      rw [← ho] at HXX
      by_cases hc : o = 0
      · rw [hc] at el HXX
        have HX3 := Lib.hid (show X2.forget x = { X2 with H := Pp.dropH x X2.H, M := dropM x X2.M } from by rw [HXX.out]; rfl)
        have HDR := Lib.hid (S1.tab_drop hHH hi6)
        clear hx hin S1 U1 N1 hcell hX2 ho hpos h64 hHH hc HXX
        go_wp2_with (first
          | (go_at_call 67; ((with_reducible refine (client_c _ _).mono ?_); rintro e w2 ⟨rfl, rfl⟩))
          | (go_at_call 111; ((with_reducible refine (HDR.out).mono ?_); rintro e w4 ⟨rfl, Y3, S3, U3⟩); have d3' := (S3.blk.at_ (i := 3) (v := .map (some Y3.sp)) rfl); have HDB := Lib.hid (fun ty => S3.del_both hi6 ty); have HU3 := Lib.hid U3; clear S3 U3)
          | (at_delete; refine Pp.wpList_delete_any rfl rfl _ _ rfl rfl rfl HDB.out ?_; rintro w5 ⟨d2', hD5⟩; have HD5 := Lib.hid hD5; clear hD5)
          | (at_delete; refine Pp.wpList_delete_any rfl rfl _ _ rfl rfl rfl HD5.out ?_; rintro w6 hT6; have HT6 := Lib.hid (SrvTo.trans HU3.out hT6); clear hT6))
        go_roundw
        case rel => exact ⟨j + 1, by omega, by go_num, HT.out _ (by rw [HX3.out]; exact HT6.out)⟩
        case measure => simp [intOf]; omega
      · have hp1 : (0 : Int) < o := by omega
        have HX3 := Lib.hid (show X2.forget x = { X2.tell ⟨4, x, 0, 0, 0, 0, ⟨#[]⟩⟩ with H := Pp.dropH x X2.H, M := dropM x X2.M } from by rw [HXX.out, if_pos hc]; rfl)
        have HTL := Lib.hid (tell_c S1 h64 ⟨4, x, 0, 0, 0, 0, ⟨#[]⟩⟩)
        obtain ⟨X4, hX4⟩ : ∃ X4, X4 = X2.tell ⟨4, x, 0, 0, 0, 0, ⟨#[]⟩⟩ := ⟨_, rfl⟩
        have hp4 := tell_RL X2 ⟨4, x, 0, 0, 0, 0, ⟨#[]⟩⟩
        rw [← hX4] at HX3 HTL hp4
        have HP4 := Lib.hid hp4
        clear hx hin S1 U1 N1 hcell hX2 ho hpos h64 hHH hc HXX hX4 hp4
        go_wp2_with (first
          | (go_at_call 67; ((with_reducible refine (client_c _ _).mono ?_); rintro e w2 ⟨rfl, rfl⟩))
          | (go_at_call 110; ((with_reducible refine (HTL.out).mono ?_); rintro e w3 ⟨rfl, Y2, S2, U2⟩); have d1' := (S2.blk.at_ (i := 1) (v := Pp.tabP Y2.tl.t) rfl); have HDR := Lib.hid (S2.tab_drop (by rw [HP4.out.2.2.1]; exact HHO.out) hi6); have HU2 := Lib.hid U2; clear S2 U2)
          | (go_at_call 111; ((with_reducible refine (HDR.out).mono ?_); rintro e w4 ⟨rfl, Y3, S3, U3⟩); have d3' := (S3.blk.at_ (i := 3) (v := .map (some Y3.sp)) rfl); have HDB := Lib.hid (fun ty => S3.del_both hi6 ty); have HU3 := Lib.hid (HU2.out.trans U3); clear S3 U3)
          | (at_delete; refine Pp.wpList_delete_any rfl rfl _ _ rfl rfl rfl HDB.out ?_; rintro w5 ⟨d2', hD5⟩; have HD5 := Lib.hid hD5; clear hD5)
          | (at_delete; refine Pp.wpList_delete_any rfl rfl _ _ rfl rfl rfl HD5.out ?_; rintro w6 hT6; have HT6 := Lib.hid (SrvTo.trans HU3.out hT6); clear hT6))
        go_roundw
        case rel => exact ⟨j + 1, by omega, by go_num, HT.out _ (by rw [HX3.out]; have h1 := HT6.out; rw [HP4.out.2.2.1, HP4.out.2.2.2.1] at h1; exact h1)⟩
        case measure => simp [intOf]; omega
    · obtain rfl : j = n := by omega
      obtain ⟨Y1, S1, U1, -⟩ := hD
      rw [HN.out, List.take_length, HFIN.out] at S1
      have HS := Lib.hid (And.intro S1 U1)
      clear S1 U1
      go_wp2_with fail
      go_ret
      exact ⟨rfl, Y1, HS.out.1, HS.out.2⟩
end
end Go.Proofs.YtfdgpbdppenhmaaGreat
