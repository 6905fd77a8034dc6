/- A display made; events compared; the chapter's example. -/
import Derived.Test.YtfdgpbdppenhmaaGreatSrO
namespace Go.Proofs.YtfdgpbdppenhmaaGreat
open Go.RowKit Go.Shelf Go.Maps
theorem nd_begin (R : RT) : ndL R [] = nd0 R.x R.y R.w R.h := by
  funext i
  unfold ndL getR nd0 upd findL
  by_cases hi : i = 0
  · rw [if_pos hi, if_pos hi]; rfl
  · rw [if_neg hi, if_neg hi]; rfl
theorem sane_begin (R : RT) (hl : R.last = 0) : Sane R [] 0 := ⟨⟨List.nodup_nil, (fun v hv => by cases hv), (fun v hv => by cases hv)⟩, by omega, by omega, Nat.le_refl _, by omega⟩
theorem V.start (x y a e : Int) : V (Xs.start x y a e) 0 :=
  ⟨⟨sane_begin _ rfl, List.Pairwise.nil, fun i => ⟨(fun ⟨v, hv, _⟩ => by cases hv), (fun ⟨m, hm, _⟩ => by cases hm)⟩, (fun m hm => by cases hm), (by show (0 : Nat) ≤ 4096; omega), Pp.HOk.begin, Nat.le_refl _, i64_zero⟩, .inl rfl⟩
/-- A display of a call's own. -/
def SrvNew (w : World) (s : Nat) (X : Xs) (k : Nat) (w' : World) : Prop := ∃ Y, Srv w' s Y X k ∧ Below w.heap.size w w' ∧ ∀ b, Y.foot s b → w.heap.size ≤ b
section
variable {w w' : World} {s : Nat} {Y : Yl} {X : Xs} {k m : Nat}
theorem snew_wrong {x y a b : Int} (w : World) (hr : emptyB x y a b = true) : Calls Tryz.prog 8 #[.agg #[.int .i64 x, .int .i64 y, .int .i64 a, .int .i64 b]] w fun e w' => e = .returned (.tuple #[.pointer none, .int .i64 10]) ∧ Below w.heap.size w w' := by
  have HR := Lib.hid (fun W => new_wrong W hr)
  clear hr
  go_enter Tryz.func8, Tryz.ntmps8
  go_wp2_with (go_at_call 33; ((with_reducible refine (HR.out _).mono ?_); rintro e w' ⟨rfl, hb⟩))
  go_ret2
  exact ⟨rfl, hb.on ((Below.refl _ _).alloc (Nat.le_refl _) _) (by simp)⟩
theorem srv_made {w0 w1 w2 : World} {x y a e : Int} {t : Nat} {l : Lay} {tl : Pp.Tl} (hB : Below w0.heap.size w0 w1) (hT : TreeH w1 t l (nd0 x y a e) 0 1) (hf : ∀ b, l.foot t b → w0.heap.size ≤ b)
    (h2 : Pp.TT w2 tl [] 0) (hb2 : Below w1.heap.size w1 w2) (hf2 : ∀ b, tl.foot b → w1.heap.size ≤ b) :
    SrvNew w0 (w2.heap.size + 2) (Xs.start x y a e) 0 (((w2.alloc (.map #[] 0)).alloc (.map #[] 0)).alloc (.cells #[treeP t, Pp.tabP tl.t, .map (some w2.heap.size), .map (some (w2.heap.size + 1)), .slice none 0 0, .int .i64 0, .bool true] 80)) := by
  have hs1 := hB.size
  have hs2 := hb2.size
  have b3 : Below w2.heap.size w2 (((w2.alloc (.map #[] 0)).alloc (.map #[] 0)).alloc (.cells #[treeP t, Pp.tabP tl.t, .map (some w2.heap.size), .map (some (w2.heap.size + 1)), .slice none 0 0, .int .i64 0, .bool true] 80)) :=
    (((Below.refl _ w2).alloc (Nat.le_refl _) _).alloc (by simp) _).alloc (by simp; omega) _
  have hsz : (((w2.alloc (.map #[] 0)).alloc (.map #[] 0)).alloc (.cells #[treeP t, Pp.tabP tl.t, .map (some w2.heap.size), .map (some (w2.heap.size + 1)), .slice none 0 0, .int .i64 0, .bool true] 80)).heap.size = w2.heap.size + 3 := by simp
  have hbs : Blk (((w2.alloc (.map #[] 0)).alloc (.map #[] 0)).alloc (.cells #[treeP t, Pp.tabP tl.t, .map (some w2.heap.size), .map (some (w2.heap.size + 1)), .slice none 0 0, .int .i64 0, .bool true] 80)) (w2.heap.size + 2) 80 #[treeP t, Pp.tabP tl.t, .map (some w2.heap.size), .map (some (w2.heap.size + 1)), .slice none 0 0, .int .i64 0, .bool true] := by
    have h := Blk.new ((w2.alloc (.map #[] 0)).alloc (.map #[] 0)) 80 #[treeP t, Pp.tabP tl.t, .map (some w2.heap.size), .map (some (w2.heap.size + 1)), .slice none 0 0, .int .i64 0, .bool true]
    rwa [show ((w2.alloc (.map #[] 0)).alloc (.map #[] 0)).heap.size = w2.heap.size + 2 by simp] at h
  have hm1 : MapG eltN 0 (((w2.alloc (.map #[] 0)).alloc (.map #[] 0)).alloc (.cells #[treeP t, Pp.tabP tl.t, .map (some w2.heap.size), .map (some (w2.heap.size + 1)), .slice none 0 0, .int .i64 0, .bool true] 80)) w2.heap.size (fun _ => none) 0 :=
    ((MapG.made w2).next ((Below.refl _ _).alloc (Nat.le_refl _) _)).next ((Below.refl _ _).alloc (Nat.le_refl _) _)
  have hm2 : MapG eltU () (((w2.alloc (.map #[] 0)).alloc (.map #[] 0)).alloc (.cells #[treeP t, Pp.tabP tl.t, .map (some w2.heap.size), .map (some (w2.heap.size + 1)), .slice none 0 0, .int .i64 0, .bool true] 80)) (w2.heap.size + 1) (fun _ => none) 0 := by
    have h := (MapG.made (E := eltU) (z := ()) (w2.alloc (.map #[] 0))).next ((Below.refl _ _).alloc (Nat.le_refl _) (.cells #[treeP t, Pp.tabP tl.t, .map (some w2.heap.size), .map (some (w2.heap.size + 1)), .slice none 0 0, .int .i64 0, .bool true] 80))
    rwa [show (w2.alloc (.map #[] 0)).heap.size = w2.heap.size + 1 by simp] at h
  generalize ((w2.alloc (.map #[] 0)).alloc (.map #[] 0)).alloc (.cells #[treeP t, Pp.tabP tl.t, .map (some w2.heap.size), .map (some (w2.heap.size + 1)), .slice none 0 0, .int .i64 0, .bool true] 80) = w3 at b3 hsz hbs hm1 hm2 ⊢
  have hTl : ∀ b, l.foot t b → b < w1.heap.size := fun b hb => hT.foot_lt hb
  have h2l : ∀ b, tl.foot b → b < w2.heap.size := fun b hb => h2.lt hb
  refine ⟨⟨t, l, tl, w2.heap.size, w2.heap.size + 1, .slice none 0 0⟩, ⟨fun b => if b < w1.heap.size then 1 else if b < w2.heap.size then 2 else if b = w2.heap.size then 3 else if b = w2.heap.size + 1 then 4 else 0, hbs, ?_, h2.next b3, ⟨0, Nat.le_refl _, hm1⟩, ⟨0, Nat.le_refl _, hm2⟩, OwK.nil _ _, ?_, ?_, ?_, ?_, ?_, fun b hb => by cases hb⟩, ?_, ?_⟩
  · have h4 : TreeH w3 t l (nd0 x y a e) 0 1 := (hT.next hb2).next b3
    rw [← nd_begin ⟨x, y, a, e, 0⟩] at h4
    exact h4
  · rintro b rfl
    refine ⟨by omega, ?_⟩
    dsimp only
    rw [if_neg (by omega), if_neg (by omega), if_neg (by omega), if_neg (by omega)]
  · intro b hb
    have := hTl b hb
    exact ⟨by omega, by dsimp only; rw [if_pos this]⟩
  · intro b hb
    have := h2l b hb
    have := hf2 b hb
    refine ⟨by omega, ?_⟩
    dsimp only
    rw [if_neg (by omega), if_pos (by omega)]
  · rintro b rfl
    refine ⟨by show w2.heap.size < _; omega, ?_⟩
    dsimp only
    rw [if_neg (by omega), if_neg (by omega), if_pos rfl]
  · rintro b rfl
    refine ⟨by show w2.heap.size + 1 < _; omega, ?_⟩
    dsimp only
    rw [if_neg (by omega), if_neg (by omega), if_neg (by omega), if_pos rfl]
  · exact (hB.trans (hb2.mono hs1)).trans (b3.mono (by omega))
  · intro b hb
    rcases hb with hb | hb | hb | hb | hb | hb
    · omega
    · exact hf b hb
    · have := hf2 b hb; omega
    · have hb' : b = w2.heap.size := hb
      omega
    · have hb' : b = w2.heap.size + 1 := hb
      omega
    · cases hb
set_option maxRecDepth 100000 in
theorem snew_c {x y a b : Int} (w : World) (hr : emptyB x y a b = false) : Calls Tryz.prog 8 #[.agg #[.int .i64 x, .int .i64 y, .int .i64 a, .int .i64 b]] w fun e w' => ∃ s, e = .returned (.tuple #[srvP s, .int .i64 0]) ∧ SrvNew w s (Xs.start x y a b) 0 w' := by
  have hmm := @run_makeMap Tryz.prog
  obtain ⟨wb, hwb⟩ : ∃ wb, wb = w.alloc (.cells #[.int .i64 x, .int .i64 y, .int .i64 a, .int .i64 b] 23) := ⟨_, rfl⟩
  have hbel : Below w.heap.size w wb := by rw [hwb]; exact (Below.refl _ _).alloc (Nat.le_refl _) _
  have hbx : Blk wb w.heap.size 23 #[.int .i64 x, .int .i64 y, .int .i64 a, .int .i64 b] := by rw [hwb]; exact Blk.new w _ _
  obtain ⟨⟨x0, x1, x2, x3⟩, -⟩ := hbx.c4
  have HN := Lib.hid (new_c wb hr)
  have HP := Lib.hid (fun W => Pp.tt_new W)
  have HW := Lib.hid hwb
  have HB := Lib.hid hbel
  clear hr hbel hbx
  go_enter Tryz.func8, Tryz.ntmps8
  go_upto_region 1 with fail
  rw [← HW.out]
  clear hwb
  go_wp2_with (first
    | (go_at_call 33; ((with_reducible refine (HN.out).mono ?_); rintro e w1 ⟨t, rfl, hT⟩); have HT := Lib.hid hT; clear hT)
    | (go_at_call 34; ((with_reducible refine (HP.out _).mono ?_); rintro e w2 ⟨tl, rfl, hP⟩); have HPP := Lib.hid hP; clear hP))
  go_ret2
  obtain ⟨l, -, h1, h2, h3⟩ := HT.out
  obtain ⟨h4, h5, h6⟩ := HPP.out
  obtain ⟨Y, k1, k2, k3⟩ := srv_made h2 h1 h3 h4 h5 h6
  exact ⟨_, rfl, Y, k1, k2.on HB.out HB.out.size, fun b hb => Nat.le_trans HB.out.size (k3 b hb)⟩
theorem rect8_c (x y a b : Int) (w : World) : Calls Tryz.prog 16 #[.int .i64 x, .int .i64 y, .int .i64 a, .int .i64 b] w fun e w' => e = .returned (.agg #[.int .i64 x, .int .i64 y, .int .i64 a, .int .i64 b]) ∧ Below w.heap.size w w' := by
  go_enter Tryz.func16, Tryz.ntmps16
  go_wp2_with fail
  refine bodyPost_ret (v := .agg #[.int .i64 x, .int .i64 y, .int .i64 a, .int .i64 b]) (by simp [results, Tryz.results16, go_sem]) rfl ?_
  exact ⟨rfl, (Below.refl _ w).alloc (Nat.le_refl _) _⟩
theorem begun_c (w : World) : Calls Tryz.prog 15 #[] w fun e w' => ∃ s, e = .returned (srvP s) ∧ SrvNew w s (Xs.start 0 0 100 100) 0 w' := by
  have HR := Lib.hid (fun W => rect8_c 0 0 100 100 W)
  have HN := Lib.hid (fun W => snew_c (x := 0) (y := 0) (a := 100) (b := 100) W (by decide))
  go_enter Tryz.func15, Tryz.ntmps15
  go_wp2_with (first
    | (go_at_call 16; ((with_reducible refine (HR.out _).mono ?_); rintro e w1 ⟨rfl, hb⟩); have HB1 := Lib.hid hb; clear hb)
    | (go_at_call 8; ((with_reducible refine (HN.out _).mono ?_); rintro e w2 ⟨s, rfl, hS⟩); have HS := Lib.hid hS; clear hS))
  go_ret
  obtain ⟨Y, k1, k2, k3⟩ := HS.out
  exact ⟨_, rfl, Y, k1, k2.on HB1.out HB1.out.size, fun b hb => Nat.le_trans HB1.out.size (k3 b hb)⟩
end
/-- A row of events, read. -/
abbrev RdE (w : World) (v : Value) (l : List Ev) : Prop := RdK encE 7 w v l
set_option maxRecDepth 100000 in
set_option maxHeartbeats 4000000 in
theorem evs_same (va vb : Value) (a : List Ev) (w : World) (ha : RdE w va a) (hb : RdE w vb a) (hla : a.length ≤ 1048576) :
    Calls Tryz.prog 27 #[va, vb] w fun e w' => e = .returned (.bool true) ∧ Below w.heap.size w w' := by
  obtain ⟨p, c, rfl, ha⟩ := ha
  obtain ⟨p', c', rfl, hb⟩ := hb
  have HA := Lib.hid ha
  have HB := Lib.hid hb
  obtain ⟨n, hn⟩ : ∃ n, n = a.length := ⟨_, rfl⟩
  rw [← hn] at hla ⊢
  have HN := Lib.hid hn
  clear ha hb hn
  go_enter Tryz.func27, Tryz.ntmps27
  go_wp2_with fail
  go_loopw [5] (fun v wr => ∃ k q : Nat, k ≤ n ∧ v = .int .i64 k ∧ wr = w.drewN q) (fun v _ => n - (intOf v).toNat)
  case atStart => exact ⟨0, 0, Nat.zero_le _, rfl, rfl⟩
  case round =>
    obtain ⟨k, q, hk, rfl, rfl⟩ := hrel
    by_cases hlt : k < n
    · obtain ⟨u, hu⟩ : ∃ u, a[k]? = some u := ⟨_, List.getElem?_eq_getElem (by rw [← HN.out]; exact hlt)⟩
      obtain ⟨g, o, rfl, -, h1⟩ := HA.out k u hu
      obtain ⟨g', o', rfl, -, h2⟩ := HB.out k u hu
      clear hu
      have r0 := h1 0 _ rfl
      have r1 := h1 1 _ rfl
      have r2 := h1 2 _ rfl
      have r3 := h1 3 _ rfl
      have r4 := h1 4 _ rfl
      have r5 := h1 5 _ rfl
      have r6 := h1 6 _ rfl
      have s0 := h2 0 _ rfl
      have s1 := h2 1 _ rfl
      have s2 := h2 2 _ rfl
      have s3 := h2 3 _ rfl
      have s4 := h2 4 _ rfl
      have s5 := h2 5 _ rfl
      have s6 := h2 6 _ rfl
      simp only [Nat.add_zero] at r0 s0
      clear h1 h2
      have hi0 : (0 : Int) ≤ (k : Int) := by omega
      have hi1 : (k : Int) < (n : Int) := by omega
      go_wp2_with fail
      go_quiet (fail)
      go_wp2_with fail
      go_roundw
      case rel => exact ⟨k + 1, _, by omega, by go_num, rfl⟩
      case measure => simp [intOf]; omega
    · go_wp2_with fail
      go_ret
      exact ⟨rfl, below_drewN (Below.refl _ _) _⟩
theorem evs_len (p p' : Option Addr) (n n' c c' : Nat) (w : World) (hn : n ≠ n') :
    Calls Tryz.prog 27 #[.slice p n c, .slice p' n' c'] w fun e w' => e = .returned (.bool false) ∧ Below w.heap.size w w' := by
  have h1 : ¬ (n : Int) = (n' : Int) := by omega
  go_enter Tryz.func27, Tryz.ntmps27
  go_wp2_with fail
  go_ret
  exact ⟨rfl, Below.refl _ _⟩
end Go.Proofs.YtfdgpbdppenhmaaGreat
