/- order.Order, walked. -/
import Derived.Test.YtgioeijdgoogkaaOdK
import Derived.Laws.MakeOwn
namespace Go.Proofs.Ytgioeijdgoogkaa.Od
open Go.RowKit Go.Maps Go.Shelf
set_option linter.unusedSimpArgs false
theorem frB_none {l : List It} {out : List Int} {c : Int} (h : ow l c = none) : frB l out c = true := by unfold frB; rw [h]
theorem frB_some {l : List It} {out : List Int} {c d : Int} (h : ow l c = some d) : frB l out c = decide (d ∈ out) := by unfold frB; rw [h]
set_option maxHeartbeats 2000000 in
set_option maxRecDepth 100000 in
theorem free_c (l : List It) (out : List Int) (gO g5 gT g7 n : Nat) (c : Int) (w : World) (hd : Dis l) (hln : n = l.length) (hO : Blk w gO 3 (arrI (ofL l (ow l)))) (h5 : Blk w g5 27 #[.slice (some ⟨gO, 0, none⟩) n n]) (hT : Blk w gT 4 (arrB l out)) (h7 : Blk w g7 47 #[.slice (some ⟨gT, 0, none⟩) n n]) (hc : c ∈ cl l) :
    Calls Try.prog 30 #[.int .i64 (pl l c), .pointer (some ⟨g5, 0, none⟩), .pointer (some ⟨g7, 0, none⟩)] w fun e w' => e = .returned (.bool (frB l out c)) ∧ Below w.heap.size w w' := by
  obtain ⟨i, x, hx, hxc, -, hil, hidx⟩ := cl_at hd hc
  have hp : pl l c = (i : Int) := by unfold pl; rw [hidx]
  rw [hp]
  have hi0 : (0 : Int) ≤ (i : Int) := by omega
  have hi1 : (i : Int) < (n : Int) := by omega
  have c0 := hO.at_ (arrI_at (ofL_at hx))
  rw [hxc] at c0
  have c5 := h5.at_ (i := 0) rfl
  have c7 := h7.at_ (i := 0) rfl
  have HB0 := Lib.hid (Below.refl w.heap.size w).drew
  cases ho : ow l c with
  | none =>
    have HR := Lib.hid (frB_none (out := out) ho)
    rw [ho] at c0
    have c0 : w.cell? ⟨gO, i, none⟩ = some (.int .i64 (-1)) := c0
    have HSS : Hid (w.drew.cell? ⟨g5, 0, none⟩ = some (.slice (some ⟨gO, 0, none⟩) n n) ∧ w.drew.cell? ⟨gO, i, none⟩ = some (.int .i64 (-1))) := ⟨c5, c0⟩
    obtain ⟨B, hB⟩ : ∃ B, B = frB l out c := ⟨_, rfl⟩
    rw [← hB] at HR ⊢
    clear hd hln hO h5 hT h7 hc hx hxc hil hidx hp ho hB c0 c5 c7
    go_enter Try.func30, Try.ntmps30
    go_upto_region 1 with fail
    refine wp_region_noPanic ?_
    refine wp_region_held_drew (S := fun wx => wx.cell? ⟨g5, 0, none⟩ = some (.slice (some ⟨gO, 0, none⟩) n n) ∧ wx.cell? ⟨gO, i, none⟩ = some (.int .i64 (-1))) (by kernel_rfl) (by exact HSS.out) (fun hHeld => ?_)
    refine wpAnyH_take (i := 0) (v := ?va0) rfl (by kernel_rfl) (by kernel_rfl) (by kernel_rfl) (fun _ _ _ h => h) (Or.inl ⟨by kernel_rfl, ?ya0⟩) (by assumption) ?ra0
    case ya0 => (intro wq hSw; (try dsimp only at hSw); go_simp; (try with_reducible rfl))
    (try simp only [Act.put, List.getElem_toArray, List.getElem_cons_zero, List.setIfInBounds_toArray, List.set_cons_zero, List.set_cons_succ])
    refine wpAnyH_take (i := 1) (v := ?va1) rfl (by kernel_rfl) (by kernel_rfl) (by kernel_rfl) (fun _ _ _ h => h) (Or.inl ⟨by kernel_rfl, ?ya1⟩) (by assumption) ?ra1
    case ya1 => (intro wq hSw; (try dsimp only at hSw); go_simp; (try with_reducible rfl))
    (try simp only [Act.put, List.getElem_toArray, List.getElem_cons_succ, List.getElem_cons_zero, List.setIfInBounds_toArray, List.set_cons_zero, List.set_cons_succ])
    refine wpAnyH_take (i := 2) (v := ?va2) rfl (by kernel_rfl) (by kernel_rfl) (by kernel_rfl) (fun _ _ _ h => h) (Or.inl ⟨by kernel_rfl, ?ya2⟩) (by assumption) ?ra2
    case ya2 => (intro wq hSw; (try dsimp only at hSw); go_simp; (try with_reducible rfl))
    (try simp only [Act.put, List.getElem_toArray, List.getElem_cons_succ, List.getElem_cons_zero, List.setIfInBounds_toArray, List.set_cons_zero, List.set_cons_succ])
    refine wpAnyH_take (i := 3) (v := ?va3) rfl (by kernel_rfl) (by kernel_rfl) (by kernel_rfl) (fun _ _ _ h => h) (Or.inl ⟨by kernel_rfl, ?ya3⟩) (by assumption) ?ra3
    case ya3 => (intro wq hSw; (try dsimp only at hSw); go_simp; (try with_reducible rfl))
    (try simp only [Act.put, List.getElem_toArray, List.getElem_cons_succ, List.getElem_cons_zero, List.setIfInBounds_toArray, List.set_cons_zero, List.set_cons_succ])
    refine wpAnyH_take (i := 4) (v := ?va4) rfl (by kernel_rfl) (by kernel_rfl) (by kernel_rfl) (fun _ _ _ h => h) (Or.inl ⟨by kernel_rfl, ?ya4⟩) (by assumption) ?ra4
    case ya4 => (intro wq hSw; (try dsimp only at hSw); go_simp; (try with_reducible rfl))
    (try simp only [Act.put, List.getElem_toArray, List.getElem_cons_succ, List.getElem_cons_zero, List.setIfInBounds_toArray, List.set_cons_zero, List.set_cons_succ])
    refine wpAnyH_take (i := 5) (v := ?va5) rfl (by kernel_rfl) (by kernel_rfl) (by kernel_rfl) (fun _ _ _ h => h) (Or.inl ⟨by kernel_rfl, ?ya5⟩) (by assumption) ?ra5
    case ya5 => (intro wq hSw; (try dsimp only at hSw); go_simp; (try with_reducible rfl))
    (try simp only [Act.put, List.getElem_toArray, List.getElem_cons_succ, List.getElem_cons_zero, List.setIfInBounds_toArray, List.set_cons_zero, List.set_cons_succ])
    refine wpAnyH_take (i := 6) (v := undef) rfl (by kernel_rfl) (by kernel_rfl) (by kernel_rfl) (fun _ _ _ h => h) (Or.inr ⟨by kernel_rfl, rfl⟩) (by assumption) ?_
    (try simp only [Act.put, List.getElem_toArray, List.getElem_cons_succ, List.getElem_cons_zero, List.setIfInBounds_toArray, List.set_cons_zero, List.set_cons_succ])
    refine wpAnyH_take (i := 7) (v := undef) rfl (by kernel_rfl) (by kernel_rfl) (by kernel_rfl) (fun _ _ _ h => h) (Or.inr ⟨by kernel_rfl, rfl⟩) (by assumption) ?_
    (try simp only [Act.put, List.getElem_toArray, List.getElem_cons_succ, List.getElem_cons_zero, List.setIfInBounds_toArray, List.set_cons_zero, List.set_cons_succ])
    refine wpAnyH_take (i := 8) (v := undef) rfl (by kernel_rfl) (by kernel_rfl) (by kernel_rfl) (fun _ _ _ h => h) (Or.inr ⟨by kernel_rfl, rfl⟩) (by assumption) ?_
    (try simp only [Act.put, List.getElem_toArray, List.getElem_cons_succ, List.getElem_cons_zero, List.setIfInBounds_toArray, List.set_cons_zero, List.set_cons_succ])
    refine wpAnyH_take (i := 9) (v := undef) rfl (by kernel_rfl) (by kernel_rfl) (by kernel_rfl) (fun _ _ _ h => h) (Or.inr ⟨by kernel_rfl, rfl⟩) (by assumption) ?_
    (try simp only [Act.put, List.getElem_toArray, List.getElem_cons_succ, List.getElem_cons_zero, List.setIfInBounds_toArray, List.set_cons_zero, List.set_cons_succ])
    refine wpAnyH_take (i := 10) (v := undef) rfl (by kernel_rfl) (by kernel_rfl) (by kernel_rfl) (fun _ _ _ h => h) (Or.inr ⟨by kernel_rfl, rfl⟩) (by assumption) ?_
    (try simp only [Act.put, List.getElem_toArray, List.getElem_cons_succ, List.getElem_cons_zero, List.setIfInBounds_toArray, List.set_cons_zero, List.set_cons_succ])
    refine wpAnyH_take (i := 11) (v := undef) rfl (by kernel_rfl) (by kernel_rfl) (by kernel_rfl) (fun _ _ _ h => h) (Or.inr ⟨by kernel_rfl, rfl⟩) (by assumption) ?_
    (try simp only [Act.put, List.getElem_toArray, List.getElem_cons_succ, List.getElem_cons_zero, List.setIfInBounds_toArray, List.set_cons_zero, List.set_cons_succ])
    refine wpAnyH_take (i := 12) (v := undef) rfl (by kernel_rfl) (by kernel_rfl) (by kernel_rfl) (fun _ _ _ h => h) (Or.inr ⟨by kernel_rfl, rfl⟩) (by assumption) ?_
    (try simp only [Act.put, List.getElem_toArray, List.getElem_cons_succ, List.getElem_cons_zero, List.setIfInBounds_toArray, List.set_cons_zero, List.set_cons_succ])
    refine wpAnyH_take (i := 13) (v := ?va13) rfl (by kernel_rfl) (by kernel_rfl) (by kernel_rfl) (fun _ _ _ h => h) (Or.inl ⟨by kernel_rfl, ?ya13⟩) (by assumption) ?ra13
    case ya13 => (intro wq hSw; (try dsimp only at hSw); go_simp; (try with_reducible rfl))
    (try simp only [Act.put, List.getElem_toArray, List.getElem_cons_succ, List.getElem_cons_zero, List.setIfInBounds_toArray, List.set_cons_zero, List.set_cons_succ])
    refine wpAnyH_take (i := 14) (v := ?va14) rfl (by kernel_rfl) (by kernel_rfl) (by kernel_rfl) (fun _ _ _ h => h) (Or.inl ⟨by kernel_rfl, ?ya14⟩) (by assumption) ?ra14
    case ya14 => (intro wq hSw; (try dsimp only at hSw); go_simp; (try with_reducible rfl))
    (try simp only [Act.put, List.getElem_toArray, List.getElem_cons_succ, List.getElem_cons_zero, List.setIfInBounds_toArray, List.set_cons_zero, List.set_cons_succ])
    refine wpAnyH_done (by kernel_rfl) ?_ _
    refine NoPanic.normal ?_
    clear hHeld HSS
    go_wp2_with fail
    go_ret
    exact ⟨by rw [HR.out]; rfl, HB0.out⟩
  | some d =>
    obtain ⟨j, y, hj, hyc, e1, hjl, -⟩ := cl_at hd (ow_cl _ _ ho)
    have HR := Lib.hid (frB_some (out := out) ho)
    rw [ho, e1] at c0
    have cT := hT.at_ (arrB_at (out := out) hj)
    rw [hyc] at cT
    have hj0 : (0 : Int) ≤ (j : Int) := by omega
    have hj1 : (j : Int) < (n : Int) := by omega
    have e2 : ¬ ((j : Int) = -1) := by omega
    have e3 : ((j : Int) == -1) = false := by simp
    obtain ⟨B, hB⟩ : ∃ B, B = frB l out c := ⟨_, rfl⟩
    rw [← hB] at HR ⊢
    obtain ⟨D, hD⟩ : ∃ D, D = decide (d ∈ out) := ⟨_, rfl⟩
    rw [← hD] at HR cT
    have HSS : Hid (w.drew.cell? ⟨g5, 0, none⟩ = some (.slice (some ⟨gO, 0, none⟩) n n) ∧ w.drew.cell? ⟨gO, i, none⟩ = some (.int .i64 j) ∧ w.drew.cell? ⟨g7, 0, none⟩ = some (.slice (some ⟨gT, 0, none⟩) n n) ∧ w.drew.cell? ⟨gT, j, none⟩ = some (.bool D)) := ⟨c5, c0, c7, cT⟩
    clear hd hln hO h5 hT h7 hc hx hxc hil hidx hp ho hB hD hj hyc e1 hjl c0 c5 c7 cT
    go_enter Try.func30, Try.ntmps30
    go_upto_region 1 with fail
    refine wp_region_noPanic ?_
    refine wp_region_held_drew (S := fun wx => wx.cell? ⟨g5, 0, none⟩ = some (.slice (some ⟨gO, 0, none⟩) n n) ∧ wx.cell? ⟨gO, i, none⟩ = some (.int .i64 j) ∧ wx.cell? ⟨g7, 0, none⟩ = some (.slice (some ⟨gT, 0, none⟩) n n) ∧ wx.cell? ⟨gT, j, none⟩ = some (.bool D)) (by kernel_rfl) (by exact HSS.out) (fun hHeld => ?_)
    refine wpAnyH_take (i := 0) (v := ?vb0) rfl (by kernel_rfl) (by kernel_rfl) (by kernel_rfl) (fun _ _ _ h => h) (Or.inl ⟨by kernel_rfl, ?yb0⟩) (by assumption) ?rb0
    case yb0 => (intro wq hSw; (try dsimp only at hSw); go_simp; (try with_reducible rfl))
    (try simp only [Act.put, List.getElem_toArray, List.getElem_cons_zero, List.setIfInBounds_toArray, List.set_cons_zero, List.set_cons_succ])
    refine wpAnyH_take (i := 1) (v := ?vb1) rfl (by kernel_rfl) (by kernel_rfl) (by kernel_rfl) (fun _ _ _ h => h) (Or.inl ⟨by kernel_rfl, ?yb1⟩) (by assumption) ?rb1
    case yb1 => (intro wq hSw; (try dsimp only at hSw); go_simp; (try with_reducible rfl))
    (try simp only [Act.put, List.getElem_toArray, List.getElem_cons_succ, List.getElem_cons_zero, List.setIfInBounds_toArray, List.set_cons_zero, List.set_cons_succ])
    refine wpAnyH_take (i := 2) (v := ?vb2) rfl (by kernel_rfl) (by kernel_rfl) (by kernel_rfl) (fun _ _ _ h => h) (Or.inl ⟨by kernel_rfl, ?yb2⟩) (by assumption) ?rb2
    case yb2 => (intro wq hSw; (try dsimp only at hSw); go_simp; (try with_reducible rfl))
    (try simp only [Act.put, List.getElem_toArray, List.getElem_cons_succ, List.getElem_cons_zero, List.setIfInBounds_toArray, List.set_cons_zero, List.set_cons_succ])
    refine wpAnyH_take (i := 3) (v := ?vb3) rfl (by kernel_rfl) (by kernel_rfl) (by kernel_rfl) (fun _ _ _ h => h) (Or.inl ⟨by kernel_rfl, ?yb3⟩) (by assumption) ?rb3
    case yb3 => (intro wq hSw; (try dsimp only at hSw); go_simp; (try with_reducible rfl))
    (try simp only [Act.put, List.getElem_toArray, List.getElem_cons_succ, List.getElem_cons_zero, List.setIfInBounds_toArray, List.set_cons_zero, List.set_cons_succ])
    refine wpAnyH_take (i := 4) (v := ?vb4) rfl (by kernel_rfl) (by kernel_rfl) (by kernel_rfl) (fun _ _ _ h => h) (Or.inl ⟨by kernel_rfl, ?yb4⟩) (by assumption) ?rb4
    case yb4 => (intro wq hSw; (try dsimp only at hSw); go_simp; (try with_reducible rfl))
    (try simp only [Act.put, List.getElem_toArray, List.getElem_cons_succ, List.getElem_cons_zero, List.setIfInBounds_toArray, List.set_cons_zero, List.set_cons_succ])
    refine wpAnyH_take (i := 5) (v := ?vb5) rfl (by kernel_rfl) (by kernel_rfl) (by kernel_rfl) (fun _ _ _ h => h) (Or.inl ⟨by kernel_rfl, ?yb5⟩) (by assumption) ?rb5
    case yb5 => (intro wq hSw; (try dsimp only at hSw); go_simp; (try with_reducible rfl))
    (try simp only [Act.put, List.getElem_toArray, List.getElem_cons_succ, List.getElem_cons_zero, List.setIfInBounds_toArray, List.set_cons_zero, List.set_cons_succ])
    refine wpAnyH_take (i := 6) (v := ?vb6) rfl (by kernel_rfl) (by kernel_rfl) (by kernel_rfl) (fun _ _ _ h => h) (Or.inl ⟨by kernel_rfl, ?yb6⟩) (by assumption) ?rb6
    case yb6 => (intro wq hSw; (try dsimp only at hSw); go_simp; (try with_reducible rfl))
    (try simp only [Act.put, List.getElem_toArray, List.getElem_cons_succ, List.getElem_cons_zero, List.setIfInBounds_toArray, List.set_cons_zero, List.set_cons_succ])
    refine wpAnyH_take (i := 7) (v := ?vb7) rfl (by kernel_rfl) (by kernel_rfl) (by kernel_rfl) (fun _ _ _ h => h) (Or.inl ⟨by kernel_rfl, ?yb7⟩) (by assumption) ?rb7
    case yb7 => (intro wq hSw; (try dsimp only at hSw); go_simp; (try with_reducible rfl))
    (try simp only [Act.put, List.getElem_toArray, List.getElem_cons_succ, List.getElem_cons_zero, List.setIfInBounds_toArray, List.set_cons_zero, List.set_cons_succ])
    refine wpAnyH_take (i := 8) (v := ?vb8) rfl (by kernel_rfl) (by kernel_rfl) (by kernel_rfl) (fun _ _ _ h => h) (Or.inl ⟨by kernel_rfl, ?yb8⟩) (by assumption) ?rb8
    case yb8 => (intro wq hSw; (try dsimp only at hSw); go_simp; (try with_reducible rfl))
    (try simp only [Act.put, List.getElem_toArray, List.getElem_cons_succ, List.getElem_cons_zero, List.setIfInBounds_toArray, List.set_cons_zero, List.set_cons_succ])
    refine wpAnyH_take (i := 9) (v := ?vb9) rfl (by kernel_rfl) (by kernel_rfl) (by kernel_rfl) (fun _ _ _ h => h) (Or.inl ⟨by kernel_rfl, ?yb9⟩) (by assumption) ?rb9
    case yb9 => (intro wq hSw; (try dsimp only at hSw); go_simp; (try with_reducible rfl))
    (try simp only [Act.put, List.getElem_toArray, List.getElem_cons_succ, List.getElem_cons_zero, List.setIfInBounds_toArray, List.set_cons_zero, List.set_cons_succ])
    refine wpAnyH_take (i := 10) (v := ?vb10) rfl (by kernel_rfl) (by kernel_rfl) (by kernel_rfl) (fun _ _ _ h => h) (Or.inl ⟨by kernel_rfl, ?yb10⟩) (by assumption) ?rb10
    case yb10 => (intro wq hSw; (try dsimp only at hSw); go_simp; (try with_reducible rfl))
    (try simp only [Act.put, List.getElem_toArray, List.getElem_cons_succ, List.getElem_cons_zero, List.setIfInBounds_toArray, List.set_cons_zero, List.set_cons_succ])
    refine wpAnyH_take (i := 11) (v := ?vb11) rfl (by kernel_rfl) (by kernel_rfl) (by kernel_rfl) (fun _ _ _ h => h) (Or.inl ⟨by kernel_rfl, ?yb11⟩) (by assumption) ?rb11
    case yb11 => (intro wq hSw; (try dsimp only at hSw); go_simp; (try with_reducible rfl))
    (try simp only [Act.put, List.getElem_toArray, List.getElem_cons_succ, List.getElem_cons_zero, List.setIfInBounds_toArray, List.set_cons_zero, List.set_cons_succ])
    refine wpAnyH_take (i := 12) (v := ?vb12) rfl (by kernel_rfl) (by kernel_rfl) (by kernel_rfl) (fun _ _ _ h => h) (Or.inl ⟨by kernel_rfl, ?yb12⟩) (by assumption) ?rb12
    case yb12 => (intro wq hSw; (try dsimp only at hSw); go_simp; (try with_reducible rfl))
    (try simp only [Act.put, List.getElem_toArray, List.getElem_cons_succ, List.getElem_cons_zero, List.setIfInBounds_toArray, List.set_cons_zero, List.set_cons_succ])
    refine wpAnyH_take (i := 13) (v := ?vb13) rfl (by kernel_rfl) (by kernel_rfl) (by kernel_rfl) (fun _ _ _ h => h) (Or.inl ⟨by kernel_rfl, ?yb13⟩) (by assumption) ?rb13
    case yb13 => (intro wq hSw; (try dsimp only at hSw); go_simp; (try with_reducible rfl))
    (try simp only [Act.put, List.getElem_toArray, List.getElem_cons_succ, List.getElem_cons_zero, List.setIfInBounds_toArray, List.set_cons_zero, List.set_cons_succ])
    refine wpAnyH_take (i := 14) (v := ?vb14) rfl (by kernel_rfl) (by kernel_rfl) (by kernel_rfl) (fun _ _ _ h => h) (Or.inl ⟨by kernel_rfl, ?yb14⟩) (by assumption) ?rb14
    case yb14 => (intro wq hSw; (try dsimp only at hSw); go_simp; (try with_reducible rfl))
    (try simp only [Act.put, List.getElem_toArray, List.getElem_cons_succ, List.getElem_cons_zero, List.setIfInBounds_toArray, List.set_cons_zero, List.set_cons_succ])
    refine wpAnyH_done (by kernel_rfl) ?_ _
    refine NoPanic.normal ?_
    clear hHeld HSS
    go_wp2_with fail
    go_ret
    exact ⟨by rw [HR.out]; rfl, HB0.out⟩
set_option maxHeartbeats 2000000 in
/-- The first of which a function tells yes. -/
theorem index_s (l : List It) (g : Nat) (cb : Array Value) (f : Int → Bool) (gL n m : Nat) (S zs : List Int) (c : Int) (w : World) (eg : ∀ args w, (callFunc g args).run Try.prog w = .ok (.enter g args) w)
    (hT : ∀ (c : Int), c ∈ S → ∀ W, Below w.heap.size w W → Calls Try.prog g (#[.int .i64 (pl l c)] ++ cb) W fun e w' => e = .returned (.bool (f c)) ∧ Below W.heap.size W w')
    (hQ : Blk w gL 3 (arrI zs)) (hz : ∀ (j : Nat) (x : Int), S[j]? = some x → zs[j]? = some (pl l x)) (hm : S[m]? = some c) (hf : f c = true) (hno : ∀ (j : Nat) (x : Int), j < m → S[j]? = some x → f x = false) (hs : S.length ≤ 128) :
    Calls Try.prog 29 #[.slice (some ⟨gL, 0, none⟩) S.length n, .func (.func g) #[] cb] w fun e w' => e = .returned (.int .i64 m) ∧ Below w.heap.size w w' := by
  have HT := Lib.hid hT
  have HQ := Lib.hid hQ
  have HZ := Lib.hid hz
  have HM := Lib.hid hm
  have HF := Lib.hid hf
  have HNO := Lib.hid hno
  obtain ⟨q, hq⟩ : ∃ q, q = S.length := ⟨_, rfl⟩
  rw [← hq] at hs ⊢
  have HNQ := Lib.hid hq
  have hmq : m < q := by rw [hq]; exact (List.getElem?_eq_some_iff.1 hm).1
  clear hT hQ hz hm hf hno hq
  go_enter Try.func29, Try.ntmps29
  go_wp2_with fail
  go_loopw [8] (fun z wr => ∃ k : Nat, k ≤ m ∧ z = .int .i64 k ∧ Below w.heap.size w wr) (fun z _ => m + 1 - (intOf z).toNat)
  case atStart => exact ⟨0, Nat.zero_le _, rfl, Below.refl _ _⟩
  case round =>
    obtain ⟨k, hk, rfl, hB⟩ := hrel
    have hi0 : (0 : Int) ≤ (k : Int) := by omega
    have hi1 : (k : Int) < (q : Int) := by omega
    obtain ⟨x, hx⟩ : ∃ x, S[k]? = some x := ⟨_, List.getElem?_eq_getElem (by rw [← HNQ.out]; omega)⟩
    have c0 := (HQ.out.next hB).at_ (arrI_at (HZ.out k x hx))
    have hC := HT.out x (List.mem_of_getElem? hx) wr hB
    by_cases hkm : k < m
    · rw [HNO.out k x hkm hx] at hC
      have HCC := Lib.hid hC
      have HB := Lib.hid hB
      clear hC hx hB
      go_wp2_with fail
      refine HCC.out.mono ?_
      rintro e w1 ⟨rfl, hb⟩
      have HB1 := Lib.hid (HB.out.trans (hb.mono HB.out.size))
      clear hb
      go_wp2_with fail
      go_roundw
      case rel => exact ⟨k + 1, by omega, by go_num, HB1.out⟩
      case measure => simp [intOf]; omega
    · obtain rfl : k = m := by omega
      rw [HM.out] at hx
      injection hx with hx
      subst hx
      rw [HF.out] at hC
      have HCC := Lib.hid hC
      have HB := Lib.hid hB
      clear hC hB
      go_wp2_with fail
      refine HCC.out.mono ?_
      rintro e w1 ⟨rfl, hb⟩
      have HB1 := Lib.hid (HB.out.trans (hb.mono HB.out.size))
      clear hb
      go_wp2_with fail
      go_ret
      exact ⟨rfl, HB1.out⟩
/-- The memory of Order's loop: what stays. -/
structure Sx (w : World) (n gO g5 gT g7 gL base : Nat) : Prop where
  wL : w.heap.size ≤ gL
  wT : w.heap.size ≤ gT
  wB : w.heap.size ≤ base
  lO : gO < base
  l5 : g5 < base
  lT : gT < base
  l7 : g7 < base
  lL : gL < base
  ne : gO ≠ gL
structure OS (w : World) (l : List It) (n gO g5 gT g7 gL base : Nat) (wr : World) (lf taken out : List Int) (v : Value) : Prop where
  below : Below w.heap.size w wr
  hB : base ≤ wr.heap.size
  hO : Blk wr gO 3 (arrI (ofL l (ow l)))
  h5 : Blk wr g5 27 #[.slice (some ⟨gO, 0, none⟩) n n]
  hT : Blk wr gT 4 (arrB l taken)
  h7 : Blk wr g7 47 #[.slice (some ⟨gT, 0, none⟩) n n]
  hL : Blk wr gL 3 (arrI lf)
  own : OwI wr base v out
section
variable {w wr w1 : World} {l : List It} {n gO g5 gT g7 gL base : Nat} {lf taken out : List Int} {v : Value}
theorem OS.next (h : OS w l n gO g5 gT g7 gL base wr lf taken out v) (hb : Below wr.heap.size wr w1) : OS w l n gO g5 gT g7 gL base w1 lf taken out v :=
  ⟨h.below.trans (hb.mono h.below.size), Nat.le_trans h.hB hb.size, h.hO.next hb, h.h5.next hb, h.hT.next hb, h.h7.next hb, h.hL.next hb, h.own.next hb⟩
theorem OS.del (h : OS w l n gO g5 gT g7 gL base wr lf taken out v) (s : Sx w n gO g5 gT g7 gL base) {lf' : List Int} (hg : wr.grownBy w1 (some gL)) (hL : Blk w1 gL 3 (arrI lf')) : OS w l n gO g5 gT g7 gL base w1 lf' taken out v :=
  ⟨below_only h.below hg h.below.size (fun k e => by cases e; exact s.wL), Nat.le_trans h.hB hg.size, h.hO.grown hg (fun e => s.ne (Option.some.inj e)), h.h5.grown hg (fun e => h.h5.ne_ h.hL (by decide) (Option.some.inj e)), h.hT.grown hg (fun e => h.hT.ne_ h.hL (by decide) (Option.some.inj e)), h.h7.grown hg (fun e => h.h7.ne_ h.hL (by decide) (Option.some.inj e)), hL, h.own.kept hg s.lL⟩
theorem OS.mark (h : OS w l n gO g5 gT g7 gL base wr lf taken out v) (s : Sx w n gO g5 gT g7 gL base) (hd : Dis l) {k : Nat} {x : It} (hx : l[k]? = some x) : OS w l n gO g5 gT g7 gL base (wr.setCell ⟨gT, k, none⟩ (.bool true)) lf (taken ++ [x.c]) out v :=
  ⟨Below.setCell (p := ⟨gT, k, none⟩) h.below s.wT _, by simpa [World.setCell] using h.hB, h.hO.far (p := ⟨gT, k, none⟩) (h.hO.ne_ h.hT (by decide)) _, h.h5.far (p := ⟨gT, k, none⟩) (h.h5.ne_ h.hT (by decide)) _, by rw [← arrB_set hd hx]; exact h.hT.set_ k _, h.h7.far (p := ⟨gT, k, none⟩) (h.h7.ne_ h.hT (by decide)) _, h.hL.far (p := ⟨gT, k, none⟩) (h.hL.ne_ h.hT (by decide)) _, h.own.kept (only_setCell (only_refl wr (some gT)) (.inl rfl) _) s.lT⟩
theorem OS.app (h : OS w l n gO g5 gT g7 gL base wr lf taken out v) (s : Sx w n gO g5 gT g7 gL base) {o : Obj} {v' : Value} {x : Int} (ho : w1.ownsRow base 3 1 v' (out.length + 1) (out.map (Value.int .i64) ++ [.int .i64 x])) (hg : (wr.alloc o).grownBy w1 v.ownBlock) : OS w l n gO g5 gT g7 gL base w1 lf taken (out ++ [x]) v' := by
  have hr : ∀ k, v.ownBlock = some k → base ≤ k := fun k hk => (World.ownsRow.lt h.own k hk).1
  have far : ∀ g, g < base → some g ≠ v.ownBlock := fun g hg e => by have := hr g e.symm; omega
  have hB2 : base ≤ (wr.alloc o).heap.size := by have := h.hB; simp; omega
  exact ⟨below_only (h.below.alloc h.below.size _) hg (Nat.le_trans s.wB hB2) (fun k hk => Nat.le_trans s.wB (hr k hk)), Nat.le_trans hB2 hg.size, (h.hO.alloc o).grown hg (far _ s.lO), (h.h5.alloc o).grown hg (far _ s.l5), (h.hT.alloc o).grown hg (far _ s.lT), (h.h7.alloc o).grown hg (far _ s.l7), (h.hL.alloc o).grown hg (far _ s.lL), OwI.put ho⟩
end
end Go.Proofs.Ytgioeijdgoogkaa.Od
