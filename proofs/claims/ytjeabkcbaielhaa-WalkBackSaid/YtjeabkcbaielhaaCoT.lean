/- Where a way ends, told by the code: cons.at, cons.cut. -/
import Derived.Test.YtjeabkcbaielhaaCoS
namespace Go.Proofs.Ytjeabkcbaielhaa.Co
open Go.RowKit
abbrev ptrL (p : Nat × Nat) : Value := .pointer (some ⟨p.1, p.2, none⟩)
theorem get_take {α : Type} {u : List Nat} {t s : Tr α} (h : get t u = some s) (k : Nat) : ∃ p, get t (u.take k) = some p ∧ get p (u.drop k) = some s := by
  rw [← List.take_append_drop k u] at h
  exact get_prefix h
theorem take_snoc {u : List Nat} {k i : Nat} (h : u[k]? = some i) : u.take (k + 1) = u.take k ++ [i] := by
  obtain ⟨hl, rfl⟩ := List.getElem?_eq_some_iff.1 h
  rw [List.take_succ_eq_append_getElem hl]
/-- One step further down. -/
theorem loc_step {b o : Nat} {t s : ATr} {u : List Nat} {k i : Nat} (hs : get t u = some s) (hi : u[k]? = some i) :
    ∃ p y, get t (u.take k) = some p ∧ p.ks[i]? = some y ∧ loc b o t (u.take (k + 1)) = (p.a.g, i * 5) := by
  obtain ⟨p, h1, h2⟩ := get_take hs k
  have hd : u.drop k = i :: u.drop (k + 1) := by
    obtain ⟨hl, rfl⟩ := List.getElem?_eq_some_iff.1 hi
    rw [List.drop_eq_getElem_cons hl]
  rw [hd] at h2
  obtain ⟨a, ks⟩ := p
  obtain ⟨y, hy, _⟩ := get_cons h2
  refine ⟨_, y, h1, hy, ?_⟩
  rw [take_snoc hi, loc_append _ h1, loc_cons hy]
  rfl
theorem slA_some {t y : ATr} {i : Nat} (h : t.ks[i]? = some y) : slA t = .slice (some ⟨t.a.g, 0, none⟩) t.ks.length t.a.cap := by
  unfold slA slV; rw [if_neg (by have := (List.getElem?_eq_some_iff.1 h).1; omega)]
set_option maxHeartbeats 1000000 in
theorem at_c (Y : Nat → Prop) (t s : ATr) (b o : Nat) (way : List Nat) (v : Value) (w : World) (hH : Held w b o t) (hv : WV w Y way v) (hs : get t way = some s) :
    Calls Try.prog 75 #[.pointer (some ⟨b, o, none⟩), v] w fun e w' => e = .returned (ptrL (loc b o t way)) ∧ w = w' := by
  obtain ⟨q, c, rfl, hm, hnc, -, -, hcell⟩ := hv
  obtain ⟨n, hn⟩ : ∃ n, n = way.length := ⟨_, rfl⟩
  rw [← hn] at hm hnc ⊢
  have HN := Lib.hid hn
  have HH := Lib.hid hH
  have HS := Lib.hid hs
  have HC := Lib.hid hcell
  obtain ⟨L, hL⟩ : ∃ L, L = loc b o t way := ⟨_, rfl⟩
  rw [← hL]
  have HL := Lib.hid hL
  clear hn hH hs hcell hL
  go_enter Try.func75, Try.ntmps75
  go_wp2_with fail
  go_loop [0, 9] (fun p z => ∃ k : Nat, k ≤ n ∧ z = .int .i64 k ∧ p = ptrL (loc b o t (way.take k))) (fun _ z => n - (intOf z).toNat)
  case atStart => exact ⟨0, Nat.zero_le _, rfl, rfl⟩
  case round =>
    obtain ⟨k, hk, rfl, rfl⟩ := hrel
    by_cases hlt : k < n
    · obtain ⟨i, hi⟩ : ∃ i, way[k]? = some i := ⟨_, List.getElem?_eq_getElem (by rw [← HN.out]; exact hlt)⟩
      obtain ⟨bb, rfl, hci⟩ := HC.out k i hi
      obtain ⟨p, y, h1, h2, h3⟩ := loc_step (b := b) (o := o) HS.out hi
      have hp := HH.out.get h1
      have hil := (List.getElem?_eq_some_iff.1 h2).1
      have c4 := hp.cells 4 _ rfl
      rw [slA_some h2] at c4
      obtain ⟨l, hl⟩ : ∃ l, l = loc b o t (way.take k) := ⟨_, rfl⟩
      rw [← hl] at c4 ⊢
      obtain ⟨lb, lo⟩ := l
      have H3 := Lib.hid h3
      obtain ⟨np, hnp⟩ : ∃ np, np = p.ks.length := ⟨_, rfl⟩
      rw [← hnp] at c4 hil
      have hI : ((i : Nat) : Int) < (np : Int) := by omega
      have hI0 : (0 : Int) ≤ (i : Int) := by omega
      clear hi h1 h2 h3 hp hl hnp
      go_wp2_with fail
      go_round
      case rel => exact ⟨k + 1, by omega, by go_num, by rw [H3.out]⟩
      case measure => simp [intOf]; omega
    · have hkn : k = n := by omega
      obtain ⟨l, hl⟩ : ∃ l, l = loc b o t (way.take k) := ⟨_, rfl⟩
      have HE : Hid (l = L) := by rw [hl, HL.out, hkn, HN.out, List.take_length]; exact rfl
      rw [← hl]
      clear hl hkn
      go_wp2_with fail
      go_ret
      exact ⟨by rw [HE.out]; rfl, rfl⟩
def Drew (w w' : World) : Prop := ∃ n, w' = w.drewN n
theorem WV.front {w : World} {Y : Nat → Prop} {way : List Nat} {q : Option Addr} {c : Nat} (h : WV w Y way (.slice q way.length c)) (k : Nat) (hk : k ≤ way.length) : WV w Y (way.take k) (.slice q k c) := by
  obtain ⟨p, c', e, h1, h2, h3, h4, h5⟩ := h
  obtain ⟨rfl, -, rfl⟩ := Value.slice.inj e
  have hl : (way.take k).length = k := by rw [List.length_take]; omega
  refine ⟨q, c, by rw [hl], by omega, by omega, h3, h4, fun j i hi => h5 j i ?_⟩
  have hj := (List.getElem?_eq_some_iff.1 hi).1
  rw [hl] at hj
  rw [List.getElem?_take_of_lt hj] at hi
  exact hi
set_option maxHeartbeats 1000000 in
theorem cut_c (Y : Nat → Prop) (t s : ATr) (b o : Nat) (way : List Nat) (i : Nat) (v : Value) (w : World) (hH : Held w b o t) (hv : WV w Y (way ++ [i]) v) (hs : get t way = some s) :
    Calls Try.prog 65 #[.pointer (some ⟨b, o, none⟩), v] w fun e w' => e = .returned (.tuple #[ptrL (loc b o t way), .int .i64 (i : Int)]) ∧ Drew w w' := by
  obtain ⟨q, c, rfl⟩ := hv.slice
  have hf := hv.front way.length (by simp)
  rw [List.take_left] at hf
  have HA := Lib.hid (fun W (hW : Held W b o t) (hf : WV W Y way (.slice q way.length c)) => at_c Y t s b o way _ W hW hf hs)
  obtain ⟨q', c', e, hm, hnc, -, -, hcell⟩ := hv
  obtain ⟨rfl, -, rfl⟩ := Value.slice.inj e
  obtain ⟨bb, rfl, hc0⟩ := hcell way.length i (by simp)
  have HF := Lib.hid hf
  have HH := Lib.hid hH
  have e1 : (way ++ [i]).length = way.length + 1 := by simp
  obtain ⟨n, hn⟩ : ∃ n, n = way.length := ⟨_, rfl⟩
  rw [e1, ← hn] at hm hnc ⊢
  rw [← hn] at hc0 HF HA
  clear hf hH hcell e e1 hn
  obtain ⟨L, hL⟩ : ∃ L, L = loc b o t way := ⟨_, rfl⟩
  rw [← hL] at HA ⊢
  clear hL
  have h1 : (0 : Int) ≤ (n : Int) := by omega
  have HQ := Lib.hid (HA.out w.drew ⟨HH.out.own.same fun _ _ => rfl, HH.out.lt, HH.out.free, HH.out.cells⟩ HF.out)
  have h2 : n ≤ c := by omega
  have h3 : (n : Int) < (n : Int) + 1 := by omega
  clear HA
  go_enter Try.func65, Try.ntmps65
  go_wp2_with fail
  refine wp_region_noPanic ?_
  refine wp_region_held_drew (S := fun wx => wx.cell? ⟨bb, n, none⟩ = some (.int .i64 (i : Int))) (by kernel_rfl) (by exact hc0) (fun hHeld => ?_)
  refine wpAnyH_take (i := 0) (v := ?v0) rfl (by kernel_rfl) (by kernel_rfl) (by kernel_rfl) (fun _ _ _ h => h) (Or.inl ⟨by kernel_rfl, ?y0⟩) (by assumption) ?r0
  case y0 => (intro wq hSw; (try dsimp only at hSw); go_simp; (try with_reducible rfl))
  (try simp only [Act.put, List.getElem_toArray, List.getElem_cons_zero, List.setIfInBounds_toArray, List.set_cons_zero, List.set_cons_succ])
  refine wpAnyH_take (i := 1) (v := ?v1) rfl (by kernel_rfl) (by kernel_rfl) (by kernel_rfl) (fun _ _ _ h => h) (Or.inl ⟨by kernel_rfl, ?y1⟩) (by assumption) ?r1
  case y1 => (intro wq hSw; (try dsimp only at hSw); go_simp; (try with_reducible rfl))
  (try simp only [Act.put, List.getElem_toArray, List.getElem_cons_succ, List.getElem_cons_zero, List.setIfInBounds_toArray, List.set_cons_zero, List.set_cons_succ])
  refine wpAnyH_take (i := 2) (v := ?v2) rfl (by kernel_rfl) (by kernel_rfl) (by kernel_rfl) (fun _ _ _ h => h) (Or.inl ⟨by kernel_rfl, ?y2⟩) (by assumption) ?r2
  case y2 => (intro wq hSw; (try dsimp only at hSw); go_simp; (try with_reducible rfl))
  (try simp only [Act.put, List.getElem_toArray, List.getElem_cons_succ, List.getElem_cons_zero, List.setIfInBounds_toArray, List.set_cons_zero, List.set_cons_succ])
  refine wpAnyH_take (i := 3) (v := ?v3) rfl (by kernel_rfl) (by kernel_rfl) (by kernel_rfl) (fun _ _ _ h => h) (Or.inl ⟨by kernel_rfl, ?y3⟩) (by assumption) ?r3
  case y3 => (intro wq hSw; (try dsimp only at hSw); go_simp; (try with_reducible rfl))
  (try simp only [Act.put, List.getElem_toArray, List.getElem_cons_succ, List.getElem_cons_zero, List.setIfInBounds_toArray, List.set_cons_zero, List.set_cons_succ])
  refine wpAnyH_take (i := 5) (v := ?v5) rfl (by kernel_rfl) (by kernel_rfl) (by kernel_rfl) (fun _ _ _ h => h) (Or.inl ⟨by kernel_rfl, ?y5⟩) (by assumption) ?r5
  case y5 => (intro wq hSw; (try dsimp only at hSw); go_simp; (try with_reducible rfl))
  (try simp only [Act.put, List.getElem_toArray, List.getElem_cons_succ, List.getElem_cons_zero, List.setIfInBounds_toArray, List.set_cons_zero, List.set_cons_succ])
  refine wpAnyH_take (i := 6) (v := ?v6) rfl (by kernel_rfl) (by kernel_rfl) (by kernel_rfl) (fun _ _ _ h => h) (Or.inl ⟨by kernel_rfl, ?y6⟩) (by assumption) ?r6
  case y6 => (intro wq hSw; (try dsimp only at hSw); go_simp; (try with_reducible rfl))
  (try simp only [Act.put, List.getElem_toArray, List.getElem_cons_succ, List.getElem_cons_zero, List.setIfInBounds_toArray, List.set_cons_zero, List.set_cons_succ])
  refine wpAnyH_take (i := 7) (v := ?v7) rfl (by kernel_rfl) (by kernel_rfl) (by kernel_rfl) (fun _ _ _ h => h) (Or.inl ⟨by kernel_rfl, ?y7⟩) (by assumption) ?r7
  case y7 => (intro wq hSw; (try dsimp only at hSw); go_simp; (try with_reducible rfl))
  (try simp only [Act.put, List.getElem_toArray, List.getElem_cons_succ, List.getElem_cons_zero, List.setIfInBounds_toArray, List.set_cons_zero, List.set_cons_succ])
  refine wpAnyH_take (i := 8) (v := ?v8) rfl (by kernel_rfl) (by kernel_rfl) (by kernel_rfl) (fun _ _ _ h => h) (Or.inl ⟨by kernel_rfl, ?y8⟩) (by assumption) ?r8
  case y8 => (intro wq hSw; (try dsimp only at hSw); go_simp; (try with_reducible rfl))
  (try simp only [Act.put, List.getElem_toArray, List.getElem_cons_succ, List.getElem_cons_zero, List.setIfInBounds_toArray, List.set_cons_zero, List.set_cons_succ])
  refine wpAnyH_ready (rs := [4]) (by kernel_rfl) (by simp) ?_
  refine AllReadyH.cons rfl (fun K hK => ?_) AllReadyH.nil
  go_simp
  refine (HQ.out).mono ?_
  rintro ex w4 ⟨rfl, rfl⟩
  (try dsimp only)
  refine hK.out _ _ (by exact hc0) (fun hHeld => ?_)
  clear hK K
  (try simp only [Act.put, List.getElem_toArray, List.getElem_cons_succ, List.getElem_cons_zero, List.setIfInBounds_toArray, List.set_cons_zero, List.set_cons_succ])
  refine wpAnyH_take (i := 9) (v := ?v9) rfl (by kernel_rfl) (by kernel_rfl) (by kernel_rfl) (fun _ _ _ h => h) (Or.inl ⟨by kernel_rfl, ?y9⟩) (by assumption) ?r9
  case y9 => (intro wq hSw; (try dsimp only at hSw); go_simp; (try with_reducible rfl))
  (try simp only [Act.put, List.getElem_toArray, List.getElem_cons_succ, List.getElem_cons_zero, List.setIfInBounds_toArray, List.set_cons_zero, List.set_cons_succ])
  refine wpAnyH_take (i := 10) (v := ?v10) rfl (by kernel_rfl) (by kernel_rfl) (by kernel_rfl) (fun _ _ _ h => h) (Or.inl ⟨by kernel_rfl, ?y10⟩) (by assumption) ?r10
  case y10 => (intro wq hSw; (try dsimp only at hSw); go_simp; (try with_reducible rfl))
  (try simp only [Act.put, List.getElem_toArray, List.getElem_cons_succ, List.getElem_cons_zero, List.setIfInBounds_toArray, List.set_cons_zero, List.set_cons_succ])
  refine wpAnyH_done (by kernel_rfl) ?_ _
  refine NoPanic.normal ?_
  go_wp2_with fail
  go_ret2
  exact ⟨rfl, 1, rfl⟩
end Go.Proofs.Ytjeabkcbaielhaa.Co
