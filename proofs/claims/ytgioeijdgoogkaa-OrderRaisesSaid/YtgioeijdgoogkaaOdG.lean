/- Rows of numbers held against one another; order.Owners, bands, Bands. -/
import Derived.Test.YtgioeijdgoogkaaOdF
import Derived.Lib.MinMax
namespace Go.Proofs.Ytgioeijdgoogkaa.Od
open Go.RowKit Go.Maps
/-- A slice value that reads as these numbers. -/
def RdI (w : World) (v : Value) (xs : List Int) : Prop :=
  ∃ p c, v = .slice p xs.length c ∧ ∀ (j : Nat) (x : Int), xs[j]? = some x → ∃ b o, p = some ⟨b, o, none⟩ ∧ b < w.heap.size ∧ w.cell? ⟨b, o + j, none⟩ = some (.int .i64 x)
theorem RdI.below {w w' : World} {v : Value} {xs : List Int} (h : RdI w v xs) (hb : Below w.heap.size w w') : RdI w' v xs := by
  obtain ⟨p, c, h1, h2⟩ := h
  refine ⟨p, c, h1, fun j x hx => ?_⟩
  obtain ⟨b, o, h3, h4, h5⟩ := h2 j x hx
  exact ⟨b, o, h3, Nat.lt_of_lt_of_le h4 hb.size, (hb.cell (p := ⟨b, o + j, none⟩) h4).trans h5⟩
theorem RdI.nil (w : World) (c : Nat) : RdI w (.slice none 0 c) [] := ⟨none, c, rfl, fun j x hx => by simp at hx⟩
theorem RdI.blk {w : World} {g n c : Nat} {zs : List Int} (h : Blk w g 3 (arrI zs)) (hn : zs.length = n) : RdI w (.slice (some ⟨g, 0, none⟩) n c) zs :=
  ⟨_, c, by rw [hn], fun j x hx => ⟨g, 0, rfl, h.lt, by rw [Nat.zero_add]; exact h.at_ (arrI_at hx)⟩⟩
theorem RdI.open {w : World} {p : Option Addr} {n c : Nat} {l : List Int} (h : RdI w (.slice p n c) l) {j : Nat} {x : Int} (hx : l[j]? = some x) : ∃ b o, p = some ⟨b, o, none⟩ ∧ b < w.heap.size ∧ ∀ (j : Nat) (x : Int), l[j]? = some x → w.cell? ⟨b, o + j, none⟩ = some (.int .i64 x) := by
  obtain ⟨p', c', h1, h2⟩ := h
  injection h1 with e1 e2 e3
  subst e1
  obtain ⟨b, o, h3, h4, -⟩ := h2 j x hx
  refine ⟨b, o, h3, h4, fun j x hx => ?_⟩
  obtain ⟨b', o', h5, _, h6⟩ := h2 j x hx
  rw [h3] at h5
  injection h5 with h5
  injection h5 with e1 e2
  subst e1 e2
  exact h6
theorem take_eq {xs ys : List Int} {k : Nat} {x : Int} (h : xs.take k = ys.take k) (hx : xs[k]? = some x) (hy : ys[k]? = some x) : xs.take (k + 1) = ys.take (k + 1) := by
  rw [List.take_add_one, List.take_add_one, h, hx, hy]
set_option maxHeartbeats 2000000 in
set_option maxRecDepth 100000 in
theorem ints_c (v1 v2 : Value) (xs ys : List Int) (w : World) (h1 : RdI w v1 xs) (h2 : RdI w v2 ys) (hn : xs.length ≤ 9223372036854775807) :
    Calls Try.prog 11 #[v1, v2] w fun e w' => e = .returned (.bool (decide (xs = ys))) ∧ Below w.heap.size w w' := by
  have hx0 := h1
  have hy0 := h2
  obtain ⟨p, c, rfl, -⟩ := h1
  obtain ⟨q, d, rfl, -⟩ := h2
  obtain ⟨n, hln⟩ : ∃ n, n = xs.length := ⟨_, rfl⟩
  obtain ⟨m, hlm⟩ : ∃ n, n = ys.length := ⟨_, rfl⟩
  rw [← hln] at hx0 hn ⊢
  rw [← hlm] at hy0 ⊢
  have HX := Lib.hid hx0
  have HY := Lib.hid hy0
  have HN := Lib.hid hln
  have HM := Lib.hid hlm
  obtain ⟨B, hB⟩ : ∃ B, B = decide (xs = ys) := ⟨_, rfl⟩
  rw [← hB]
  have HB := Lib.hid hB
  clear hx0 hy0 hln hlm hB
  by_cases hnm : n = m
  · subst hnm
    have e1 : ((n : Int) == (n : Int)) = true := by simp
    go_enter Try.func11, Try.ntmps11
    go_wp2_with fail
    go_loopw [5] (fun z wr => ∃ k : Nat, k ≤ n ∧ z = .int .i64 k ∧ Below w.heap.size w wr ∧ Asd (xs.take k = ys.take k)) (fun z _ => n - (intOf z).toNat)
    case atStart => exact ⟨0, Nat.zero_le _, rfl, Below.refl _ _, rfl⟩
    case round =>
      obtain ⟨k, hk, rfl, hW, hA⟩ := hrel
      have HA := Lib.hid (show xs.take k = ys.take k from hA)
      clear hA
      by_cases hlt : k < n
      · obtain ⟨x, hx⟩ : ∃ x, xs[k]? = some x := ⟨_, List.getElem?_eq_getElem (by rw [← HN.out]; exact hlt)⟩
        obtain ⟨y, hy⟩ : ∃ x, ys[k]? = some x := ⟨_, List.getElem?_eq_getElem (by rw [← HM.out]; exact hlt)⟩
        obtain ⟨b, o, rfl, hb1, hb2⟩ := HX.out.open hx
        obtain ⟨b2, o2, rfl, hb3, hb4⟩ := HY.out.open hy
        have hi0 : (0 : Int) ≤ (k : Int) := by omega
        have hi1 : (k : Int) < (n : Int) := by omega
        have HSS : Hid (∀ W, Below wr.heap.size wr W → W.cell? ⟨b, o + k, none⟩ = some (.int .i64 x) ∧ W.cell? ⟨b2, o2 + k, none⟩ = some (.int .i64 y)) := fun W h =>
          ⟨((hW.trans (h.mono hW.size)).cell (p := ⟨b, o + k, none⟩) hb1).trans (hb2 k x hx), ((hW.trans (h.mono hW.size)).cell (p := ⟨b2, o2 + k, none⟩) hb3).trans (hb4 k y hy)⟩
        have HXX := Lib.hid hx
        have HYY := Lib.hid hy
        have HW := Lib.hid hW
        have HB0 := Lib.hid (Below.refl wr.heap.size wr).drew
        clear hb1 hb2 hb3 hb4 hx hy hW
        go_upto_region 6 with fail
        refine wp_region_noPanic ?_
        refine wp_region_held_drew (S := fun wx => wx.cell? ⟨b, o + k, none⟩ = some (.int .i64 x) ∧ wx.cell? ⟨b2, o2 + k, none⟩ = some (.int .i64 y)) (by kernel_rfl) (by exact HSS.out _ HB0.out) (fun hHeld => ?_)
        refine wpAnyH_take (i := 0) (v := ?v0) rfl (by kernel_rfl) (by kernel_rfl) (by kernel_rfl) (fun _ _ _ h => h) (Or.inl ⟨by kernel_rfl, ?y0⟩) (by assumption) ?r0
        case y0 => (intro wq hSw; (try dsimp only at hSw); go_simp; (try with_reducible rfl))
        (try simp only [Act.put, List.getElem_toArray, List.getElem_cons_zero, List.setIfInBounds_toArray, List.set_cons_zero, List.set_cons_succ])
        refine wpAnyH_take (i := 1) (v := ?v1) rfl (by kernel_rfl) (by kernel_rfl) (by kernel_rfl) (fun _ _ _ h => h) (Or.inl ⟨by kernel_rfl, ?y1⟩) (by assumption) ?r1
        case y1 => (intro wq hSw; (try dsimp only at hSw); go_simp; (try with_reducible rfl))
        (try simp only [Act.put, List.getElem_toArray, List.getElem_cons_succ, List.getElem_cons_zero, List.setIfInBounds_toArray, List.set_cons_zero, List.set_cons_succ])
        refine wpAnyH_take (i := 2) (v := ?v2) rfl (by kernel_rfl) (by kernel_rfl) (by kernel_rfl) (fun _ _ _ h => h) (Or.inl ⟨by kernel_rfl, ?y2⟩) (by assumption) ?r2
        case y2 => (intro wq hSw; (try dsimp only at hSw); go_simp; (try with_reducible rfl))
        (try simp only [Act.put, List.getElem_toArray, List.getElem_cons_succ, List.getElem_cons_zero, List.setIfInBounds_toArray, List.set_cons_zero, List.set_cons_succ])
        refine wpAnyH_take (i := 3) (v := ?v3) rfl (by kernel_rfl) (by kernel_rfl) (by kernel_rfl) (fun _ _ _ h => h) (Or.inl ⟨by kernel_rfl, ?y3⟩) (by assumption) ?r3
        case y3 => (intro wq hSw; (try dsimp only at hSw); go_simp; (try with_reducible rfl))
        (try simp only [Act.put, List.getElem_toArray, List.getElem_cons_succ, List.getElem_cons_zero, List.setIfInBounds_toArray, List.set_cons_zero, List.set_cons_succ])
        refine wpAnyH_take (i := 4) (v := ?v4) rfl (by kernel_rfl) (by kernel_rfl) (by kernel_rfl) (fun _ _ _ h => h) (Or.inl ⟨by kernel_rfl, ?y4⟩) (by assumption) ?r4
        case y4 => (intro wq hSw; (try dsimp only at hSw); go_simp; (try with_reducible rfl))
        (try simp only [Act.put, List.getElem_toArray, List.getElem_cons_succ, List.getElem_cons_zero, List.setIfInBounds_toArray, List.set_cons_zero, List.set_cons_succ])
        refine wpAnyH_take (i := 5) (v := ?v5) rfl (by kernel_rfl) (by kernel_rfl) (by kernel_rfl) (fun _ _ _ h => h) (Or.inl ⟨by kernel_rfl, ?y5⟩) (by assumption) ?r5
        case y5 => (intro wq hSw; (try dsimp only at hSw); go_simp; (try with_reducible rfl))
        (try simp only [Act.put, List.getElem_toArray, List.getElem_cons_succ, List.getElem_cons_zero, List.setIfInBounds_toArray, List.set_cons_zero, List.set_cons_succ])
        refine wpAnyH_take (i := 6) (v := ?v6) rfl (by kernel_rfl) (by kernel_rfl) (by kernel_rfl) (fun _ _ _ h => h) (Or.inl ⟨by kernel_rfl, ?y6⟩) (by assumption) ?r6
        case y6 => (intro wq hSw; (try dsimp only at hSw); go_simp; (try with_reducible rfl))
        (try simp only [Act.put, List.getElem_toArray, List.getElem_cons_succ, List.getElem_cons_zero, List.setIfInBounds_toArray, List.set_cons_zero, List.set_cons_succ])
        refine wpAnyH_take (i := 7) (v := ?v7) rfl (by kernel_rfl) (by kernel_rfl) (by kernel_rfl) (fun _ _ _ h => h) (Or.inl ⟨by kernel_rfl, ?y7⟩) (by assumption) ?r7
        case y7 => (intro wq hSw; (try dsimp only at hSw); go_simp; (try with_reducible rfl))
        (try simp only [Act.put, List.getElem_toArray, List.getElem_cons_succ, List.getElem_cons_zero, List.setIfInBounds_toArray, List.set_cons_zero, List.set_cons_succ])
        refine wpAnyH_take (i := 8) (v := ?v8) rfl (by kernel_rfl) (by kernel_rfl) (by kernel_rfl) (fun _ _ _ h => h) (Or.inl ⟨by kernel_rfl, ?y8⟩) (by assumption) ?r8
        case y8 => (intro wq hSw; (try dsimp only at hSw); go_simp; (try with_reducible rfl))
        (try simp only [Act.put, List.getElem_toArray, List.getElem_cons_succ, List.getElem_cons_zero, List.setIfInBounds_toArray, List.set_cons_zero, List.set_cons_succ])
        refine wpAnyH_done (by kernel_rfl) ?_ _
        refine NoPanic.normal ?_
        have HW1 := Lib.hid (HW.out.drew)
        by_cases hxy : x = y
        · subst hxy
          have e2 : (x == x) = true := by simp
          have HT := Lib.hid (take_eq HA.out HXX.out HYY.out)
          clear hHeld HSS
          go_wp2_with fail
          go_roundw
          case rel => exact ⟨k + 1, by omega, by go_num, HW1.out, HT.out⟩
          case measure => simp [intOf]; omega
        · have e2 : (x == y) = false := by simpa using hxy
          have HZ : Hid (B = false) := by
            refine HB.out.trans (decide_eq_false fun h => ?_)
            have h3 := HXX.out
            rw [h, HYY.out] at h3
            exact hxy (Option.some.inj h3).symm
          clear hHeld HSS
          go_wp2_with fail
          go_ret
          exact ⟨by rw [HZ.out]; rfl, HW1.out⟩
      · have HZ : Hid (B = true) := by
          refine HB.out.trans (decide_eq_true ?_)
          have h3 := HA.out
          rw [List.take_of_length_le (by have := HN.out; omega), List.take_of_length_le (by have := HM.out; omega)] at h3
          exact h3
        go_wp2_with fail
        go_ret
        exact ⟨by rw [HZ.out]; rfl, hW⟩
  · have e0 : ¬ ((n : Int) = (m : Int)) := by omega
    have e1 : ((n : Int) == (m : Int)) = false := beq_eq_false_iff_ne.2 e0
    have HZ : Hid (B = false) := HB.out.trans (decide_eq_false fun h => hnm (by rw [HN.out, HM.out, h]))
    clear hnm
    go_enter Try.func11, Try.ntmps11
    go_wp2_with fail
    go_ret
    exact ⟨by rw [HZ.out]; rfl, Below.refl _ _⟩
/-- A row that is worked out up to a place; 0 from there on. -/
def Half (l : List It) (F : It → Int) (k : Nat) (zs : List Int) : Prop := zs.length = l.length ∧ (∀ (j : Nat) (x : It), j < k → l[j]? = some x → zs[j]? = some (F x)) ∧ ∀ j, k ≤ j → j < l.length → zs[j]? = some 0
theorem Half.start (l : List It) (F : It → Int) : Half l F 0 (List.replicate l.length 0) := ⟨by simp, fun j _ hj => absurd hj (Nat.not_lt_zero j), fun j _ hj => by simp [hj]⟩
theorem Half.put {l : List It} {F : It → Int} {k : Nat} {zs : List Int} {x : It} (h : Half l F k zs) (hx : l[k]? = some x) {z : Int} (hz : z = F x) : Half l F (k + 1) (zs.set k z) := by
  obtain ⟨h1, h2, h3⟩ := h
  have hk := (List.getElem?_eq_some_iff.1 hx).1
  refine ⟨by rw [List.length_set]; exact h1, fun j y hj hy => ?_, fun j hj hl => by rw [List.getElem?_set_ne (by omega)]; exact h3 j (by omega) hl⟩
  rcases Nat.lt_or_ge j k with h | h
  · rw [List.getElem?_set_ne (by omega)]; exact h2 j y h hy
  · obtain rfl : j = k := by omega
    rw [hx] at hy; injection hy with hy; subst hy
    rw [List.getElem?_set_self (by omega), hz]
theorem Half.same {l : List It} {F : It → Int} {k : Nat} {zs : List Int} (h : Half l F k zs) (hk : k < l.length) : zs.set k 0 = zs := by
  have h1 := h.2.2 k (Nat.le_refl _) hk
  obtain ⟨h2, h3⟩ := List.getElem?_eq_some_iff.1 h1
  rw [← h3, List.set_getElem_self]
theorem Half.done {l : List It} {F : It → Int} {zs : List Int} (h : Half l F l.length zs) : zs = l.map F := by
  apply List.ext_getElem?
  intro j
  cases hj : l[j]? with
  | none =>
    have hlj : l.length ≤ j := by simpa using hj
    rw [List.getElem?_eq_none (by rw [h.1]; exact hlj), List.getElem?_eq_none (by simpa using hlj)]
  | some y => rw [h.2.1 j y (List.getElem?_eq_some_iff.1 hj).1 hj, List.getElem?_map, hj]; rfl
def owI (l : List It) (x : It) : Int := (ow l x.c).getD 0
/-- What Owners, Bands tell. -/
def OwnR (l : List It) (zs : List Int) : Prop := ∃ z, ChkR l z ∧ ((z ≠ 0 ∧ zs = []) ∨ (z = 0 ∧ zs = l.map (owI l)))
def BdsR (l : List It) (zs : List Int) : Prop := ∃ z, ChkR l z ∧ ((z ≠ 0 ∧ zs = []) ∨ (z = 0 ∧ zs = l.map fun x => bd l x.c))
theorem OwnR.one {l : List It} {xs ys : List Int} (h : OwnR l xs) (k : OwnR l ys) : xs = ys := by
  obtain ⟨z, h1, h2⟩ := h
  obtain ⟨y, k1, k2⟩ := k
  obtain rfl := h1.one k1
  rcases h2 with ⟨h2, rfl⟩ | ⟨h2, rfl⟩ <;> rcases k2 with ⟨k2, rfl⟩ | ⟨k2, rfl⟩ <;> first | rfl | exact absurd h2 k2 | exact absurd k2 h2
theorem BdsR.one {l : List It} {xs ys : List Int} (h : BdsR l xs) (k : BdsR l ys) : xs = ys := by
  obtain ⟨z, h1, h2⟩ := h
  obtain ⟨y, k1, k2⟩ := k
  obtain rfl := h1.one k1
  rcases h2 with ⟨h2, rfl⟩ | ⟨h2, rfl⟩ <;> rcases k2 with ⟨k2, rfl⟩ | ⟨k2, rfl⟩ <;> first | rfl | exact absurd h2 k2 | exact absurd k2 h2
end Go.Proofs.Ytgioeijdgoogkaa.Od
