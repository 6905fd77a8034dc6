/- The reference's rows, walked; two rows compared. -/
import Derived.Test.YtfabknabkcfpjaaRjD
namespace Go.Proofs.Ytfabknabkcfpjaa
open Go.RowKit Go.Shelf
theorem rdI {w : World} {p : Option Addr} {n c j : Nat} {xs : List Int} {x : Int} (h : RdK encI 1 w (.slice p n c) xs) (hx : xs[j]? = some x) : ∃ b o, p = some ⟨b, o, none⟩ ∧ b < w.heap.size ∧ w.cell? ⟨b, o + j, none⟩ = some (.int .i64 x) := by
  obtain ⟨p', c', hv, h2⟩ := h
  simp only [Value.slice.injEq] at hv
  obtain ⟨rfl, -, -⟩ := hv
  obtain ⟨b, o, h3, h4, h5⟩ := h2 j x hx
  exact ⟨b, o, h3, h4, by have := h5 0 (.int .i64 x) rfl; rwa [show o + j * 1 + 0 = o + j by omega] at this⟩
/-- What a row keeps. -/
def Rst (w0 : World) (v : Value) (zs : List Int) (wx : World) : Prop := OwK encI 3 1 wx w0.heap.size v zs ∧ Below w0.heap.size w0 wx
section
variable {w0 wx w1 : World} {v v1 : Value} {zs : List Int} {x : Int}
theorem Rst.next (h : Rst w0 v zs wx) (hb : Below wx.heap.size wx w1) : Rst w0 v zs w1 := ⟨h.1.below hb, below_then h.2 hb⟩
theorem Rst.drewN (h : Rst w0 v zs wx) (n : Nat) : Rst w0 v zs (wx.drewN n) := ⟨h.1, below_drewN h.2 n⟩
theorem Rst.row (h : Rst w0 v zs wx) : wx.ownsRow w0.heap.size 3 1 v zs.length (zs.map (Value.int .i64)) := by
  have := h.1; unfold OwK at this; rwa [flatI] at this
theorem Rst.put {o : Obj} (h : Rst w0 v zs wx) (hg : (wx.alloc o).grownBy w1 v.ownBlock) (ho : w1.ownsRow w0.heap.size 3 1 v1 (zs.length + 1) (zs.map (Value.int .i64) ++ [.int .i64 x])) : Rst w0 v1 (zs ++ [x]) w1 := by
  refine ⟨?_, below_only (h.2.alloc h.2.size _) hg (by have := h.2.size; simp; omega) (fun k hk => (OwK.lt h.1 hk).1)⟩
  unfold OwK
  rw [flatI, List.length_append, List.map_append]
  exact ho
theorem Rst.set_ {g n cap j : Nat} (h : Rst w0 (.slice (some ⟨g, 0, none⟩) n cap) zs wx) (hn : n = zs.length) (x : Int) : Rst w0 (.slice (some ⟨g, 0, none⟩) n cap) (zs.set j x) (wx.setCell ⟨g, j, none⟩ (.int .i64 x)) := by
  subst hn
  obtain ⟨h1, g1⟩ := World.ownsRow.stored h.row j (.int .i64 x)
  refine ⟨?_, below_only h.2 g1 h.2.size (fun k hk => (OwK.lt h.1 hk).1)⟩
  unfold OwK
  rw [flatI, List.length_set, List.map_set]
  exact h1
/-- Its cells. -/
theorem Rst.form (h : Rst w0 v zs wx) (hne : zs ≠ []) : ∃ g cap, v = .slice (some ⟨g, 0, none⟩) zs.length cap ∧ (∀ (j : Nat) (x : Int), zs[j]? = some x → wx.cell? ⟨g, j, none⟩ = some (.int .i64 x)) ∧ ∀ j, wx.frozen? ⟨g, j, none⟩ = false := by
  obtain ⟨g, cap, h1, _, _, h2, h3⟩ := OwK.form encI_len h.1 hne
  refine ⟨g, cap, h1, fun j x hx => ?_, h3⟩
  have := h2 j x 0 (.int .i64 x) hx rfl
  rwa [show j * 1 + 0 = j by omega] at this
end
theorem flat_end (init : List (Int × Int)) (a z : Int) : (flatP (init ++ [(a, z)]))[2 * init.length + 1]? = some z ∧ (flatP (init ++ [(a, z)])).length = 2 * init.length + 2 := by
  refine ⟨(flatP_get _ init.length (a, z) (by simp)).2, ?_⟩
  rw [flatP_len]; simp; omega
theorem flat_swap (init : List (Int × Int)) (a z h : Int) : (flatP (init ++ [(a, z)])).set (2 * init.length + 1) h = flatP (init ++ [(a, h)]) := by
  rw [flatP_append, flatP_append]
  have e : ∀ u : Int, flatP [(a, u)] = [a, u] := fun _ => rfl
  rw [e, e, List.set_append_right _ _ (by rw [flatP_len]; omega), flatP_len]
  rw [show 2 * init.length + 1 - 2 * init.length = 1 by omega]; rfl
set_option maxRecDepth 100000 in
set_option maxHeartbeats 8000000 in
theorem runs_c (how : Int) (rl : Bool → Bool → Bool) (hh : Asks how rl) (va vb vx : Value) (la lb : List Rc) (xs : List Int) (y : Int) (w : World) (ha : RdK encR 4 w va la) (hb : RdK encR 4 w vb lb) (hla : la.length ≤ 1073741824) (hlb : lb.length ≤ 1073741824)
    (hx : RdK encI 1 w vx xs) (hs : xs.Pairwise (· < ·)) (hxl : xs.length ≤ 100000) (hxm : ∀ x ∈ xs, -32768 ≤ x) :
    Calls Try.prog 26 #[.int .i64 how, va, vb, vx, .int .i64 y] w fun e w' => ∃ v', e = .returned v' ∧ OwK encI 3 1 w' w.heap.size v' (flatP (rowC (fun x => rl (inS la x y) (inS lb x y)) xs)) ∧ Below w.heap.size w w' := by
  have HIN := Lib.hid (fun (W : World) (h : Below w.heap.size w W) (x : Int) => in_c how rl hh va vb la lb x y W (ha.below h) (hb.below h) hla hlb)
  obtain ⟨inq, hq⟩ : ∃ inq : Int → Bool, inq = fun x => rl (inS la x y) (inS lb x y) := ⟨_, rfl⟩
  have HIN2 := Lib.hid (show ∀ (W : World) (h : Below w.heap.size w W) (x : Int), Calls Try.prog 45 #[.int .i64 how, va, vb, .int .i64 x, .int .i64 y] W fun e w' => e = .returned (.bool (inq x)) ∧ Below W.heap.size W w' by rw [hq]; exact HIN.out)
  rw [← hq]
  clear HIN hq hh ha hb hla hlb
  obtain ⟨p, c, rfl, -⟩ := id hx
  obtain ⟨i0, hi, hz0, hz1, hz2⟩ := info_parts intInfo
  have HX := Lib.hid hx
  have HUP := Lib.hid hs
  have HIX := Lib.hid (fun j a h => cells_in (inq := inq) hs hxm j a h)
  obtain ⟨n, hn⟩ : ∃ n, n = xs.length := ⟨_, rfl⟩
  rw [← hn] at hxl HX ⊢
  have HN := Lib.hid hn
  have P0 : Rst w (.slice none 0 0) [] w := ⟨OwK.nil _ _, Below.refl _ _⟩
  clear hx hs hxm hn
  go_enter Try.func26, Try.ntmps26
  go_wp2_with fail
  go_loopw [11, 12] (fun v z wr => ∃ j : Nat, (j < n ∨ (j = 0 ∧ n = 0)) ∧ z = .int .i64 j ∧ Rst w v (flatP (cellsN inq xs j)) wr) (fun _ z _ => n - (intOf z).toNat)
  case atStart => exact ⟨0, by omega, rfl, P0⟩
  case round =>
    obtain ⟨j, hj, rfl, P1⟩ := hrel
    clear P0
    have hi0 : (0 : Int) ≤ (j : Int) := by omega
    have hwj : IntKind.i64.wrap ((j : Int) + 1) = (j : Int) + 1 := IntWalk.i64_in _ (by omega)
    by_cases hlt : j + 1 < n
    · obtain ⟨x, hx⟩ : ∃ x, xs[j]? = some x := ⟨_, List.getElem?_eq_getElem (by rw [← HN.out]; omega)⟩
      obtain ⟨x', hx'⟩ : ∃ x', xs[j + 1]? = some x' := ⟨_, List.getElem?_eq_getElem (by rw [← HN.out]; omega)⟩
      obtain ⟨b, o, rfl, hbl, k0⟩ := rdI HX.out hx
      obtain ⟨_, _, ⟨⟩, _, k1⟩ := rdI HX.out hx'
      have HC := Lib.hid (fun (W : World) (h : Below w.heap.size w W) => (show W.cell? ⟨b, o + j, none⟩ = some (.int .i64 x) ∧ W.cell? ⟨b, o + (j + 1), none⟩ = some (.int .i64 x') from ⟨(h.cell (p := ⟨b, o + j, none⟩) hbl).trans k0, (h.cell (p := ⟨b, o + (j + 1), none⟩) hbl).trans k1⟩))
      have HNX := Lib.hid (cells_next (inq := inq) hx hx')
      have HB := Lib.hid (HIX.out j x hx)
      have hxx := up_lt HUP.out hx hx'
      have HXX := Lib.hid hxx
      have HLL := Lib.hid (cells_len (inq := inq) (xs := xs) j)
      clear k0 k1 hbl hx hx' hxx
      have hi1 : (j : Int) < (n : Int) := by omega
      have hi2 : (j : Int) + 1 < (n : Int) := by omega
      have hi3 : (0 : Int) ≤ (j : Int) + 1 := by omega
      have hi4 : ((j : Int) + 1).toNat = j + 1 := by omega
      generalize hrs : cellsN inq xs j = rs at P1 HNX HB HLL
      clear hrs
      obtain ⟨c0, c1⟩ := HC.out _ P1.2
      cases hq : inq x
      · have HE := Lib.hid (show cellsN inq xs (j + 1) = rs by rw [HNX.out]; unfold Rg.cellStep; rw [if_neg (by rw [hq]; decide)])
        have HQ := Lib.hid (fun W h => HIN2.out W h x)
        rw [hq] at HQ
        clear hq
        go_wp2_with (go_at_call 45; have B1 := P1.2; (with_reducible refine (HQ.out _ B1).mono ?_); clear B1; rintro e1 w1 ⟨rfl, hb⟩; have P2 := P1.next hb; clear hb P1)
        go_roundw
        case rel => exact ⟨j + 1, by omega, by go_num, by rw [HE.out]; exact P2⟩
        case measure => simp [intOf]; omega
      · have HE := Lib.hid (show cellsN inq xs (j + 1) = Rg.ext rs x x' by rw [HNX.out]; unfold Rg.cellStep; rw [if_pos hq])
        have HQ := Lib.hid (fun W h => HIN2.out W h x)
        rw [hq] at HQ
        clear hq HNX
        go_upto_region 6 with (go_at_call 45; have B1 := P1.2; (with_reducible refine (HQ.out _ B1).mono ?_); clear B1; rintro e1 w1 ⟨rfl, hb⟩; have P2 := P1.next hb; clear hb P1)
        clear c0 c1
        obtain ⟨c0, c1⟩ := HC.out _ P2.2
        rcases ext_two (fun r hr => ⟨(HB.out r hr).2.2.1, (HB.out r hr).2.2.2⟩) HXX.out with ⟨init, a, rfl, he⟩ | ⟨hno, he⟩
        · have HE2 := Lib.hid (HE.out.trans he)
          obtain ⟨m, hm⟩ : ∃ m, m = 2 * init.length + 1 := ⟨_, rfl⟩
          obtain ⟨f1, f2⟩ := flat_end init a x
          have HSW := Lib.hid (flat_swap init a x x')
          rw [← hm] at f1 HSW
          rw [show 2 * init.length + 2 = m + 1 by omega] at f2
          have hml : m ≤ 1000000 := by have := HLL.out; rw [List.length_append] at this; omega
          clear hm
          generalize flatP (init ++ [(a, x)]) = zs at P2 f1 f2 HSW
          obtain ⟨g, cap, rfl, hcell, hfz⟩ := P2.form (fun e => by rw [e] at f2; simp at f2)
          rw [f2] at P2 ⊢
          have d0 := hcell m x f1
          have z0 := hfz m
          have hwm : IntKind.i64.wrap (((m + 1 : Nat) : Int) - 1) = (m : Int) := by rw [IntWalk.i64_in _ (by omega)]; omega
          have hwm2 : IntKind.i64.wrap ((m : Int) + 1 - 1) = (m : Int) := by rw [IntWalk.i64_in _ (by omega)]; omega
          have HP3 := Lib.hid (fun q => (P2.drewN q).set_ (j := m) f2.symm x')
          rw [HSW.out] at HP3
          clear he hcell hfz f1 f2 HE P2
          go_quiet (fail)
          go_wp2_with fail
          go_roundw
          case rel => exact ⟨j + 1, by omega, by go_num, by rw [HE2.out]; exact HP3.out _⟩
          case measure => simp [intOf]; omega
        · have HE2 := Lib.hid (show flatP (cellsN inq xs (j + 1)) = flatP rs ++ [x] ++ [x'] by rw [HE.out, he, flatP_append, List.append_assoc]; rfl)
          clear he HE
          have HZ := Lib.hid (show (flatP rs).length ≤ 1048576 by rw [flatP_len]; have := HLL.out; omega)
          rcases List.eq_nil_or_concat rs with rfl | ⟨init, p, rfl⟩
          · obtain ⟨zs, hzs⟩ : ∃ zs, flatP [] = zs := ⟨_, rfl⟩
            obtain ⟨pv, cv, rfl⟩ := P2.1.slice
            have hz0 : (flatP []).length = 0 := rfl
            rw [hz0] at P2 ⊢
            rw [hzs] at P2 HE2 HZ
            have P2q := fun q => P2.drewN q
            clear P2 hzs hz0
            go_quiet (fail)
            have P2 := P2q nq
            clear P2q
            have HZ2 := Lib.hid (show (zs ++ [x]).length ≤ 1048577 by rw [List.length_append]; have := HZ.out; simp; omega)
            go_wp2_with (first
              | (at_builtin; refine wpList_append_own_at _ rfl (.tmp 56) (.tmp 61) 49 rfl w.heap.size 3 i0 (.int .i64 0) 1 8 Try.underlying49 hi hz0 hz1 hz2 rfl (by decide) _ _ _ rfl (World.ownsRow.alloc P2.row _) ⟨_, 0, none⟩ 1 1 [.int .i64 x] rfl rfl (cell_list_at _ _ [.int .i64 x] _ (by simp)) (oneCell_ints [x]) (by unfold maxLen; have := HZ.out; omega) (by have := HZ.out; omega) (Nat.le_trans P2.2.size (by simp)) ?_; intro v2 w2 ho hg _ _; have P3 := P2.put (x := x) hg ho; clear ho hg P2; clear c0 c1; obtain ⟨c0, c1⟩ := HC.out _ P3.2)
              | (at_builtin; refine wpList_append_own_at _ rfl (.tmp 63) (.tmp 69) 49 rfl w.heap.size 3 i0 (.int .i64 0) 1 8 Try.underlying49 hi hz0 hz1 hz2 rfl (by decide) _ _ _ rfl (World.ownsRow.alloc P3.row _) ⟨_, 0, none⟩ 1 1 [.int .i64 x'] rfl rfl (cell_list_at _ _ [.int .i64 x'] _ (by simp)) (oneCell_ints [x']) (by unfold maxLen; have := HZ2.out; omega) (by have := HZ2.out; omega) (Nat.le_trans P3.2.size (by simp)) ?_; intro v3 w3 ho hg _ _; have P4 := P3.put (x := x') hg ho; clear ho hg P3; clear c0 c1))
            go_roundw
            case rel => exact ⟨j + 1, by omega, by go_num, by rw [HE2.out]; exact P4⟩
            case measure => simp [intOf]; omega
          · rw [List.concat_eq_append] at hno HE2 P2 HZ
            obtain ⟨a, z⟩ := p
            have hzx : z ≠ x := hno init (a, z) rfl
            obtain ⟨m, hm⟩ : ∃ m, m = 2 * init.length + 1 := ⟨_, rfl⟩
            obtain ⟨f1, f2⟩ := flat_end init a z
            rw [← hm] at f1
            rw [show 2 * init.length + 2 = m + 1 by omega] at f2
            clear hm
            generalize flatP (init ++ [(a, z)]) = zs at P2 f1 f2 HE2 HZ
            obtain ⟨g, cap, rfl, hcell, hfz⟩ := P2.form (fun e => by rw [e] at f2; simp at f2)
            rw [f2] at P2 ⊢
            have hml : m ≤ 1000000000 := by have := HZ.out; omega
            have d0 := hcell m z f1
            have hwm : IntKind.i64.wrap (((m + 1 : Nat) : Int) - 1) = (m : Int) := by rw [IntWalk.i64_in _ (by omega)]; omega
            have hwm2 : IntKind.i64.wrap ((m : Int) + 1 - 1) = (m : Int) := by rw [IntWalk.i64_in _ (by omega)]; omega
            have P2q := fun q => P2.drewN q
            clear hcell hfz f1 f2 hno P2 HB HLL
            go_quiet (fail)
            have P2 := P2q nq
            clear d0 hwm hwm2 P2q
            have HZ2 := Lib.hid (show (zs ++ [x]).length ≤ 1048577 by rw [List.length_append]; have := HZ.out; simp; omega)
            go_wp2_with (first
              | (at_builtin; refine wpList_append_own_at _ rfl (.tmp 56) (.tmp 61) 49 rfl w.heap.size 3 i0 (.int .i64 0) 1 8 Try.underlying49 hi hz0 hz1 hz2 rfl (by decide) _ _ _ rfl (World.ownsRow.alloc P2.row _) ⟨_, 0, none⟩ 1 1 [.int .i64 x] rfl rfl (cell_list_at _ _ [.int .i64 x] _ (by simp)) (oneCell_ints [x]) (by unfold maxLen; have := HZ.out; omega) (by have := HZ.out; omega) (Nat.le_trans P2.2.size (by simp)) ?_; intro v2 w2 ho hg _ _; have P3 := P2.put (x := x) hg ho; clear ho hg P2; clear c0 c1; obtain ⟨c0, c1⟩ := HC.out _ P3.2)
              | (at_builtin; refine wpList_append_own_at _ rfl (.tmp 63) (.tmp 69) 49 rfl w.heap.size 3 i0 (.int .i64 0) 1 8 Try.underlying49 hi hz0 hz1 hz2 rfl (by decide) _ _ _ rfl (World.ownsRow.alloc P3.row _) ⟨_, 0, none⟩ 1 1 [.int .i64 x'] rfl rfl (cell_list_at _ _ [.int .i64 x'] _ (by simp)) (oneCell_ints [x']) (by unfold maxLen; have := HZ2.out; omega) (by have := HZ2.out; omega) (Nat.le_trans P3.2.size (by simp)) ?_; intro v3 w3 ho hg _ _; have P4 := P3.put (x := x') hg ho; clear ho hg P3; clear c0 c1))
            go_roundw
            case rel => exact ⟨j + 1, by omega, by go_num, by rw [HE2.out]; exact P4⟩
            case measure => simp [intOf]; omega
    · have hl : ¬ (j : Int) + 1 < (n : Int) := by omega
      have HE := Lib.hid (show flatP (cellsN inq xs j) = flatP (rowC inq xs) by unfold rowC; rw [← HN.out, show n - 1 = j by omega])
      rw [HE.out] at P1
      go_wp2_with fail
      go_ret
      exact ⟨_, rfl, P1.1, P1.2⟩
end Go.Proofs.Ytfabknabkcfpjaa
