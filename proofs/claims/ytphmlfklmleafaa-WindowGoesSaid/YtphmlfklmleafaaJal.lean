/- Get, Kids, walked. gather, walked. A region that draws, in a round of a range over a function; the library's Backward. -/
import Derived.Test.YtphmlfklmleafaaJai
import Derived.Shelf.Slices.Clone
import Derived.Test.YtphmlfklmleafaaJaj
import Derived.Maps.AppendAt
import Derived.RangeFuncNested
import Derived.RangeFuncBound
import Derived.RangeFuncCalls
import Derived.RangeFuncLeaves
import Derived.Shelf.Abstract
import Derived.Shelf.RegionOpen
import Derived.WalkKit
import Derived.OwnWalkIn
import Derived.TacticsInMore
import Derived.LoopNIn
import Derived.LoopIn
import Derived.Deep.RegionHeld3
section
namespace Go.Proofs.Ytphmlfklmleafaa
open Go.RowKit Go.Shelf Go.Maps
abbrev winV (v : Win) : Value := .agg #[.int .i64 v.id, .int .i64 v.par, .int .i64 v.x, .int .i64 v.y, .int .i64 v.w, .int .i64 v.h, .bool v.on]
theorem get_f {w : World} {p : Value} {i : Int} (hf : ∀ W, Below w.heap.size w W → Calls Try.prog 38 #[p, .int .i64 i] W fun e w' => e = .returned (.pointer none) ∧ W = w') :
    Calls Try.prog 19 #[p, .int .i64 i] w fun e w' => e = .returned (.tuple #[winV zeroW, .bool false]) ∧ Below w.heap.size w w' := by
  have H1 := Lib.hid (hf (w.alloc (.cells #[.int .i64 0, .int .i64 0, .int .i64 0, .int .i64 0, .int .i64 0, .int .i64 0, .bool false] 50)) ((Below.refl _ w).alloc (Nat.le_refl _) _))
  clear hf
  go_enter Try.func19, Try.ntmps19
  go_wp2_with (go_at_call 38; ((with_reducible refine (H1.out).mono ?_); rintro e w' ⟨rfl, rfl⟩))
  refine bodyPost_ret (v := .tuple #[winV zeroW, .bool false]) (by simp [results, Try.results19, go_sem, zeroW]) rfl ?_
  exact ⟨rfl, (Below.refl _ w).alloc (Nat.le_refl _) _⟩
section
variable {w : World} {t : Nat} {l : Lay} {nd : Int → Option Nd} {made : Int} {cnt : Nat}
theorem get_no {p : Value} (h : NoTree w p) {i : Int} (hi : I64 i) : Calls Try.prog 19 #[p, .int .i64 i] w fun e w' => e = .returned (.tuple #[winV zeroW, .bool false]) ∧ Below w.heap.size w w' :=
  get_f fun _ hW => find_no (h.next hW) hi
theorem get_none (h : TreeH w t l nd made cnt) {i : Int} (hi : I64 i) (hb : l.nb i = none) : Calls Try.prog 19 #[treeP t, .int .i64 i] w fun e w' => e = .returned (.tuple #[winV zeroW, .bool false]) ∧ Below w.heap.size w w' :=
  get_f fun _ hW => find_none (h.next hW) hi hb
set_option maxHeartbeats 1000000 in
theorem get_c (h : TreeH w t l nd made cnt) {i : Int} (hi : I64 i) {d : Nd} (hd : nd i = some d) : Calls Try.prog 19 #[treeP t, .int .i64 i] w fun e w' => e = .returned (.tuple #[winV d.win, .bool true]) ∧ Below w.heap.size w w' := by
  obtain ⟨b, hb⟩ := h.block hd
  obtain ⟨wb, hwb⟩ : ∃ wb, wb = w.alloc (.cells #[.int .i64 0, .int .i64 0, .int .i64 0, .int .i64 0, .int .i64 0, .int .i64 0, .bool false] 50) := ⟨_, rfl⟩
  have hbel : Below w.heap.size w wb := by rw [hwb]; exact (Below.refl _ _).alloc (Nat.le_refl _) _
  have H1 := find_some (h.next hbel) hi hb
  obtain ⟨⟨k0, k1, k2, k3, k4, k5, k6, -⟩, -⟩ := (h.next hbel).cells hb hd
  rw [hwb] at H1 k0 k1 k2 k3 k4 k5 k6
  have H2 := Lib.hid H1
  obtain ⟨⟨vid, vpar, vx, vy, vw, vh, von⟩, ks⟩ := d
  dsimp only at k0 k1 k2 k3 k4 k5 k6
  clear h hi hd hb hwb hbel H1
  go_enter Try.func19, Try.ntmps19
  go_wp2_with (go_at_call 38; ((with_reducible refine (H2.out).mono ?_); rintro e w' ⟨rfl, rfl⟩))
  refine bodyPost_ret (v := .tuple #[winV ⟨vid, vpar, vx, vy, vw, vh, von⟩, .bool true]) (by simp [results, Try.results19, go_sem]) rfl ?_
  exact ⟨rfl, (Below.refl _ w).alloc (Nat.le_refl _) _⟩
/-- A slice of numbers of a call's own: it reads as these. -/
def NewInts (w : World) (v : Value) (xs : List Int) (w' : World) : Prop := w'.ownsRow w.heap.size 3 1 v xs.length (intsV xs) ∧ Below w.heap.size w w'
theorem row_lt0 {w : World} {v : Value} {n b : Nat} {xs : List Value} (h : w.ownsRow 0 3 1 v n xs) (hb : v.ownBlock = some b) : b < w.heap.size := (World.ownsRow.lt h b hb).2
theorem clone_w (v : Value) (xs : List Int) (w : World) (hr : w.ownsRow 0 3 1 v xs.length (intsV xs)) (hl : xs.length ≤ 1048576) :
    Calls Try.prog 46 #[v] w fun e w' => ∃ v', e = .returned v' ∧ NewInts w v' xs w' := by
  have hr0 := hr
  obtain ⟨hlen, h1⟩ := hr0
  rcases h1 with ⟨rfl, hn⟩ | ⟨g, cap, cur, rfl, -, hg, hnc, hcm, hcs, ht⟩
  · have hx : xs = [] := List.eq_nil_of_length_eq_zero hn
    subst hx
    refine Calls.mono (Any.slices_Clone_int_nil cloneInt 0 0 w) ?_
    rintro e w' ⟨rfl, rfl⟩
    exact ⟨_, rfl, World.ownsRow_nil _ _ _ _, Below.refl _ _⟩
  · have h := Any.slices_Clone_int cloneInt g 0 xs.length cap xs w (Nat.le_refl _) (by omega) (fun j hj => by
      rw [Nat.zero_add]
      refine (World.ownsRow.cellAt hr j (by omega)).trans ?_
      rw [List.getElem?_map, List.getElem?_eq_getElem hj, List.getD_eq_getElem?_getD, List.getElem?_eq_getElem hj]
      rfl)
    rw [List.take_length] at h
    refine Calls.mono h ?_
    rintro e w' ⟨v, rfl, h1, _, h2⟩
    exact ⟨v, rfl, h1, h2⟩
theorem kids_f {w : World} {p : Value} {i : Int} (hf : ∀ W, Below w.heap.size w W → Calls Try.prog 38 #[p, .int .i64 i] W fun e w' => e = .returned (.pointer none) ∧ W = w') :
    Calls Try.prog 18 #[p, .int .i64 i] w fun e w' => e = .returned (.slice none 0 0) ∧ w = w' := by
  have H1 := Lib.hid (hf w (Below.refl _ _))
  clear hf
  go_enter Try.func18, Try.ntmps18
  go_wp2_with (go_at_call 38; ((with_reducible refine (H1.out).mono ?_); rintro e w' ⟨rfl, rfl⟩))
  go_ret
  exact ⟨rfl, rfl⟩
theorem kids_no {p : Value} (h : NoTree w p) {i : Int} (hi : I64 i) : Calls Try.prog 18 #[p, .int .i64 i] w fun e w' => e = .returned (.slice none 0 0) ∧ w = w' :=
  kids_f fun _ hW => find_no (h.next hW) hi
theorem kids_none (h : TreeH w t l nd made cnt) {i : Int} (hi : I64 i) (hb : l.nb i = none) : Calls Try.prog 18 #[treeP t, .int .i64 i] w fun e w' => e = .returned (.slice none 0 0) ∧ w = w' :=
  kids_f fun _ hW => find_none (h.next hW) hi hb
theorem kids_c (h : TreeH w t l nd made cnt) {i : Int} (hi : I64 i) {d : Nd} (hd : nd i = some d) (hk : d.kids.length ≤ 1048576) :
    Calls Try.prog 18 #[treeP t, .int .i64 i] w fun e w' => ∃ v', e = .returned v' ∧ NewInts w v' d.kids w' := by
  obtain ⟨b, hb⟩ := h.block hd
  have H1 := Lib.hid (find_some h hi hb)
  have H2 := Lib.hid (clone_w (l.kv i) d.kids w (h.node i b d hb hd).2 hk)
  have k7 := (h.cells hb hd).1.2.2.2.2.2.2.2
  obtain ⟨kv, hkv⟩ : ∃ v, v = l.kv i := ⟨_, rfl⟩
  rw [← hkv] at H2 k7
  clear h hi hd hb hkv hk
  go_enter Try.func18, Try.ntmps18
  go_wp2_with (first
    | (go_at_call 38; ((with_reducible refine (H1.out).mono ?_); rintro e w' ⟨rfl, rfl⟩))
    | (go_at_call 46; ((with_reducible refine (H2.out).mono ?_); rintro e w' ⟨v', rfl, hn⟩)))
  go_ret
  exact ⟨_, rfl, hn⟩
end
end Go.Proofs.Ytphmlfklmleafaa
end
section
namespace Go.Proofs.Ytphmlfklmleafaa
open Go.RowKit Go.Shelf Go.Maps
/-- Below i it is at most n deep. -/
def Tall (nd : Int → Option Nd) : Nat → Int → Prop
  | 0, _ => False
  | n + 1, i => ∃ d, nd i = some d ∧ ∀ k ∈ d.kids, Tall nd n k
/-- All in i, and i behind them. -/
def allL (nd : Int → Option Nd) : Nat → Int → List Int
  | 0, _ => []
  | n + 1, i => match nd i with
    | none => []
    | some d => d.kids.flatMap (allL nd n) ++ [i]
/-- A list grown. -/
def GaR (w : World) (v : Value) (ys : List Int) (v' : Value) (w' : World) : Prop :=
  w'.ownsRow 0 3 1 v' ys.length (intsV ys) ∧ w.grownBy w' v.ownBlock ∧ ∀ r, v'.ownBlock = some r → v.ownBlock = some r ∨ w.heap.size ≤ r
/-- The rounds of gather. -/
def GaS (w : World) (v : Value) (xs : List Int) (nd : Int → Option Nd) (n : Nat) (ks : List Int) (k : Nat) (z : Value) (wr : World) : Prop := GaR w v (xs ++ (ks.take k).flatMap (allL nd n)) z wr
section
variable {w w' : World} {t : Nat} {l : Lay} {nd : Int → Option Nd} {made : Int} {cnt : Nat}
theorem TreeH.beside (h : TreeH w t l nd made cnt) {row : Option Nat} (hg : w.grownBy w' row) (hn : ∀ r, row = some r → ¬ l.foot t r) : TreeH w' t l nd made cnt :=
  h.kept fun b hb => hg.block b (h.foot_lt hb) (fun e => hn b e.symm hb)
theorem row_reads {v : Value} {xs : List Int} (h : w.ownsRow 0 3 1 v xs.length (intsV xs)) : ∃ p c, v = .slice p xs.length c ∧ ∀ (j : Nat) (x : Int), xs[j]? = some x → ∃ g, p = some ⟨g, 0, none⟩ ∧ g < w.heap.size ∧ w.cell? ⟨g, j, none⟩ = some (.int .i64 x) := by
  have h0 := h
  obtain ⟨hlen, h1⟩ := h
  rcases h1 with ⟨rfl, hn⟩ | ⟨g, cap, cur, rfl, -, hg, hnc, hcm, hcs, ht⟩
  · have hx : xs = [] := List.eq_nil_of_length_eq_zero hn
    subst hx
    exact ⟨none, 0, rfl, fun j x hx => by simp at hx⟩
  · refine ⟨_, cap, rfl, fun j x hx => ⟨g, rfl, (Array.getElem?_eq_some_iff.1 hg).1, ?_⟩⟩
    have hj := (List.getElem?_eq_some_iff.1 hx).1
    refine (World.ownsRow.cellAt h0 j (by omega)).trans ?_
    rw [List.getElem?_map, hx]; rfl
theorem GaR.trans {v v1 v2 : Value} {ys zs : List Int} {w1 w2 : World} (h : GaR w v ys v1 w1) (k : GaR w1 v1 zs v2 w2) : GaR w v zs v2 w2 := by
  obtain ⟨-, h2, h3⟩ := h
  obtain ⟨k1, k2, k3⟩ := k
  refine ⟨k1, ⟨k2.os.trans h2.os, k2.tape.trans h2.tape, k2.output.trans h2.output, Nat.le_trans h2.size k2.size, fun i hi hne => ?_⟩, fun r hr => ?_⟩
  · refine (k2.block i (Nat.lt_of_lt_of_le hi h2.size) (fun e => ?_)).trans (h2.block i hi hne)
    rcases h3 i e.symm with h4 | h4
    · exact hne h4.symm
    · omega
  · rcases k3 r hr with h4 | h4
    · exact h3 r h4
    · exact .inr (Nat.le_trans h2.size h4)
theorem take_flat {ks : List Int} {k : Nat} {x : Int} (f : Int → List Int) (hx : ks[k]? = some x) : (ks.take (k + 1)).flatMap f = (ks.take k).flatMap f ++ f x := by
  have hk := (List.getElem?_eq_some_iff.1 hx).1
  rw [List.take_succ_eq_append_getElem hk, List.flatMap_append]
  rw [List.getElem?_eq_getElem hk] at hx
  injection hx with hx
  rw [hx]; simp
theorem flat_len_le (f : Int → List Int) : ∀ (ks : List Int) (k : Nat), ((ks.take k).flatMap f).length ≤ (ks.flatMap f).length
  | [], k => by simp
  | a :: t, 0 => by simp
  | a :: t, k + 1 => by
    have := flat_len_le f t k
    simp only [List.take_succ_cons, List.flatMap_cons, List.length_append]
    omega
set_option maxRecDepth 100000 in
set_option maxHeartbeats 4000000 in
theorem gather_c (hw : Wide nd) : ∀ (n : Nat) (i : Int) (v : Value) (xs : List Int) (w : World), TreeH w t l nd made cnt → Tall nd n i → w.ownsRow 0 3 1 v xs.length (intsV xs) → (∀ r, v.ownBlock = some r → ¬ l.foot t r) → xs.length + (allL nd n i).length ≤ 1048576 →
    Calls Try.prog 49 #[treeP t, v, .int .i64 i] w fun e w' => ∃ v', e = .returned v' ∧ GaR w v (xs ++ allL nd n i) v' w'
  | 0, i, v, xs, w, _, hT, _, _, _ => hT.elim
  | n + 1, i, v, xs, w, h, hT, hv, hnf, hlen => by
    obtain ⟨i0, hi0, hz0, hz1, hz2⟩ := info_parts intInfoW
    obtain ⟨d, hd, hkids⟩ := hT
    obtain ⟨b, hb⟩ := h.block hd
    have hall : allL nd (n + 1) i = d.kids.flatMap (allL nd n) ++ [i] := by simp only [allL, hd]
    rw [hall] at hlen ⊢
    have hlen2 : xs.length + (d.kids.flatMap (allL nd n)).length + 1 ≤ 1048576 := by simp at hlen ⊢; omega
    obtain ⟨p, c, hkv, hcell⟩ := row_reads (h.node i b d hb hd).2
    have e0 := h.look_some (hw i d hd).1 hb
    obtain ⟨⟨c0, -⟩, -⟩ := h.tree.c2
    have k7 := (h.cells hb hd).1.2.2.2.2.2.2.2
    rw [hkv] at k7
    have hps : (l.nb i).isSome = true := by rw [hb]; rfl
    have hkf : ∀ g, p = some ⟨g, 0, none⟩ → l.foot t g := fun g e => .inr (.inr (.inr ⟨i, hps, by rw [hkv, e]; rfl⟩))
    have HC := Lib.hid hcell
    have HKF := Lib.hid hkf
    have HNF := Lib.hid hnf
    have HREC := Lib.hid (fun (k : Nat) (x : Int) (hx : d.kids[k]? = some x) (v' : Value) (wr : World) (hG : GaR w v (xs ++ (d.kids.take k).flatMap (allL nd n)) v' wr) =>
      (gather_c hw n x v' _ wr (h.beside hG.2.1 hnf) (hkids x (List.mem_of_getElem? hx)) hG.1 (fun r hr hf => by
        rcases hG.2.2 r hr with h1 | h1
        · exact hnf r h1 hf
        · have := h.foot_lt hf; omega) (by
        have h1 := flat_len_le (allL nd n) d.kids (k + 1)
        rw [take_flat _ hx, List.length_append] at h1
        rw [List.length_append]; omega)))
    have HV := Lib.hid hv
    have HLEN := Lib.hid hlen2
    have hm0 : (d.kids.length : Int) ≤ 9223372036854775807 := by
      have hkl : d.kids.length ≤ 9223372036854775807 := by
        have h5 := (h.node i b d hb hd).2
        rcases h5.2 with ⟨_, hn⟩ | ⟨g, cap, cur, _, _, _, hnc, hcm, _, _⟩
        · omega
        · unfold maxLen at hcm; omega
      omega
    obtain ⟨m, hm⟩ : ∃ m, m = d.kids.length := ⟨_, rfl⟩
    rw [← hm] at hm0 k7
    have HM := Lib.hid hm
    obtain ⟨ks, hks⟩ : ∃ ks, ks = d.kids := ⟨_, rfl⟩
    rw [← hks] at HC HM HREC HLEN ⊢
    clear h hv hnf hlen hlen2 hd hb hkids hall hkv hcell hps hkf hm hks
    go_enter Try.func49, Try.ntmps49
    go_wp2_with fail
    go_loopw [1, 19] (fun y z wr => ∃ k : Nat, k ≤ m ∧ z = .int .i64 k ∧ GaS w v xs nd n ks k y wr) (fun _ z _ => m - (intOf z).toNat)
    case atStart => exact ⟨0, Nat.zero_le _, rfl, by simpa using HV.out, World.grownBy.refl _ _, fun r hr => .inl hr⟩
    case round =>
      obtain ⟨k, hk, rfl, hG⟩ := hrel
      have HG := Lib.hid hG
      clear hG
      by_cases hlt : k < m
      · obtain ⟨x, hx⟩ : ∃ x, ks[k]? = some x := ⟨_, List.getElem?_eq_getElem (by rw [← HM.out]; exact hlt)⟩
        obtain ⟨g, hp, hg, hcx⟩ := HC.out k x hx
        have hcr : wr.cell? ⟨g, k, none⟩ = some (.int .i64 x) := HG.out.2.1.cell hcx (fun e => HNF.out g e.symm (HKF.out g hp))
        have hi0' : (0 : Int) ≤ (k : Int) := by omega
        have hi1 : (k : Int) < (m : Int) := by omega
        have HR := Lib.hid (HREC.out k x hx u1 wr HG.out)
        have HX := Lib.hid hx
        subst hp
        clear hx hcx hg
        go_wp2_with (go_at_call 49; ((with_reducible refine (HR.out).mono ?_); rintro e w1 ⟨v2, rfl, hG2⟩); have HG2 := Lib.hid hG2; clear hG2)
        go_roundw
        case rel => exact ⟨k + 1, by omega, by go_num, by
          show GaR w v _ _ _
          have := HG.out.trans HG2.out
          rw [take_flat _ HX.out, ← List.append_assoc]; exact this⟩
        case measure => simp [intOf]; omega
      · obtain rfl : k = m := by omega
        have HK := Lib.hid (show ks.take k = ks by rw [HM.out]; exact List.take_length)
        have HLL := Lib.hid (show (xs ++ (ks.take k).flatMap (allL nd n)).length + 1 ≤ 1048576 by rw [HK.out, List.length_append]; exact HLEN.out)
        go_wp2_with (at_builtin; refine wpList_append_own_at _ rfl (.tmp 28) (.tmp 30) 47 rfl 0 3 i0 (.int .i64 0) 1 8 Try.underlying47 hi0 hz0 hz1 hz2 rfl (by decide) _ _ _ rfl (World.ownsRow.alloc HG.out.1 _) ⟨_, 0, none⟩ 1 1 [.int .i64 i] rfl rfl (cell_list_at _ _ [.int .i64 i] _ (by simp)) (oneCell_ints [i]) (by unfold maxLen; have := HLL.out; omega) (by have := HLL.out; omega) (Nat.zero_le _) ?_; intro v3 w3 ho3 hg3 _ hl3; have HO3 := Lib.hid ho3; have HG3 := Lib.hid hg3; have HL3 := Lib.hid hl3; clear ho3 hg3 hl3)
        go_ret
        refine ⟨_, rfl, ?_⟩
        have hA : GaR wr u1 ((xs ++ (ks.take k).flatMap (allL nd n)) ++ [i]) v3 w3 := by
          refine ⟨?_, ?_, fun r hr => ?_⟩
          · have := HO3.out
            unfold intsV
            rw [List.length_append, List.map_append]
            exact this
          · exact only_trans (only_alloc (only_refl _ _) _) HG3.out
          · rcases HL3.out with h1 | h1
            · exact .inl (h1 ▸ hr)
            · refine .inr ?_
              rw [h1] at hr
              injection hr with hr
              simp at hr; omega
        have := HG.out.trans hA
        rw [HK.out, List.append_assoc] at this
        exact this
end
end Go.Proofs.Ytphmlfklmleafaa
end
section
namespace Go.Proofs.Ytphmlfklmleafaa
open Go.RowKit Go.Shelf Go.Maps
attribute [local go_sem] Oper.semAt_some
/-- Only onwards. -/
def OnlyOn (Q : Exit → Act → World → Prop) : Exit → Act → World → Prop
  | .normal, a, w => Q .normal a w
  | _, _, _ => False
theorem OnlyOn.imp {Q : Exit → Act → World → Prop} : ∀ (e : Exit) (a : Act) (w : World), OnlyOn Q e a w → Q e a w := fun e a w h => by
  cases e <;> first | exact h | exact h.elim
theorem OnlyOn.normal {Q : Exit → Act → World → Prop} {a : Act} {w : World} (h : Q .normal a w) : OnlyOn Q .normal a w := h
section
variable {P : Program} {ops : Array Oper} {Q : Exit → Act → World → Prop} {n l : Nat}
theorem oper_in {o : Oper} (hd : ∀ c, o.op ≠ .defer c) {a : Act} {w : World} {K : Act → World → Prop} (h : o.wp P a w K Q) : o.wpIn (Fence.wide.inRound l) n P a w K Q := by
  refine ⟨fun _ _ => trivial, ?_⟩
  unfold Oper.wp at h
  have e : o.semAt (Fence.wide.inRound l).round a.eval = execOp a.eval o := Oper.semAt_eq _ _ _ hd
  rw [e]
  generalize (execOp a.eval o).run P w = r at h ⊢
  cases r with
  | ok x w' =>
    cases x <;> simp only [Oper.upon, Oper.uponIn] at h ⊢ <;> first | exact h | exact ⟨fun h => (by cases h), CallsIn.inRound l (callsIn_wide.2 h)⟩ | exact ⟨fun h => (by cases h), fun c cs _ => by
      obtain ⟨v, w', h1, h2⟩ := h c cs
      exact ⟨v, w', h1, stepsIn_wide.2 h2⟩⟩
  | halt x w' => cases x <;> simp only [Oper.upon, Oper.uponIn] at h ⊢ <;> exact h
theorem opIn_in (hd : ∀ (i : Nat) (o : Oper), ops[i]? = some o → ∀ c, o.op ≠ .defer c) {i : Nat} {a : Act} {w : World} {K : Act → World → Prop} (h : wpOp P ops (OnlyOn Q) i K a w) : wpOpIn (Fence.wide.inRound l) n P ops (OnlyOn Q) i K a w := by
  unfold wpOp at h
  unfold wpOpIn
  cases ho : ops[i]? with
  | none => rw [ho] at h; exact h
  | some o =>
    rw [ho] at h
    dsimp only at h ⊢
    split
    · next hw =>
      rw [if_pos hw] at h
      rcases h with h | ⟨_, h⟩
      · exact oper_in (hd i o ho) h
      · obtain ⟨_, _, h⟩ := h; exact h.elim
    · next hw =>
      rw [if_neg hw] at h
      exact ⟨fun _ _ => trivial, h⟩
theorem any_in (hd : ∀ (i : Nat) (o : Oper), ops[i]? = some o → ∀ c, o.op ≠ .defer c) : ∀ (fuel : Nat) (listed : Array Bool) (a : Act) (w : World), wpAny P .any ops (OnlyOn Q) fuel listed a w → wpAnyIn (Fence.wide.inRound l) n P .any ops (OnlyOn Q) fuel listed a w
  | 0, _, _, _, h => h
  | fuel + 1, _, _, _, h => ⟨h.1, fun i hi => opIn_in hd (wpOp_mono (fun a' w' h' => any_in hd fuel _ a' w' h') (h.2 i hi))⟩
/-- A region that draws, in a round. -/
theorem region_in {S : World → Prop} {id : Nat} {a : Act} {w : World} (hm : P.follows .mixedOrders = true) (hd : (ops.all fun o => match o.op with | .defer _ => false | _ => true) = true) (hS : S w.drew)
    (h : S w.drew → wpAnyH P .any ops (OnlyOn Q) S ops.size (Array.replicate ops.size false) a w.drew) : (Code.region id ops true).wpIn (Fence.wide.inRound l) n P Q a w := by
  refine wpIn_mono (wpIn_region_any hm (any_in (fun i o ho c hc => ?_) _ _ _ _ (wpAny_of_held _ _ _ _ (h hS)))) OnlyOn.imp
  have hi := (Array.getElem?_eq_some_iff.1 ho)
  obtain ⟨hlt, hoe⟩ := hi
  have h1 := (Array.all_eq_true.1 hd) i hlt
  rw [hoe, hc] at h1
  cases h1
end
/-- The pairs that Backward hands over. -/
def backP (zs : List Int) (j : Nat) : Nat × Int := (zs.length - 1 - j, zs[zs.length - 1 - j]?.getD 0)
abbrev BACK := 69
set_option maxRecDepth 100000 in
set_option maxHeartbeats 2000000 in
theorem back1_in {α : Type} (en : α → Nat × Int) (xs : List α) (F : Fence) (n : Nat) (h8 : F.fn BACK) (hro : F.round = none) (hn : 1 ≤ n) (l Bs n₀ b cap : Nat) (zs : List Int) (hreach : zs.length ≤ 1048576) (hxl : xs.length = zs.length) (hxe : ∀ (k : Nat) (x : α), xs[k]? = some x → en x = backP zs k) (hb : b < n₀) (J Jx : List α → World → Prop)
    (hY : ∀ pre x W, J pre W → pre.length < zs.length → YieldAt F (n - 1) Try.prog l #[.int .i64 ((en x).1 : Int), .int .i64 (en x).2] W fun e W' =>
      (e = .returned (.bool true) ∧ J (pre ++ [x]) W' ∧ Below n₀ W W') ∨ (e = .returned (.bool false) ∧ Jx (pre ++ [x]) W'))
    (W : World) (hBs : ∀ pre W1, J pre W1 → W1.cell? ⟨Bs, 0, none⟩ = some (.slice (some ⟨b, 0, none⟩) zs.length cap)) (hc : ∀ j, j < zs.length → W.cell? ⟨b, j, none⟩ = some (.int .i64 (zs[j]?.getD 0))) (h0 : J [] W) :
    CallsIn F n Try.prog BACK #[.func (.yield l) #[] #[], .pointer (some ⟨Bs, 0, none⟩)] W fun e W' => (∃ v, e = .returned v) ∧
      ((∃ ys, ys = xs ∧ J ys W') ∨ (∃ pre, pre <+: xs ∧ Jx pre W')) := by
  have hB0 := hBs [] W h0
  have HBS := Lib.hid hBs
  have HC := Lib.hid hc
  obtain ⟨m, hm⟩ : ∃ m, m = zs.length := ⟨_, rfl⟩
  have HF := Lib.hid (show ∀ k, backP zs k = (m - 1 - k, zs[m - 1 - k]?.getD 0) from fun k => by rw [hm]; rfl)
  rw [← hm] at hreach hY HBS HC hB0 hxl
  have HY := Lib.hid hY
  have HXL := Lib.hid hxl
  have HXE := Lib.hid hxe
  clear hBs hc hm hY hxl hxe
  refine callsIn_of_wp Try.func69 rfl h8 ?_ hro
  simp only [Try.ntmps69, List.size_toArray, List.length_cons, List.length_nil, Nat.reduceAdd, Nat.reduceSub, Array.replicate_succ, Array.replicate_zero, List.push_toArray, List.append_toArray, List.nil_append, List.cons_append]
  gi_wp2
  gi_loopw [3] (fun i wr => ∃ (k r : Nat) (z : Int), k + r = m ∧ i = .int .i64 z ∧ z + 1 = (r : Int) ∧ J (xs.take k) wr ∧ Below n₀ W wr)
    (fun i _ => (intOf i + 1).toNat)
  case atStart => exact ⟨0, m, _, by omega, rfl, by omega, h0, Below.refl _ _⟩
  case round =>
    obtain ⟨k, r, z, hkr, rfl, hz, hJs, hnx⟩ := hrel
    cases r with
    | zero =>
      obtain rfl : z = -1 := by omega
      obtain rfl : k = m := by omega
      have HJ := Lib.hid hJs
      clear hJs hz hkr
      gi_wp2
      go_end0
      have HJ2 := HJ.out
      rw [List.take_of_length_le (by rw [HXL.out]; omega)] at HJ2
      exact ⟨⟨_, rfl⟩, .inl ⟨_, rfl, HJ2⟩⟩
    | succ r =>
      obtain rfl : z = (r : Int) := by omega
      have hlt : r < m := by omega
      have hB1 := HBS.out _ _ hJs
      have hcx : wr.cell? ⟨b, r, none⟩ = some (.int .i64 (zs[r]?.getD 0)) := (hnx.cell (p := ⟨b, r, none⟩) hb).trans (HC.out r hlt)
      obtain ⟨x, hx⟩ : ∃ x, xs[k]? = some x := ⟨_, List.getElem?_eq_getElem (by rw [HXL.out]; omega)⟩
      have hfk : en x = (r, zs[r]?.getD 0) := by rw [HXE.out k x hx, HF.out, show m - 1 - k = r by omega]
      obtain ⟨v, hv⟩ : ∃ v, v = zs[r]?.getD 0 := ⟨_, rfl⟩
      rw [← hv] at hcx hfk
      obtain ⟨fn, tmps, assign, body, hy, hR⟩ := HY.out _ x wr hJs (by rw [List.length_take, HXL.out]; omega)
      rw [hfk] at hy
      dsimp only at hy
      have HFK := Lib.hid (take_snoc_get hx)
      have HR := Lib.hid hR
      have hi0 : (0 : Int) ≤ (r : Int) := by omega
      have hi1 : (r : Int) < (m : Int) := by omega
      clear hJs hfk hR hv hz hx
      gi_wp2
      refine HR.out.mono ?_
      rintro e W3 (⟨rfl, hJ3, hk3⟩ | ⟨rfl, hJx3⟩)
      · gi_wp2
        go_roundw
        case rel => exact ⟨k + 1, r, _, by omega, rfl, by omega, by rw [HFK.out]; exact hJ3, hnx.trans hk3⟩
        case measure => simp [intOf]
      · gi_wp2
        refine bodyPost_ret (results_none rfl _ _ _) rfl ?_
        exact ⟨⟨_, rfl⟩, .inr ⟨_, by rw [← HFK.out]; exact List.take_prefix _ _, hJx3⟩⟩
set_option maxRecDepth 100000 in
set_option maxHeartbeats 1000000 in
theorem back1_nil {α : Type} (F : Fence) (n : Nat) (h8 : F.fn BACK) (hro : F.round = none) (l Bs : Nat) (J : List α → World → Prop) (W : World) (hBs : W.cell? ⟨Bs, 0, none⟩ = some (.slice none 0 0)) (h0 : J [] W) :
    CallsIn F n Try.prog BACK #[.func (.yield l) #[] #[], .pointer (some ⟨Bs, 0, none⟩)] W fun e W' => (∃ v, e = .returned v) ∧ J [] W' := by
  have HJ := Lib.hid h0
  clear h0
  refine callsIn_of_wp Try.func69 rfl h8 ?_ hro
  simp only [Try.ntmps69, List.size_toArray, List.length_cons, List.length_nil, Nat.reduceAdd, Nat.reduceSub, Array.replicate_succ, Array.replicate_zero, List.push_toArray, List.append_toArray, List.nil_append, List.cons_append]
  gi_wp2
  gi_loopw [3] (fun i wr => i = .int .i64 (-1) ∧ wr = W) (fun _ _ => 0)
  case atStart => exact ⟨rfl, rfl⟩
  case round =>
    obtain ⟨rfl, rfl⟩ := hrel
    gi_wp2
    go_end0
    exact ⟨⟨_, rfl⟩, HJ.out⟩
set_option maxHeartbeats 1000000 in
theorem back_in (F : Fence) (n : Nat) (h5 : F.fn 61) (hro : F.round = none) (a : Option Addr) (len cap : Nat) (w : World) :
    CallsIn F n Try.prog 61 #[.slice a len cap] w fun e w' => e = .returned (.func (.func BACK) #[] #[.pointer (some ⟨w.heap.size, 0, none⟩)]) ∧ w' = w.alloc (.cells #[.slice a len cap] 47) := by
  refine callsIn_of_wp Try.func61 rfl h5 ?_ hro
  simp only [Try.ntmps61, List.size_toArray, List.length_cons, List.length_nil, Nat.reduceAdd, Nat.reduceSub, Array.replicate_succ, Array.replicate_zero, List.push_toArray, List.append_toArray, List.nil_append, List.cons_append]
  gi_wp2
  go_ret
  exact ⟨rfl, rfl⟩
/-- A slice of numbers that reads below n₀. -/
def IntsAt (n₀ : Nat) (W : World) (sv : Value) (zs : List Int) : Prop :=
  (sv = .slice none 0 0 ∧ zs = []) ∨ ∃ b cap, sv = .slice (some ⟨b, 0, none⟩) zs.length cap ∧ b < n₀ ∧ ∀ j, j < zs.length → W.cell? ⟨b, j, none⟩ = some (.int .i64 (zs[j]?.getD 0))
theorem IntsAt.below {n₀ : Nat} {A B : World} (h : Below n₀ A B) {sv : Value} {zs : List Int} : IntsAt n₀ A sv zs → IntsAt n₀ B sv zs
  | .inl e => .inl e
  | .inr ⟨b, cap, e, hb, hc⟩ => .inr ⟨b, cap, e, hb, fun j hj => (h.cell (p := ⟨b, j, none⟩) hb).trans (hc j hj)⟩
theorem back_stops {α : Type} (en : α → Nat × Int) (xs : List α) (F : Fence) (n : Nat) (h8 : F.fn BACK) (hro : F.round = none) (hn : 1 ≤ n) (Bs n₀ : Nat) (sv : Value) (zs : List Int) (hreach : zs.length ≤ 1048576) (hxl : xs.length = zs.length) (hxe : ∀ (k : Nat) (x : α), xs[k]? = some x → en x = backP zs k) (w : World) (hBs : Bs < w.heap.size) (hn₀ : n₀ ≤ w.heap.size) (hBn : Bs < n₀)
    (hc : w.cell? ⟨Bs, 0, none⟩ = some sv) (hI : IntsAt n₀ w sv zs) :
    SeqStopsK F n Try.prog BACK #[.pointer (some ⟨Bs, 0, none⟩)] (fun x : α => #[Value.int .i64 ((en x).1 : Int), Value.int .i64 (en x).2]) (Below n₀) (fun ys => ys = xs)
      (fun pre => pre <+: xs) zs.length w := fun l J Jx W hW _ _ hY h0 => by
  have hc' := (hW.cell (p := ⟨Bs, 0, none⟩) hBs).trans hc
  rcases hI.below (hW.mono hn₀) with ⟨rfl, rfl⟩ | ⟨b, cap, rfl, hb, hcs⟩
  · obtain rfl : xs = [] := List.eq_nil_of_length_eq_zero hxl
    exact (back1_nil F n h8 hro l Bs J W hc' h0).mono fun e W' ⟨he, hj⟩ => ⟨he, .inl ⟨_, rfl, hj⟩⟩
  · refine (back1_in en xs F n h8 hro hn l Bs n₀ b cap zs hreach hxl hxe hb (fun pre W1 => J pre W1 ∧ Below n₀ W W1) Jx (fun pre x W1 hJ hl => ?_) W (fun pre W1 hJ => (hJ.2.cell (p := ⟨Bs, 0, none⟩) hBn).trans hc') hcs ⟨h0, Below.refl _ _⟩).mono ?_
    · obtain ⟨fn, tmps, assign, body, hy, hR⟩ := hY pre x W1 hJ.1 hl
      refine ⟨fn, tmps, assign, body, hy, hR.mono ?_⟩
      rintro e W' (⟨h1, h2, h3⟩ | h1)
      · exact .inl ⟨h1, ⟨h2, hJ.2.trans h3⟩, h3⟩
      · exact .inr h1
    · rintro e W' ⟨he, ⟨ys, h1, h2⟩ | h1⟩
      · exact ⟨he, .inl ⟨ys, h1, h2.1⟩⟩
      · exact ⟨he, .inr h1⟩
end Go.Proofs.Ytphmlfklmleafaa
end
