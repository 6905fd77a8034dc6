/- A region that draws, in a round of a range over a function; the library's Backward. -/
import Derived.Test.YtlbbjinkblgfiaaWiR
import Derived.RangeFuncNested
import Derived.RangeFuncBound
import Derived.RangeFuncCalls
import Derived.RangeFuncLeaves
import Derived.Shelf.Abstract
import Derived.Shelf.RegionOpen
import Derived.WalkKit
import Derived.OwnWalkIn
import Derived.TacticsInMore
import Derived.LoopNIn
import Derived.LoopIn
import Derived.Deep.RegionHeld3
namespace Go.Proofs.Ytlbbjinkblgfiaa
open Go.RowKit Go.Shelf Go.Maps
attribute [local go_sem] Oper.semAt_some
/-- Only onwards. -/
def OnlyOn (Q : Exit → Act → World → Prop) : Exit → Act → World → Prop
  | .normal, a, w => Q .normal a w
  | _, _, _ => False
theorem OnlyOn.imp {Q : Exit → Act → World → Prop} : ∀ (e : Exit) (a : Act) (w : World), OnlyOn Q e a w → Q e a w := fun e a w h => by
  cases e <;> first | exact h | exact h.elim
theorem OnlyOn.normal {Q : Exit → Act → World → Prop} {a : Act} {w : World} (h : Q .normal a w) : OnlyOn Q .normal a w := h
section
variable {P : Program} {ops : Array Oper} {Q : Exit → Act → World → Prop} {n l : Nat}
theorem oper_in {o : Oper} (hd : ∀ c, o.op ≠ .defer c) {a : Act} {w : World} {K : Act → World → Prop} (h : o.wp P a w K Q) : o.wpIn (Fence.wide.inRound l) n P a w K Q := by
  refine ⟨fun _ _ => trivial, ?_⟩
  unfold Oper.wp at h
  have e : o.semAt (Fence.wide.inRound l).round a.eval = execOp a.eval o := Oper.semAt_eq _ _ _ hd
  rw [e]
  generalize (execOp a.eval o).run P w = r at h ⊢
  cases r with
  | ok x w' =>
    cases x <;> simp only [Oper.upon, Oper.uponIn] at h ⊢ <;> first | exact h | exact ⟨fun h => (by cases h), CallsIn.inRound l (callsIn_wide.2 h)⟩ | exact ⟨fun h => (by cases h), fun c cs _ => by
      obtain ⟨v, w', h1, h2⟩ := h c cs
      exact ⟨v, w', h1, stepsIn_wide.2 h2⟩⟩
  | halt x w' => cases x <;> simp only [Oper.upon, Oper.uponIn] at h ⊢ <;> exact h
theorem opIn_in (hd : ∀ (i : Nat) (o : Oper), ops[i]? = some o → ∀ c, o.op ≠ .defer c) {i : Nat} {a : Act} {w : World} {K : Act → World → Prop} (h : wpOp P ops (OnlyOn Q) i K a w) : wpOpIn (Fence.wide.inRound l) n P ops (OnlyOn Q) i K a w := by
  unfold wpOp at h
  unfold wpOpIn
  cases ho : ops[i]? with
  | none => rw [ho] at h; exact h
  | some o =>
    rw [ho] at h
    dsimp only at h ⊢
    split
    · next hw =>
      rw [if_pos hw] at h
      rcases h with h | ⟨_, h⟩
      · exact oper_in (hd i o ho) h
      · obtain ⟨_, _, h⟩ := h; exact h.elim
    · next hw =>
      rw [if_neg hw] at h
      exact ⟨fun _ _ => trivial, h⟩
theorem any_in (hd : ∀ (i : Nat) (o : Oper), ops[i]? = some o → ∀ c, o.op ≠ .defer c) : ∀ (fuel : Nat) (listed : Array Bool) (a : Act) (w : World), wpAny P .any ops (OnlyOn Q) fuel listed a w → wpAnyIn (Fence.wide.inRound l) n P .any ops (OnlyOn Q) fuel listed a w
  | 0, _, _, _, h => h
  | fuel + 1, _, _, _, h => ⟨h.1, fun i hi => opIn_in hd (wpOp_mono (fun a' w' h' => any_in hd fuel _ a' w' h') (h.2 i hi))⟩
/-- A region that draws, in a round. -/
theorem region_in {S : World → Prop} {id : Nat} {a : Act} {w : World} (hm : P.follows .mixedOrders = true) (hd : (ops.all fun o => match o.op with | .defer _ => false | _ => true) = true) (hS : S w.drew)
    (h : S w.drew → wpAnyH P .any ops (OnlyOn Q) S ops.size (Array.replicate ops.size false) a w.drew) : (Code.region id ops true).wpIn (Fence.wide.inRound l) n P Q a w := by
  refine wpIn_mono (wpIn_region_any hm (any_in (fun i o ho c hc => ?_) _ _ _ _ (wpAny_of_held _ _ _ _ (h hS)))) OnlyOn.imp
  have hi := (Array.getElem?_eq_some_iff.1 ho)
  obtain ⟨hlt, hoe⟩ := hi
  have h1 := (Array.all_eq_true.1 hd) i hlt
  rw [hoe, hc] at h1
  cases h1
end
/-- The pairs that Backward hands over. -/
def backP (zs : List Int) (j : Nat) : Nat × Int := (zs.length - 1 - j, zs[zs.length - 1 - j]?.getD 0)
abbrev BACK := 69
set_option maxRecDepth 100000 in
set_option maxHeartbeats 2000000 in
theorem back1_in {α : Type} (en : α → Nat × Int) (xs : List α) (F : Fence) (n : Nat) (h8 : F.fn BACK) (hro : F.round = none) (hn : 1 ≤ n) (l Bs n₀ b cap : Nat) (zs : List Int) (hreach : zs.length ≤ 1048576) (hxl : xs.length = zs.length) (hxe : ∀ (k : Nat) (x : α), xs[k]? = some x → en x = backP zs k) (hb : b < n₀) (J Jx : List α → World → Prop)
    (hY : ∀ pre x W, J pre W → pre.length < zs.length → YieldAt F (n - 1) Try.prog l #[.int .i64 ((en x).1 : Int), .int .i64 (en x).2] W fun e W' =>
      (e = .returned (.bool true) ∧ J (pre ++ [x]) W' ∧ Below n₀ W W') ∨ (e = .returned (.bool false) ∧ Jx (pre ++ [x]) W'))
    (W : World) (hBs : ∀ pre W1, J pre W1 → W1.cell? ⟨Bs, 0, none⟩ = some (.slice (some ⟨b, 0, none⟩) zs.length cap)) (hc : ∀ j, j < zs.length → W.cell? ⟨b, j, none⟩ = some (.int .i64 (zs[j]?.getD 0))) (h0 : J [] W) :
    CallsIn F n Try.prog BACK #[.func (.yield l) #[] #[], .pointer (some ⟨Bs, 0, none⟩)] W fun e W' => (∃ v, e = .returned v) ∧
      ((∃ ys, ys = xs ∧ J ys W') ∨ (∃ pre, pre <+: xs ∧ Jx pre W')) := by
  have hB0 := hBs [] W h0
  have HBS := Lib.hid hBs
  have HC := Lib.hid hc
  obtain ⟨m, hm⟩ : ∃ m, m = zs.length := ⟨_, rfl⟩
  have HF := Lib.hid (show ∀ k, backP zs k = (m - 1 - k, zs[m - 1 - k]?.getD 0) from fun k => by rw [hm]; rfl)
  rw [← hm] at hreach hY HBS HC hB0 hxl
  have HY := Lib.hid hY
  have HXL := Lib.hid hxl
  have HXE := Lib.hid hxe
  clear hBs hc hm hY hxl hxe
  refine callsIn_of_wp Try.func69 rfl h8 ?_ hro
  simp only [Try.ntmps69, List.size_toArray, List.length_cons, List.length_nil, Nat.reduceAdd, Nat.reduceSub, Array.replicate_succ, Array.replicate_zero, List.push_toArray, List.append_toArray, List.nil_append, List.cons_append]
  gi_wp2
  gi_loopw [3] (fun i wr => ∃ (k r : Nat) (z : Int), k + r = m ∧ i = .int .i64 z ∧ z + 1 = (r : Int) ∧ J (xs.take k) wr ∧ Below n₀ W wr)
    (fun i _ => (intOf i + 1).toNat)
  case atStart => exact ⟨0, m, _, by omega, rfl, by omega, h0, Below.refl _ _⟩
  case round =>
    obtain ⟨k, r, z, hkr, rfl, hz, hJs, hnx⟩ := hrel
    cases r with
    | zero =>
      obtain rfl : z = -1 := by omega
      obtain rfl : k = m := by omega
      have HJ := Lib.hid hJs
      clear hJs hz hkr
      gi_wp2
      go_end0
      have HJ2 := HJ.out
      rw [List.take_of_length_le (by rw [HXL.out]; omega)] at HJ2
      exact ⟨⟨_, rfl⟩, .inl ⟨_, rfl, HJ2⟩⟩
    | succ r =>
      obtain rfl : z = (r : Int) := by omega
      have hlt : r < m := by omega
      have hB1 := HBS.out _ _ hJs
      have hcx : wr.cell? ⟨b, r, none⟩ = some (.int .i64 (zs[r]?.getD 0)) := (hnx.cell (p := ⟨b, r, none⟩) hb).trans (HC.out r hlt)
      obtain ⟨x, hx⟩ : ∃ x, xs[k]? = some x := ⟨_, List.getElem?_eq_getElem (by rw [HXL.out]; omega)⟩
      have hfk : en x = (r, zs[r]?.getD 0) := by rw [HXE.out k x hx, HF.out, show m - 1 - k = r by omega]
      obtain ⟨v, hv⟩ : ∃ v, v = zs[r]?.getD 0 := ⟨_, rfl⟩
      rw [← hv] at hcx hfk
      obtain ⟨fn, tmps, assign, body, hy, hR⟩ := HY.out _ x wr hJs (by rw [List.length_take, HXL.out]; omega)
      rw [hfk] at hy
      dsimp only at hy
      have HFK := Lib.hid (take_snoc_get hx)
      have HR := Lib.hid hR
      have hi0 : (0 : Int) ≤ (r : Int) := by omega
      have hi1 : (r : Int) < (m : Int) := by omega
      clear hJs hfk hR hv hz hx
      gi_wp2
      refine HR.out.mono ?_
      rintro e W3 (⟨rfl, hJ3, hk3⟩ | ⟨rfl, hJx3⟩)
      · gi_wp2
        go_roundw
        case rel => exact ⟨k + 1, r, _, by omega, rfl, by omega, by rw [HFK.out]; exact hJ3, hnx.trans hk3⟩
        case measure => simp [intOf]
      · gi_wp2
        refine bodyPost_ret (results_none rfl _ _ _) rfl ?_
        exact ⟨⟨_, rfl⟩, .inr ⟨_, by rw [← HFK.out]; exact List.take_prefix _ _, hJx3⟩⟩
set_option maxRecDepth 100000 in
set_option maxHeartbeats 1000000 in
theorem back1_nil {α : Type} (F : Fence) (n : Nat) (h8 : F.fn BACK) (hro : F.round = none) (l Bs : Nat) (J : List α → World → Prop) (W : World) (hBs : W.cell? ⟨Bs, 0, none⟩ = some (.slice none 0 0)) (h0 : J [] W) :
    CallsIn F n Try.prog BACK #[.func (.yield l) #[] #[], .pointer (some ⟨Bs, 0, none⟩)] W fun e W' => (∃ v, e = .returned v) ∧ J [] W' := by
  have HJ := Lib.hid h0
  clear h0
  refine callsIn_of_wp Try.func69 rfl h8 ?_ hro
  simp only [Try.ntmps69, List.size_toArray, List.length_cons, List.length_nil, Nat.reduceAdd, Nat.reduceSub, Array.replicate_succ, Array.replicate_zero, List.push_toArray, List.append_toArray, List.nil_append, List.cons_append]
  gi_wp2
  gi_loopw [3] (fun i wr => i = .int .i64 (-1) ∧ wr = W) (fun _ _ => 0)
  case atStart => exact ⟨rfl, rfl⟩
  case round =>
    obtain ⟨rfl, rfl⟩ := hrel
    gi_wp2
    go_end0
    exact ⟨⟨_, rfl⟩, HJ.out⟩
set_option maxHeartbeats 1000000 in
theorem back_in (F : Fence) (n : Nat) (h5 : F.fn 61) (hro : F.round = none) (a : Option Addr) (len cap : Nat) (w : World) :
    CallsIn F n Try.prog 61 #[.slice a len cap] w fun e w' => e = .returned (.func (.func BACK) #[] #[.pointer (some ⟨w.heap.size, 0, none⟩)]) ∧ w' = w.alloc (.cells #[.slice a len cap] 47) := by
  refine callsIn_of_wp Try.func61 rfl h5 ?_ hro
  simp only [Try.ntmps61, List.size_toArray, List.length_cons, List.length_nil, Nat.reduceAdd, Nat.reduceSub, Array.replicate_succ, Array.replicate_zero, List.push_toArray, List.append_toArray, List.nil_append, List.cons_append]
  gi_wp2
  go_ret
  exact ⟨rfl, rfl⟩
/-- A slice of numbers that reads below n₀. -/
def IntsAt (n₀ : Nat) (W : World) (sv : Value) (zs : List Int) : Prop :=
  (sv = .slice none 0 0 ∧ zs = []) ∨ ∃ b cap, sv = .slice (some ⟨b, 0, none⟩) zs.length cap ∧ b < n₀ ∧ ∀ j, j < zs.length → W.cell? ⟨b, j, none⟩ = some (.int .i64 (zs[j]?.getD 0))
theorem IntsAt.below {n₀ : Nat} {A B : World} (h : Below n₀ A B) {sv : Value} {zs : List Int} : IntsAt n₀ A sv zs → IntsAt n₀ B sv zs
  | .inl e => .inl e
  | .inr ⟨b, cap, e, hb, hc⟩ => .inr ⟨b, cap, e, hb, fun j hj => (h.cell (p := ⟨b, j, none⟩) hb).trans (hc j hj)⟩
theorem back_stops {α : Type} (en : α → Nat × Int) (xs : List α) (F : Fence) (n : Nat) (h8 : F.fn BACK) (hro : F.round = none) (hn : 1 ≤ n) (Bs n₀ : Nat) (sv : Value) (zs : List Int) (hreach : zs.length ≤ 1048576) (hxl : xs.length = zs.length) (hxe : ∀ (k : Nat) (x : α), xs[k]? = some x → en x = backP zs k) (w : World) (hBs : Bs < w.heap.size) (hn₀ : n₀ ≤ w.heap.size) (hBn : Bs < n₀)
    (hc : w.cell? ⟨Bs, 0, none⟩ = some sv) (hI : IntsAt n₀ w sv zs) :
    SeqStopsK F n Try.prog BACK #[.pointer (some ⟨Bs, 0, none⟩)] (fun x : α => #[Value.int .i64 ((en x).1 : Int), Value.int .i64 (en x).2]) (Below n₀) (fun ys => ys = xs)
      (fun pre => pre <+: xs) zs.length w := fun l J Jx W hW _ _ hY h0 => by
  have hc' := (hW.cell (p := ⟨Bs, 0, none⟩) hBs).trans hc
  rcases hI.below (hW.mono hn₀) with ⟨rfl, rfl⟩ | ⟨b, cap, rfl, hb, hcs⟩
  · obtain rfl : xs = [] := List.eq_nil_of_length_eq_zero hxl
    exact (back1_nil F n h8 hro l Bs J W hc' h0).mono fun e W' ⟨he, hj⟩ => ⟨he, .inl ⟨_, rfl, hj⟩⟩
  · refine (back1_in en xs F n h8 hro hn l Bs n₀ b cap zs hreach hxl hxe hb (fun pre W1 => J pre W1 ∧ Below n₀ W W1) Jx (fun pre x W1 hJ hl => ?_) W (fun pre W1 hJ => (hJ.2.cell (p := ⟨Bs, 0, none⟩) hBn).trans hc') hcs ⟨h0, Below.refl _ _⟩).mono ?_
    · obtain ⟨fn, tmps, assign, body, hy, hR⟩ := hY pre x W1 hJ.1 hl
      refine ⟨fn, tmps, assign, body, hy, hR.mono ?_⟩
      rintro e W' (⟨h1, h2, h3⟩ | h1)
      · exact .inl ⟨h1, ⟨h2, hJ.2.trans h3⟩, h3⟩
      · exact .inr h1
    · rintro e W' ⟨he, ⟨ys, h1, h2⟩ | h1⟩
      · exact ⟨he, .inl ⟨ys, h1, h2.1⟩⟩
      · exact ⟨he, .inr h1⟩
end Go.Proofs.Ytlbbjinkblgfiaa
