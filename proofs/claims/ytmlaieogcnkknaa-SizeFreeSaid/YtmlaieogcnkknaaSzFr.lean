/- SizeFree, walked. -/
import Derived.Test.YtmlaieogcnkknaaSzQ
import Derived.Test.YtmlaieogcnkknaaSzDc
import Derived.Test.YtmlaieogcnkknaaPrQ
namespace Go.Proofs.Ytmlaieogcnkknaa
open Go.RowKit
namespace Sz
abbrev freeL (a b : Int) : List Int := [16, 0, 0, 0, 0, a, b, 0, 0, 0, 0, 0, 0, 0, 0, 0, 0, 0]
theorem free_dec (a b : Int) : decH (fun j => (freeL a b).getD j 0) = ⟨a, b, 0, 0, a, b, 1, 1, 0, 0, 0, 0⟩ := by
  have e1 : bitI 16 16 = true := by decide
  have e2 : bitI 16 256 = false := by decide
  have e3 : bitI 16 32 = false := by decide
  have e4 : bitI 16 64 = false := by decide
  have e5 : bitI 16 128 = false := by decide
  unfold decH
  simp [freeL, e1, e2, e3, e4, e5]
abbrev rowF (x0 x5 x6 : Int) : Array Value := #[.int .i64 x0, .int .i64 0, .int .i64 0, .int .i64 0, .int .i64 0, .int .i64 x5, .int .i64 x6, .int .i64 0, .int .i64 0, .int .i64 0, .int .i64 0, .int .i64 0, .int .i64 0, .int .i64 0, .int .i64 0, .int .i64 0, .int .i64 0, .int .i64 0]
theorem rd_row {W : World} {g : Nat} {a b : Int} (h : Blk W g 3 (rowF 16 a b)) : _root_.Go.Proofs.Ytmlaieogcnkknaa.Rd W (.slice (some ⟨g, 0, none⟩) 18 18) (ints (freeL a b)) := by
  refine ⟨_, 18, rfl, fun j u hu => ⟨g, 0, rfl, h.lt, ?_⟩⟩
  rw [Nat.zero_add, h.cell j]
  have e : (ints (freeL a b)).toArray = rowF 16 a b := rfl
  rw [← e]
  simpa using hu
set_option maxRecDepth 100000 in
set_option maxHeartbeats 4000000 in
theorem free_w (a b x t : Int) (w : World) (ha : (Lit.int .u16 a).wf = true) (hb : (Lit.int .u16 b).wf = true) (hx : (Lit.int .u16 x).wf = true) (ht : (Lit.int .u16 t).wf = true) : Calls Try.prog 9 #[.int .u16 a, .int .u16 b, .int .u16 x, .int .u16 t] w fun e w' => e = .returned (.bool true) ∧ Below w.heap.size w w' := by
  obtain ⟨a1, a2⟩ := u16_b ha
  obtain ⟨b1, b2⟩ := u16_b hb
  obtain ⟨x1, x2⟩ := u16_b hx
  obtain ⟨t1, t2⟩ := u16_b ht
  have f1 : IntKind.i64.wrap a = a := IntWalk.i64_in _ (by omega)
  have f2 : IntKind.i64.wrap b = b := IntWalk.i64_in _ (by omega)
  have f3 : IntKind.i64.wrap x = x := IntWalk.i64_in _ (by omega)
  have f4 : IntKind.i64.wrap t = t := IntWalk.i64_in _ (by omega)
  have H1 := Lib.hid (fun W : World => (fit_c ⟨a, b, 0, 0, 0, 0, 0, 0, 0, 0, 0, 0⟩ x t W).mono (R' := fun e w' => e = .returned (.tuple #[.int .i64 (max (max 1 a) x), .int .i64 (max (max 1 b) t)]) ∧ Below W.heap.size W w') (by rintro e w1 ⟨n, u, v, rfl, hn, hf, hb⟩; obtain ⟨rfl, rfl⟩ := free_fit a1 a2 b1 b2 x1 x2 t1 t2 hn hf; exact ⟨rfl, hb⟩))
  have hmk : ∀ W : World, (Instr.makeSlice 34 (.int .i64 18) (.int .i64 18)).run Try.prog W = .ok (.slice (some ⟨W.heap.size, 0, none⟩) 18 18) (W.alloc (.cells (rowF 0 0 0) 3)) := by
    intro W
    have h := run_make_row' (P := Try.prog) 34 3 (.int .i64 0) 8 Try.underlying34 intInfo rfl .i64 .i64 18 (by omega) (by omega) W
    rw [made_eq] at h
    exact h
  obtain ⟨s, hs⟩ : ∃ s, strOfNums (dataL (freeL a b)) = s := ⟨_, rfl⟩
  have hns : numsL s = freeL a b := by
    rw [← hs]
    refine nums_data (fun y hy => ?_)
    simp [freeL] at hy
    omega
  have hsz : s.size = 72 := by
    rw [← hs, strOfNums_size, dataL_len]
    rfl
  have HD := Lib.hid (fun W : World => decode_yes s W (by omega) (by omega) (by omega))
  rw [hns, free_dec] at HD
  have HDa := Lib.hid (fun (W : World) (va : Value) (h : _root_.Go.Proofs.Ytmlaieogcnkknaa.Rd W va (ints (freeL a b))) => data_c va (freeL a b) W h (by show 18 ≤ 1048576; omega))
  rw [hs] at HDa
  clear hs hns hsz ha hb hx ht
  go_enter Try.func9, Try.ntmps9
  go_upto_region 2 with (go_at_call 16; ((with_reducible refine (H1.out _).mono ?_); rintro e w1 ⟨rfl, hb1⟩); skip)
  go_upto_region 4 with fail
  have W1 := hb1
  have R0 := rd_row (Blk.new w1 3 (rowF 16 a b))
  have a2' : Below w1.heap.size w1 (w1.alloc (.cells (rowF 16 a b) 3)) := (Below.refl _ _).alloc (Nat.le_refl _) _
  have W2 := bnext W1 a2' W1.size
  clear a2' hb1 W1
  generalize w1.alloc (.cells (rowF 16 a b) 3) = w2 at *
  generalize w1.heap.size = g at *
  go_upto_region 5 with first
    | (go_at_call 20; ((with_reducible refine (HDa.out _ _ R0).mono ?_); rintro e w3 ⟨rfl, hb3⟩); have W3 := bnext W2 hb3 W2.size)
    | (go_at_call 10; ((with_reducible refine (HD.out _).mono ?_); rintro e w4 ⟨rfl, hb4⟩); have W4 := bnext W3 hb4 W3.size)
  have B5 := HB.new w4 ⟨a, b, 0, 0, a, b, 1, 1, 0, 0, 0, 0⟩
  have W5 : Below w.heap.size w (w4.alloc (.cells (#[.int .i64 a, .int .i64 b, .int .i64 0, .int .i64 0, .int .i64 a, .int .i64 b, .int .i64 1, .int .i64 1, .int .i64 0, .int .i64 0, .int .i64 0, .int .i64 0]) 23)) := W4.alloc W4.size _
  clear W4 W3 W2 R0 hb3 hb4
  generalize w4.alloc (.cells (#[.int .i64 a, .int .i64 b, .int .i64 0, .int .i64 0, .int .i64 a, .int .i64 b, .int .i64 1, .int .i64 1, .int .i64 0, .int .i64 0, .int .i64 0, .int .i64 0]) 23) = w5 at *
  generalize w4.heap.size = g5 at *
  obtain ⟨⟨k0, k1, k2, k3, k4, k5, k6, k7, k8, k9, k10, k11⟩, ⟨kf0, kf1, kf2, kf3, kf4, kf5, kf6, kf7, kf8, kf9, kf10, kf11⟩⟩ := B5.out
  clear HD HDa H1
  go_wp2_with (go_at_call 12; ((with_reducible refine (awake_c _).mono ?_); rintro e w6 ⟨rfl, hb6⟩); have W6 := bnext W5 hb6 W5.size)
  all_goals (go_ret; exact ⟨by first | rfl | exact ret_bool (by simp <;> omega), by first | exact W6 | exact W5⟩)
end Sz
end Go.Proofs.Ytmlaieogcnkknaa
