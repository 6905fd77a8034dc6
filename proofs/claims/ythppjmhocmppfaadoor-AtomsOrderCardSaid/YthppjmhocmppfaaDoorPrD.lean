/- Data of both. -/
import Derived.Test.YthppjmhocmppfaaDoorPrM
import Derived.Laws.BytesArg
namespace Go.Proofs.YthppjmhocmppfaaDoor
open Go.RowKit Go.Maps
/-- Its lowest 32 bits as four bytes. -/
def byt4 (n : Int) : List Int := [n % 256, n / 256 % 256, n / 65536 % 256, n / 16777216 % 256]
def dataL (xs : List Int) : List Int := xs.flatMap byt4
theorem dataL_len (xs : List Int) : (dataL xs).length = 4 * xs.length := by
  induction xs with
  | nil => rfl
  | cons x t ih =>
    unfold dataL at ih ⊢
    rw [List.flatMap_cons, List.length_append, ih]
    simp [byt4]; omega
theorem dataL_snoc {xs : List Int} {k : Nat} {n : Int} (h : xs[k]? = some n) : dataL (xs.take (k + 1)) = dataL (xs.take k) ++ byt4 n := by
  unfold dataL
  rw [List.take_add_one, h, List.flatMap_append]
  simp
theorem own_text {w : World} {B : Nat} {v : Value} {zs : List Int} (h : w.ownsRow B 5 1 v (byts zs).length (byts zs)) : (convert 55 9 v).run Tryd.prog w = .ok (.string (strOfNums zs)) w := by
  rw [List.length_map] at h
  have h0 := h
  obtain ⟨hlen, h1⟩ := h
  rcases h1 with ⟨rfl, hn⟩ | ⟨g, cap, cur, rfl, -, hg, hnc, hcm, hcs, ht⟩
  · obtain rfl : zs = [] := List.eq_nil_of_length_eq_zero hn
    exact run_convert_bytes_nil w _ _ Tryd.underlying55 Tryd.underlying5 _ _ _ Tryd.underlying9
  · refine run_convert_bytes_arg w _ _ Tryd.underlying55 Tryd.underlying5 g 0 zs.length cap zs rfl (fun i hi => ?_) _ Tryd.underlying9
    rw [Nat.zero_add, World.ownsRow.cellAt h0 i (by omega), List.getElem?_map, List.getElem?_eq_getElem hi]
    simp [List.getD, List.getElem?_eq_getElem hi]
set_option maxRecDepth 100000 in
set_option maxHeartbeats 4000000 in
theorem data_c (va : Value) (xs : List Int) (w : World) (ha : Rd w va (ints xs)) (hl : xs.length ≤ 1048576) : Calls Tryd.prog 26 #[va] w fun e w' => e = .returned (.string (strOfNums (dataL xs))) ∧ Below w.heap.size w w' := by
  obtain ⟨i0, hi0, hz0, hz1, hz2⟩ := info_parts byteInfo
  obtain ⟨p, c, rfl, ha⟩ := ha
  have ha' := fun (k : Nat) (u : Int) (hu : xs[k]? = some u) => ha k (.int .i64 u) (by rw [List.getElem?_map, hu]; rfl)
  have HA := Lib.hid ha'
  obtain ⟨n, hn⟩ : ∃ n, n = xs.length := ⟨_, rfl⟩
  rw [← hn] at hl
  rw [show (ints xs).length = n by rw [hn]; simp]
  have HN := Lib.hid hn
  have hmk : ∀ W : World, (Instr.makeSlice 55 (.int .i64 0) (.int .i64 ((n : Int) * 4))).run Tryd.prog W = .ok (.slice (some ⟨W.heap.size, 0, none⟩) 0 (n * 4)) (W.alloc (.cells (madeCells #[.int .u8 0] (n * 4)) 5)) := by
    intro W
    have h := run_make (P := Tryd.prog) W 55 5 i0 (.int .u8 0) Tryd.underlying55 hi0 hz0 .i64 .i64 0 ((n : Int) * 4) (by omega) (by omega) (by rw [hz2]; omega) (by omega)
    rw [hz1, show ((n : Int) * 4).toNat = n * 4 by omega, Nat.mul_one] at h
    exact h
  clear ha ha' hn
  go_enter Tryd.func26, Tryd.ntmps26
  go_wp2_with fail
  go_loopw [3, 12] (fun v y wr => ∃ k : Nat, k ≤ n ∧ y = .int .i64 k ∧ Gi 5 w wr v (byts (dataL (xs.take k)))) (fun _ y _ => n - (intOf y).toNat)
  case atStart =>
    exact ⟨0, Nat.zero_le _, rfl, World.ownsRow_made _ _ _ (Nat.le_refl _) (by unfold maxLen; omega) (by rw [size_madeCells]; simp), (Below.refl _ _).alloc (Nat.le_refl _) _⟩
  case round =>
    obtain ⟨k, hk, rfl, hG⟩ := hrel
    have HG := Lib.hid hG
    have HKL := Lib.hid (show (byts (dataL (xs.take k))).length = 4 * k by rw [List.length_map, dataL_len, List.length_take, ← HN.out]; omega)
    have hi0' : (0 : Int) ≤ (k : Int) := by omega
    clear hG
    by_cases hlt : k < n
    · have hi1 : (k : Int) < (n : Int) := by omega
      obtain ⟨x, hx⟩ : ∃ x, xs[k]? = some x := ⟨_, List.getElem?_eq_getElem (by rw [← HN.out]; exact hlt)⟩
      obtain ⟨b, o, rfl, hb, hc⟩ := HA.out k x hx
      have hc0 := (HG.out.2.cell (p := ⟨b, o + k, none⟩) hb).trans hc
      have HSN := Lib.hid (dataL_snoc hx)
      clear hx hc hb
      go_wp2_with (at_builtin; go_loud (refine wpList_append_own_at _ rfl (.tmp 16) (.tmp 28) 55 rfl w.heap.size 5 i0 (.int .u8 0) 1 1 Tryd.underlying55 hi0 hz0 hz1 hz2 rfl (by decide) _ _ _ rfl (World.ownsRow.alloc HG.out.1 _) ⟨_, 0, none⟩ 4 4 (byts (byt4 x)) rfl rfl (cell_list_at _ _ (byts (byt4 x)) _ rfl) (one_byts _) (by unfold maxLen; have := HKL.out; omega) (by have := HKL.out; omega) (by have := HG.out.2.size; simp; omega) ?_; intro v3 w3 ho3 hg3 _ _; have HP := Lib.hid (Gi.put (us := byts (byt4 x)) HG.out ho3 hg3); clear ho3 hg3))
      go_roundw
      case rel => exact ⟨k + 1, by omega, by go_num, by rw [HSN.out, byts, List.map_append]; exact HP.out⟩
      case measure => simp [intOf]; omega
    · obtain rfl : k = n := by omega
      have hi1 : ¬ (k : Int) < (k : Int) := by omega
      have HT := Lib.hid (show xs.take k = xs from List.take_of_length_le (by rw [← HN.out]; exact Nat.le_refl _))
      have HGB := Lib.hid HG.out.2
      have hcv := own_text HG.out.1
      rw [HT.out] at hcv
      go_wp2_with fail
      go_ret
      exact ⟨rfl, HGB.out⟩
def uAt (x : Int) : Nat → Int
  | 0 => x % 4294967296
  | j + 1 => uAt x j / 256
theorem uAt_in (x : Int) : ∀ j, 0 ≤ uAt x j ∧ uAt x j < 4294967296
  | 0 => by unfold uAt; omega
  | j + 1 => by have := uAt_in x j; unfold uAt; omega
theorem byt4_at (x : Int) {j : Nat} (h : j < 4) : (byt4 x)[j]? = some (uAt x j % 256) := by
  match j, h with
  | 0, _ => simp [byt4, uAt]
  | 1, _ => simp [byt4, uAt]; omega
  | 2, _ => simp [byt4, uAt]; omega
  | 3, _ => simp [byt4, uAt]; omega
theorem take_snoc4 (x : Int) {j : Nat} (h : j < 4) : (byt4 x).take (j + 1) = (byt4 x).take j ++ [uAt x j % 256] := by
  rw [List.take_add_one, byt4_at x h]; rfl
end Go.Proofs.YthppjmhocmppfaaDoor
