import Derived.Test.YtedhgdjlcddchaaRcB
import Derived.Test.YtedhgdjlcddchaaRaG
namespace Go.Proofs.Ytedhgdjlcddchaa
open Go.RowKit Go.Shelf
/-- A row of colours of which at least these are told. -/
def Row (w : World) (b n : Nat) (zs : List Int) : Prop := ∃ cur, Blk w b 50 cur ∧ n ≤ cur.size ∧ zs.length = n ∧ ∀ (j : Nat) (u : Int), zs[j]? = some u → cur[j]? = some (Value.int .u32 u)
theorem Row.next {w w' : World} {b n : Nat} {zs : List Int} (h : Row w b n zs) (hb : Below w.heap.size w w') : Row w' b n zs := by
  obtain ⟨cur, h1, h2⟩ := h
  exact ⟨cur, h1.next hb, h2⟩
theorem Row.drew {w : World} {b n : Nat} {zs : List Int} (h : Row w b n zs) : Row w.drew b n zs := h
theorem Row.lt {w : World} {b n : Nat} {zs : List Int} (h : Row w b n zs) : b < w.heap.size := by
  obtain ⟨cur, h1, _⟩ := h
  exact h1.lt
theorem Row.cell {w : World} {b n : Nat} {zs : List Int} (h : Row w b n zs) {j : Nat} {u : Int} (hu : zs[j]? = some u) : w.cell? ⟨b, j, none⟩ = some (.int .u32 u) ∧ w.frozen? ⟨b, j, none⟩ = false := by
  obtain ⟨cur, h1, _, _, h2⟩ := h
  exact ⟨h1.at_ (h2 j u hu), h1.frozen j⟩
theorem Row.set {w : World} {b n : Nat} {zs : List Int} (h : Row w b n zs) (i : Nat) (u : Int) : Row (w.setCell ⟨b, i, none⟩ (.int .u32 u)) b n (zs.set i u) := by
  obtain ⟨cur, h1, h2, h3, h4⟩ := h
  refine ⟨_, h1.set_ i _, by simpa using h2, by simpa using h3, fun j v hv => ?_⟩
  by_cases hij : i = j
  · subst hij
    have hlt : i < zs.length := by simpa using (List.getElem?_eq_some_iff.1 hv).1
    rw [List.getElem?_set_self hlt] at hv
    injection hv with hv
    rw [Array.getElem?_setIfInBounds_self_of_lt (by omega), hv]
  · rw [List.getElem?_set_ne hij] at hv
    rw [Array.getElem?_setIfInBounds_ne hij]
    exact h4 j v hv
theorem Row.far {w : World} {b n : Nat} {zs : List Int} (h : Row w b n zs) {p : Addr} (hp : b ≠ p.block) (u : Value) : Row (w.setCell p u) b n zs := by
  obtain ⟨cur, h1, h2⟩ := h
  exact ⟨cur, h1.far hp _, h2⟩
theorem Row.ne_ {w : World} {b n g : Nat} {zs : List Int} {t : TypeId} {cs : Array Value} (h : Row w b n zs) (hg : Blk w g t cs) (ht : t ≠ 50) : g ≠ b := by
  obtain ⟨cur, h1, _⟩ := h
  exact hg.ne_ h1 ht
theorem Row.rd {w : World} {b n c : Nat} {zs : List Int} (h : Row w b n zs) : Rd w (.slice (some ⟨b, 0, none⟩) n c) zs := by
  obtain ⟨cur, h1, _, h3, h4⟩ := h
  exact ⟨_, c, by rw [h3], fun j u hu => ⟨b, 0, rfl, h1.lt, by rw [Nat.zero_add]; exact h1.at_ (h4 j u hu)⟩⟩
/-- New, by the document's answer. -/
theorem rnew_no (a b col : Int) (w : World) (h : ¬ ((0 ≤ a ∧ a ≤ 1024) ∧ 0 ≤ b ∧ b ≤ 1024)) :
    Calls Try.prog 35 #[.int .i64 a, .int .i64 b, .int .u32 col] w fun e w' => e = .returned (.tuple #[.agg #[.int .i64 0, .int .i64 0, .slice none 0 0, .int .i64 0, .int .i64 0, .int .i64 0, .int .i64 0], .int .i64 1]) ∧ Below w.heap.size w w' := by
  have hcase : a < 0 ∨ (0 ≤ a ∧ 1024 < a) ∨ (0 ≤ a ∧ a ≤ 1024 ∧ b < 0) ∨ (0 ≤ a ∧ a ≤ 1024 ∧ 0 ≤ b ∧ 1024 < b) := by omega
  clear h
  rcases hcase with h1 | ⟨h1, h2⟩ | ⟨h1, h2, h3⟩ | ⟨h1, h2, h3, h4⟩
  all_goals
    go_enter Try.func35, Try.ntmps35
    go_wp2
    refine bodyPost_ret (v := .tuple #[.agg #[.int .i64 0, .int .i64 0, .slice none 0 0, .int .i64 0, .int .i64 0, .int .i64 0, .int .i64 0], .int .i64 1]) (by simp [results, Try.results35, go_sem]) rfl ?_
    exact ⟨rfl, by repeat' (first | (with_reducible exact Below.refl _ _) | (with_reducible assumption) | (with_reducible refine Below.alloc ?_ ?_ _) | (with_reducible refine Below.drew ?_) | (with_reducible refine Below.setCell ?_ ?_ _) | (with_reducible refine Below.on (by with_reducible assumption) ?_ ?_) | go_size)⟩
set_option maxRecDepth 100000 in
set_option maxHeartbeats 4000000 in
theorem rnew_yes (W H : Nat) (col : Int) (w : World) (hW : W ≤ 1024) (hH : H ≤ 1024) :
    Calls Try.prog 35 #[.int .i64 W, .int .i64 H, .int .u32 col] w fun e w' => ∃ b, e = .returned (.tuple #[.agg #[.int .i64 W, .int .i64 H, .slice (some ⟨b, 0, none⟩) (W * H) (W * H), .int .i64 0, .int .i64 0, .int .i64 W, .int .i64 H], .int .i64 0]) ∧
      Row w' b (W * H) (List.replicate (W * H) col) ∧ Below w.heap.size w w' := by
  obtain ⟨N, hN⟩ : ∃ N, N = W * H := ⟨_, rfl⟩
  have hNb : N ≤ 1048576 := by rw [hN]; exact Nat.le_trans (Nat.mul_le_mul hW hH) (by omega)
  have hWH : (W : Int) * (H : Int) = (N : Int) := by rw [hN, Int.natCast_mul]
  rw [← hN]
  clear hN
  obtain ⟨i0, hi, hz0, hz1, hz2⟩ := info_parts u32_info
  have hmk : ∀ W1 : World, (Instr.makeSlice 54 (.int .i64 N) (.int .i64 N)).run Try.prog W1 = .ok (.slice (some ⟨W1.heap.size, 0, none⟩) N N) (W1.alloc (.cells (half N 0 col).toArray 50)) := by
    intro W1
    have h := run_make (P := Try.prog) W1 54 50 i0 (.int .u32 0) Try.underlying54 hi hz0 .i64 .i64 N N (by omega) (by omega) (by rw [hz2]; omega) (by omega)
    rw [hz1, Int.toNat_natCast, half_none N col] at h
    exact h
  clear hi
  have n1 : ¬ ((W : Int) < 0) := by omega
  have n2 : ¬ ((1024 : Int) < W) := by omega
  have n3 : ¬ ((H : Int) < 0) := by omega
  have n4 : ¬ ((1024 : Int) < H) := by omega
  go_enter Try.func35, Try.ntmps35
  go_wp2
  have B0 : Blk ((w.alloc (.cells #[.int .i64 0, .int .i64 0, .slice none 0 0, .int .i64 0, .int .i64 0, .int .i64 0, .int .i64 0] 58)).alloc (.cells (half N 0 col).toArray 50)) (w.heap.size + 1) 50 (half N 0 col).toArray := by
    have h := Blk.new (w.alloc (.cells #[.int .i64 0, .int .i64 0, .slice none 0 0, .int .i64 0, .int .i64 0, .int .i64 0, .int .i64 0] 58)) 50 (half N 0 col).toArray
    simpa using h
  have R0 := (Blk.new w 58 #[.int .i64 0, .int .i64 0, .slice none 0 0, .int .i64 0, .int .i64 0, .int .i64 0, .int .i64 0]).alloc (.cells (half N 0 col).toArray 50)
  have hB : Below w.heap.size w ((w.alloc (.cells #[.int .i64 0, .int .i64 0, .slice none 0 0, .int .i64 0, .int .i64 0, .int .i64 0, .int .i64 0] 58)).alloc (.cells (half N 0 col).toArray 50)) := ((Below.refl _ w).alloc (Nat.le_refl _) _).alloc (by simp) _
  generalize (w.alloc (.cells #[.int .i64 0, .int .i64 0, .slice none 0 0, .int .i64 0, .int .i64 0, .int .i64 0, .int .i64 0] 58)).alloc (.cells (half N 0 col).toArray 50) = wa at B0 R0 hB ⊢
  go_loopw [9] (fun z wr => ∃ k : Nat, z = .int .i64 k ∧ k ≤ N ∧ Blk wr (w.heap.size + 1) 50 (half N k col).toArray ∧ Blk wr w.heap.size 58 #[.int .i64 0, .int .i64 0, .slice none 0 0, .int .i64 0, .int .i64 0, .int .i64 0, .int .i64 0] ∧ Below w.heap.size w wr) (fun z _ => N - (intOf z).toNat)
  case atStart => exact ⟨0, rfl, Nat.zero_le _, B0, R0, hB⟩
  case round =>
    obtain ⟨k, rfl, hk, B1, R1, hB1⟩ := hrel
    clear B0 R0 hB
    by_cases hlt : k < N
    · have hu : (half N k col).toArray[k]? = some (.int .u32 0) := by
        rw [List.getElem?_toArray]; unfold half
        rw [List.getElem?_append_right (by simp), List.length_replicate, Nat.sub_self, List.getElem?_replicate_of_lt (by omega)]
      have c0 := B1.at_ hu
      have f0 := B1.frozen k
      have hi0 : (0 : Int) ≤ (k : Int) := by omega
      have hi1 : (k : Int) < (N : Int) := by omega
      have B2 := B1.set_ k (.int .u32 col)
      have e : (half N k col).toArray.setIfInBounds k (.int .u32 col) = (half N (k + 1) col).toArray := by
        have h := half_splice N k 1 col
        rw [List.setIfInBounds_toArray]
        congr 1
        rw [← h]
        unfold splice
        rw [List.set_eq_take_append_cons_drop, if_pos (by rw [half_len N k col (by omega)]; exact hlt)]
        simp
      rw [e] at B2
      have R2 := R1.far (p := ⟨w.heap.size + 1, k, none⟩) (show w.heap.size ≠ w.heap.size + 1 by omega) (.int .u32 col)
      have hB2 := hB1.setCell (p := ⟨w.heap.size + 1, k, none⟩) (show w.heap.size ≤ w.heap.size + 1 by omega) (.int .u32 col)
      clear hu e B1 R1 hB1
      go_wp2
      go_roundw
      case rel => exact ⟨k + 1, by go_num, by omega, B2, R2, hB2⟩
      case measure => simp [intOf]; omega
    · obtain ⟨⟨z0, z1, z2, z3, z4, z5, z6⟩, f0, f1, f2, f3, f4, f5, f6⟩ := R1.c7
      have hkN : k = N := by omega
      have HR : Row wr (w.heap.size + 1) N (List.replicate N col) := ⟨_, B1, by rw [hkN]; simp [half_len], by simp, fun j u hu => by
        rw [hkN, half_full, colA_get, hu]; rfl⟩
      clear hkN B1
      go_wp2
      refine bodyPost_ret (v := .tuple #[.agg #[.int .i64 W, .int .i64 H, .slice (some ⟨w.heap.size + 1, 0, none⟩) N N, .int .i64 0, .int .i64 0, .int .i64 W, .int .i64 H], .int .i64 0]) (by simp [results, Try.results35, go_sem, *]) rfl ?_
      refine ⟨_, rfl, ?_, ?_⟩
      · exact (((((((HR.far (p := ⟨w.heap.size, 0, none⟩) (by show w.heap.size + 1 ≠ w.heap.size; omega) _).far (p := ⟨w.heap.size, 1, none⟩) (by show w.heap.size + 1 ≠ w.heap.size; omega) _).far (p := ⟨w.heap.size, 2, none⟩) (by show w.heap.size + 1 ≠ w.heap.size; omega) _).far (p := ⟨w.heap.size, 3, none⟩) (by show w.heap.size + 1 ≠ w.heap.size; omega) _).far (p := ⟨w.heap.size, 4, none⟩) (by show w.heap.size + 1 ≠ w.heap.size; omega) _).far (p := ⟨w.heap.size, 5, none⟩) (by show w.heap.size + 1 ≠ w.heap.size; omega) _).far (p := ⟨w.heap.size, 6, none⟩) (by show w.heap.size + 1 ≠ w.heap.size; omega) _)
      · repeat' (first | (with_reducible exact Below.refl _ _) | (with_reducible assumption) | (with_reducible refine Below.alloc ?_ ?_ _) | (with_reducible refine Below.drew ?_) | (with_reducible refine Below.setCell ?_ ?_ _) | (with_reducible refine Below.on (by with_reducible assumption) ?_ ?_) | go_size)
end Go.Proofs.Ytedhgdjlcddchaa
