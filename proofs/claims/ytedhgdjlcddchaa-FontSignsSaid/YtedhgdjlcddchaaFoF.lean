import Derived.Test.YtedhgdjlcddchaaFoD
import Derived.Test.YtedhgdjlcddchaaRaF
import Derived.LoopTactic
import Derived.Deep.QuietTactic
import Derived.BigQuiet
namespace Go.Proofs.Ytedhgdjlcddchaa
open Go.RowKit Go.Shelf
theorem on_bits {b u : Nat} (hb : b < 256) (hu : u < 8) : (bits .and .u8 (b : Int) (128 / 2 ^ u) != 0) = onB b u := by
  have e : (128 / 2 ^ u : Int) = ((128 / 2 ^ u : Nat) : Int) := by rw [Int.natCast_ediv, Int.natCast_pow]; rfl
  have hl : 128 / 2 ^ u ≤ 128 := Nat.div_le_self _ _
  rw [e, u8_and_nat _ _ hb (by omega)]
  have h := on_and hb hu
  generalize b &&& 128 / 2 ^ u = q at h
  cases ho : onB b u
  · rw [h.2 ho]; rfl
  · have : q ≠ 0 := fun hq => by rw [h.1 hq] at ho; cases ho
    simp; omega
def planeP (x y : Int) : Bool := decide (-32768 ≤ x ∧ x ≤ 32767) && decide (-32768 ≤ y ∧ y ≤ 32767)
theorem fonPlane_c (x y : Int) (w : World) : Calls Try.prog 66 #[.agg #[.int .i64 x, .int .i64 y]] w fun e w' => e = .returned (.bool (planeP x y)) ∧ Below w.heap.size w w' := by
  unfold planeP
  by_cases h1 : -32768 ≤ x ∧ x ≤ 32767
  · have hs : spanI x (-32768) 32767 = x := by unfold spanI; omega
    by_cases h2 : -32768 ≤ y ∧ y ≤ 32767
    · have hs2 : spanI y (-32768) 32767 = y := by unfold spanI; omega
      rw [decide_eq_true h1, decide_eq_true h2]
      clear h1 h2
      go_enter Try.func66, Try.ntmps66
      go_wp2_with fail
      go_quiet ((go_at_call 92; exact Calls.quiet_of_same ((clamp_c _ _).mono fun e w' h => ⟨h.1, h.2.symm⟩)))
      go_wp2_with fail
      go_ret
      exact ⟨rfl, below_drewN (by repeat' (first | (with_reducible exact Below.refl _ _) | (with_reducible assumption) | (with_reducible refine Below.alloc ?_ ?_ _) | (with_reducible refine Below.drew ?_) | (with_reducible refine Below.setCell ?_ ?_ _) | (with_reducible refine Below.on (by with_reducible assumption) ?_ ?_) | go_size)) _⟩
    · have hs2 : (y == spanI y (-32768) 32767) = false := by rw [beq_eq_false_iff_ne]; unfold spanI; omega
      rw [decide_eq_true h1, decide_eq_false h2]
      clear h1 h2
      go_enter Try.func66, Try.ntmps66
      go_wp2_with fail
      go_quiet ((go_at_call 92; exact Calls.quiet_of_same ((clamp_c _ _).mono fun e w' h => ⟨h.1, h.2.symm⟩)))
      go_wp2_with fail
      go_ret
      exact ⟨rfl, below_drewN (by repeat' (first | (with_reducible exact Below.refl _ _) | (with_reducible assumption) | (with_reducible refine Below.alloc ?_ ?_ _) | (with_reducible refine Below.drew ?_) | (with_reducible refine Below.setCell ?_ ?_ _) | (with_reducible refine Below.on (by with_reducible assumption) ?_ ?_) | go_size)) _⟩
  · have hs : (x == spanI x (-32768) 32767) = false := by rw [beq_eq_false_iff_ne]; unfold spanI; omega
    rw [decide_eq_false h1]
    clear h1
    go_enter Try.func66, Try.ntmps66
    go_wp2_with fail
    go_quiet ((go_at_call 92; exact Calls.quiet_of_same ((clamp_c _ _).mono fun e w' h => ⟨h.1, h.2.symm⟩)))
    go_wp2_with fail
    go_ret
    exact ⟨rfl, below_drewN (by repeat' (first | (with_reducible exact Below.refl _ _) | (with_reducible assumption) | (with_reducible refine Below.alloc ?_ ?_ _) | (with_reducible refine Below.drew ?_) | (with_reducible refine Below.setCell ?_ ?_ _) | (with_reducible refine Below.on (by with_reducible assumption) ?_ ?_) | go_size)) _⟩
/-- One place painted. -/
def fillP (W : Nat) (c : Rc) (col x y : Int) (pix : List Int) : List Int := pnt W (fun i j => hasB x y 1 1 i j && hasB c.x c.y c.w c.h i j) (fun _ _ _ => col) pix
/-- The first places of a row of a sign. -/
def cellsP (W : Nat) (c : Rc) (col x y : Int) (b : Nat) (pix : List Int) : Nat → List Int
  | 0 => pix
  | n + 1 => if onB b n = true then fillP W c col (x + n) y (cellsP W c col x y b pix n) else cellsP W c col x y b pix n
/-- The first rows of a sign. -/
def rowsP (W : Nat) (c : Rc) (col x y : Int) (s : Nat) (pix : List Int) : Nat → List Int
  | 0 => pix
  | n + 1 => cellsP W c col x (y + n) (bitN s n) (rowsP W c col x y s pix n) 8
def sgn (s : ByteArray) (k : Nat) : Nat := if h : k < s.size then s[k].toNat else 0
/-- The first signs of a text. -/
def textP (W : Nat) (c : Rc) (col x y : Int) (s : ByteArray) (pix : List Int) : Nat → List Int
  | 0 => pix
  | n + 1 => rowsP W c col (x + 8 * n) y (sgn s n) (textP W c col x y s pix n) 16
/-- What a text's canvas keeps. -/
def Sgn (w0 : World) (g : Nat) (A : Option Nat) (W H : Nat) (c : Rc) (n0 : Nat) (x y : Int) (pix : List Int) (wx : World) : Prop :=
  Canv wx g A W H c pix ∧ Blk wx n0 32 #[.int .i64 x, .int .i64 y] ∧ w0.grownBy wx A ∧ some n0 ≠ A ∧ w0.heap.size ≤ n0
section
variable {w0 wx w1 : World} {g W H : Nat} {A : Option Nat} {c : Rc} {pix pix' : List Int} {n0 : Nat} {x y : Int}
theorem Sgn.step (h : Sgn w0 g A W H c n0 x y pix wx) (hC : Canv w1 g A W H c pix') (hg : wx.grownBy w1 A) : Sgn w0 g A W H c n0 x y pix' w1 :=
  ⟨hC, h.2.1.grown hg h.2.2.2.1, only_trans h.2.2.1 hg, h.2.2.2⟩
theorem Sgn.drewN (h : Sgn w0 g A W H c n0 x y pix wx) (n : Nat) : Sgn w0 g A W H c n0 x y pix (wx.drewN n) :=
  ⟨h.1, h.2.1.drewN n, only_drewN h.2.2.1 n, h.2.2.2⟩
theorem Sgn.next (h : Sgn w0 g A W H c n0 x y pix wx) (hb : Below wx.heap.size wx w1) : Sgn w0 g A W H c n0 x y pix w1 :=
  ⟨h.1.next hb, h.2.1.next hb, only_next h.2.2.1 hb, h.2.2.2⟩
theorem Sgn.to (h : Sgn w0 g A W H c n0 x y pix wx) (e : pix = pix') : Sgn w0 g A W H c n0 x y pix' wx := e ▸ h
end
set_option maxHeartbeats 2000000 in
theorem sign_c (g : Nat) (A : Option Nat) (W H : Nat) (c : Rc) (pix : List Int) (x y : Int) (s : Nat) (col : Int) (w : World) (hC : Canv w g A W H c pix) (hcol : 0 ≤ col ∧ col < 4294967296) (hs : s < 256)
    (hx : -1000000 ≤ x ∧ x ≤ 1000000) (hy : -1000000 ≤ y ∧ y ≤ 1000000) :
    Calls Try.prog 67 #[.pointer (some ⟨g, 0, none⟩), .agg #[.int .i64 x, .int .i64 y], .int .u8 s, .int .u32 col] w fun e' w' => e' = .returned (.tuple #[]) ∧
      Canv w' g A W H c (rowsP W c col x y s pix 16) ∧ w.grownBy w' A := by
  have P0 : Sgn w g A W H c w.heap.size x y pix (w.alloc (.cells #[.int .i64 x, .int .i64 y] 32)) :=
    ⟨hC.alloc _, Blk.new _ _ _, only_alloc (only_refl _ _) _, hC.box (Nat.le_refl _), Nat.le_refl _⟩
  have hgl := hC.lt
  clear hC
  obtain ⟨hx1, hx2⟩ := hx
  obtain ⟨hy1, hy2⟩ := hy
  go_enter Try.func67, Try.ntmps67
  go_wp2_with fail
  go_loopw [11] (fun z wr => ∃ k : Nat, k ≤ 16 ∧ z = .int .i64 k ∧ Sgn w g A W H c w.heap.size x y (rowsP W c col x y s pix k) wr) (fun z _ => 16 - (intOf z).toNat)
  case atStart => exact ⟨0, Nat.zero_le _, rfl, P0⟩
  case round =>
    obtain ⟨k, hk, rfl, P1⟩ := hrel
    by_cases hlt : k < 16
    · have hB : ∀ W, Calls Try.prog 28 #[.int .u8 s, .int .i64 k] W fun e w' => e = .returned (.int .u8 (bitN s k : Nat)) ∧ W = w' := fun W => by
        have h := bits_c s k W (by omega) (by omega)
        rw [show bitI s k = bitN s k by unfold bitI; rw [if_neg (by omega), Int.toNat_natCast, Int.toNat_natCast]] at h
        exact h
      have HB := Lib.hid hB
      clear hB P0
      obtain ⟨hb1, hb2⟩ := bit_lt s k
      clear hb2
      have HR := Lib.hid (show rowsP W c col x y s pix (k + 1) = cellsP W c col x (y + k) (bitN s k) (rowsP W c col x y s pix k) 8 from rfl)
      generalize rowsP W c col x y s pix k = pk at P1 HR
      generalize bitN s k = bt at hb1 HB HR
      go_wp2_with (go_at_call 28; refine (HB.out _).mono ?_; rintro e w1 ⟨rfl, rfl⟩)
      go_loopw [17] (fun z wr => ∃ u : Nat, u ≤ 8 ∧ z = .int .i64 u ∧ Sgn w g A W H c w.heap.size x y (cellsP W c col x (y + k) bt pk u) wr) (fun z _ => 8 - (intOf z).toNat)
      case atStart => exact ⟨0, Nat.zero_le _, rfl, P1⟩
      case round =>
        obtain ⟨u, hu, rfl, P2⟩ := hrel
        by_cases hlu : u < 8
        · obtain ⟨⟨c0, c1⟩, _⟩ := P2.2.1.c2
          have hq : (bits .and .u8 (bt : Int) (128 / 2 ^ u) != 0) = onB bt u := on_bits (by omega) hlu
          have HC := Lib.hid (show cellsP W c col x (y + k) bt pk (u + 1) = if onB bt u = true then fillP W c col (x + u) (y + k) (cellsP W c col x (y + k) bt pk u) else cellsP W c col x (y + k) bt pk u from rfl)
          generalize cellsP W c col x (y + k) bt pk u = pc at P2 HC
          clear P1
          by_cases ho : onB bt u = true
          · rw [ho] at hq
            have HD := Lib.hid (HC.out.trans (if_pos ho))
            clear ho HC
            go_wp2_with (go_at_call 93; refine (fill_c g A W H c pc (x + u) (y + k) 1 1 col _ P2.1 hcol).mono ?_; rintro e1 w1 ⟨rfl, hC1, hg1⟩; have P3 := P2.step hC1 hg1; clear c0 c1 P2 hC1 hg1)
            go_roundw
            case rel => exact ⟨u + 1, by omega, by go_num, P3.to HD.out.symm⟩
            case measure => simp [intOf]; omega
          · have HD := Lib.hid (HC.out.trans (if_neg ho))
            rw [Bool.not_eq_true] at ho
            rw [ho] at hq
            clear ho HC
            go_wp2_with fail
            go_roundw
            case rel => exact ⟨u + 1, by omega, by go_num, P2.to HD.out.symm⟩
            case measure => simp [intOf]; omega
        · obtain rfl : u = 8 := by omega
          clear P1
          go_wp2_with fail
          go_roundw
          case rel => exact ⟨k + 1, by omega, by go_num, P2.to HR.out.symm⟩
          case measure => simp [intOf]; omega
    · obtain rfl : k = 16 := by omega
      clear P0
      go_wp2_with fail
      go_end0
      exact ⟨rfl, P1.1, P1.2.2.1⟩
/-- How many signs of a text are painted. -/
def Upto (x : Int) (n N : Nat) : Prop := N ≤ n ∧ N ≤ 1024 ∧ (∀ i : Nat, i < N → x + 8 * i ≤ 32767) ∧ (N = n ∨ N = 1024 ∨ 32767 < x + 8 * N)
theorem upto_ex {x : Int} (h : x ≤ 32767) (n : Nat) : ∃ N, Upto x n N := by
  refine ⟨min (min n 1024) (((32767 - x) / 8).toNat + 1), by omega, by omega, fun i hi => by omega, ?_⟩
  by_cases h1 : n ≤ ((32767 - x) / 8).toNat + 1
  · by_cases h2 : n ≤ 1024
    · left; omega
    · right; left; omega
  · by_cases h2 : 1024 ≤ ((32767 - x) / 8).toNat + 1
    · right; left; omega
    · right; right; omega
theorem sgn_eq {s : ByteArray} {k : Nat} (h : k < s.size) : ((s[k].toNat : Nat) : Int) = ((sgn s k : Nat) : Int) := by unfold sgn; rw [dif_pos h]
theorem sgn_lt (s : ByteArray) (k : Nat) : sgn s k < 256 := by
  unfold sgn
  split
  · exact UInt8.toNat_lt _
  · omega
set_option maxHeartbeats 2000000 in
theorem draw_c (g : Nat) (A : Option Nat) (W H : Nat) (c : Rc) (pix : List Int) (x y col : Int) (s : ByteArray) (N : Nat) (w : World) (hC : Canv w g A W H c pix) (hcol : 0 ≤ col ∧ col < 4294967296)
    (hs : s.size ≤ 140737488355328) (hp : planeP x y = true) (hN : Upto x s.size N) :
    Calls Try.prog 37 #[.pointer (some ⟨g, 0, none⟩), .agg #[.int .i64 x, .int .i64 y], .string s, .int .u32 col] w fun e' w' => e' = .returned (.tuple #[]) ∧
      Canv w' g A W H c (textP W c col x y s pix N) ∧ w.grownBy w' A := by
  have P0 : Sgn w g A W H c w.heap.size x y pix (w.alloc (.cells #[.int .i64 x, .int .i64 y] 32)) :=
    ⟨hC.alloc _, Blk.new _ _ _, only_alloc (only_refl _ _) _, hC.box (Nat.le_refl _), Nat.le_refl _⟩
  have hgl := hC.lt
  have hO := fun W => fonPlane_c x y W
  rw [hp] at hO
  have HO := Lib.hid hO
  have hxy : (-32768 ≤ x ∧ x ≤ 32767) ∧ (-32768 ≤ y ∧ y ≤ 32767) := by unfold planeP at hp; simpa using hp
  obtain ⟨⟨x1, x2⟩, y1, y2⟩ := hxy
  obtain ⟨n1, n2, n3, n4⟩ := hN
  have HN3 := Lib.hid n3
  have HN4 := Lib.hid n4
  obtain ⟨M, hM⟩ : ∃ M : Nat, min (s.size : Int) 1024 = (M : Int) := ⟨min s.size 1024, by omega⟩
  have m1 : M ≤ s.size := by omega
  have m2 : M ≤ 1024 := by omega
  have m3 : N ≤ M := by omega
  clear hC hO hp n3 n4
  go_enter Try.func37, Try.ntmps37
  go_wp2_with (go_at_call 66; refine (HO.out _).mono ?_; rintro e w1 ⟨rfl, hb⟩; have P1 := P0.next hb; clear hb P0)
  go_loopw [16] (fun z wr => ∃ k : Nat, k ≤ N ∧ z = .int .i64 k ∧ Sgn w g A W H c w.heap.size x y (textP W c col x y s pix k) wr) (fun z _ => M - (intOf z).toNat)
  case atStart => exact ⟨0, Nat.zero_le _, rfl, P1⟩
  case round =>
    obtain ⟨k, hk, rfl, P2⟩ := hrel
    clear P1 hM
    obtain ⟨⟨c0, c1⟩, _⟩ := P2.2.1.c2
    by_cases hlt : k < M
    · have HT := Lib.hid (show textP W c col x y s pix (k + 1) = rowsP W c col (x + 8 * k) y (sgn s k) (textP W c col x y s pix k) 16 from rfl)
      by_cases hle : x + 8 * k ≤ 32767
      · have hkN : k < N := by
          rcases Nat.lt_or_ge k N with h | h
          · exact h
          · have e : k = N := by omega
            have := HN4.out
            omega
        have hg := Lib.hid (sgn_eq (s := s) (k := k) (by omega))
        generalize textP W c col x y s pix k = pk at P2 HT
        have i1 : (0 : Int) ≤ (k : Int) := by omega
        have i2 : (k : Int) < (s.size : Int) := by omega
        have hw1 : x + (k : Int) * 8 = x + 8 * (k : Int) := by omega
        go_wp2_with fail
        clear hw1
        refine wp_region_noPanic ?_
        refine wp_region_held_drew (S := fun wx => wx.cell? ⟨w.heap.size, 0, none⟩ = some (.int .i64 x) ∧ wx.cell? ⟨w.heap.size, 1, none⟩ = some (.int .i64 y)) (by kernel_rfl) (by exact (P2.drewN 1).2.1.c2.1) (fun hHeld => ?_)
        refine wpAnyH_take (i := 0) (v := ?v0) rfl (by kernel_rfl) (by kernel_rfl) (by kernel_rfl) (fun _ _ _ h => h) (Or.inl ⟨by kernel_rfl, ?y0⟩) (by assumption) ?r0
        case y0 => (intro wq hSw; (try dsimp only at hSw); go_simp; (try with_reducible rfl))
        (try simp only [Act.put, List.getElem_toArray, List.getElem_cons_zero, List.setIfInBounds_toArray, List.set_cons_zero, List.set_cons_succ])
        refine wpAnyH_take (i := 1) (v := ?v1) rfl (by kernel_rfl) (by kernel_rfl) (by kernel_rfl) (fun _ _ _ h => h) (Or.inl ⟨by kernel_rfl, ?y1⟩) (by assumption) ?r1
        case y1 => (intro wq hSw; (try dsimp only at hSw); go_simp; (try with_reducible rfl))
        (try simp only [Act.put, List.getElem_toArray, List.getElem_cons_succ, List.getElem_cons_zero, List.setIfInBounds_toArray, List.set_cons_zero, List.set_cons_succ])
        refine wpAnyH_take (i := 2) (v := ?v2) rfl (by kernel_rfl) (by kernel_rfl) (by kernel_rfl) (fun _ _ _ h => h) (Or.inl ⟨by kernel_rfl, ?y2⟩) (by assumption) ?r2
        case y2 => (intro wq hSw; (try dsimp only at hSw); go_simp; (try with_reducible rfl))
        (try simp only [Act.put, List.getElem_toArray, List.getElem_cons_succ, List.getElem_cons_zero, List.setIfInBounds_toArray, List.set_cons_zero, List.set_cons_succ])
        refine wpAnyH_take (i := 3) (v := ?v3) rfl (by kernel_rfl) (by kernel_rfl) (by kernel_rfl) (fun _ _ _ h => h) (Or.inl ⟨by kernel_rfl, ?y3⟩) (by assumption) ?r3
        case y3 => (intro wq hSw; (try dsimp only at hSw); go_simp; (try with_reducible rfl))
        (try simp only [Act.put, List.getElem_toArray, List.getElem_cons_succ, List.getElem_cons_zero, List.setIfInBounds_toArray, List.set_cons_zero, List.set_cons_succ])
        refine wpAnyH_take (i := 4) (v := ?v4) rfl (by kernel_rfl) (by kernel_rfl) (by kernel_rfl) (fun _ _ _ h => h) (Or.inl ⟨by kernel_rfl, ?y4⟩) (by assumption) ?r4
        case y4 => (intro wq hSw; (try dsimp only at hSw); go_simp; (try with_reducible rfl))
        (try simp only [Act.put, List.getElem_toArray, List.getElem_cons_succ, List.getElem_cons_zero, List.setIfInBounds_toArray, List.set_cons_zero, List.set_cons_succ])
        refine wpAnyH_take (i := 5) (v := ?v5) rfl (by kernel_rfl) (by kernel_rfl) (by kernel_rfl) (fun _ _ _ h => h) (Or.inl ⟨by kernel_rfl, ?y5⟩) (by assumption) ?r5
        case y5 => (intro wq hSw; (try dsimp only at hSw); go_simp; (try with_reducible rfl))
        (try simp only [Act.put, List.getElem_toArray, List.getElem_cons_succ, List.getElem_cons_zero, List.setIfInBounds_toArray, List.set_cons_zero, List.set_cons_succ])
        refine wpAnyH_take (i := 6) (v := ?v6) rfl (by kernel_rfl) (by kernel_rfl) (by kernel_rfl) (fun _ _ _ h => h) (Or.inl ⟨by kernel_rfl, ?y6⟩) (by assumption) ?r6
        case y6 => (intro wq hSw; (try dsimp only at hSw); go_simp; (try with_reducible rfl))
        (try simp only [Act.put, List.getElem_toArray, List.getElem_cons_succ, List.getElem_cons_zero, List.setIfInBounds_toArray, List.set_cons_zero, List.set_cons_succ])
        refine wpAnyH_take (i := 7) (v := ?v7) rfl (by kernel_rfl) (by kernel_rfl) (by kernel_rfl) (fun _ _ _ h => h) (Or.inl ⟨by kernel_rfl, ?y7⟩) (by assumption) ?r7
        case y7 => (intro wq hSw; (try dsimp only at hSw); go_simp; (try with_reducible rfl))
        (try simp only [Act.put, List.getElem_toArray, List.getElem_cons_succ, List.getElem_cons_zero, List.setIfInBounds_toArray, List.set_cons_zero, List.set_cons_succ])
        refine wpAnyH_take (i := 8) (v := ?v8) rfl (by kernel_rfl) (by kernel_rfl) (by kernel_rfl) (fun _ _ _ h => h) (Or.inl ⟨by kernel_rfl, ?y8⟩) (by assumption) ?r8
        case y8 => (intro wq hSw; (try dsimp only at hSw); go_simp; (try with_reducible rfl))
        (try simp only [Act.put, List.getElem_toArray, List.getElem_cons_succ, List.getElem_cons_zero, List.setIfInBounds_toArray, List.set_cons_zero, List.set_cons_succ])
        refine wpAnyH_ready (rs := [9]) (by kernel_rfl) (by simp) ?_
        refine AllReadyH.cons rfl (fun K hK => ?_) AllReadyH.nil
        go_simp
        rw [hg.out]
        refine (sign_c g A W H c pk (x + 8 * k) y (sgn s k) col _ (P2.drewN 1).1 hcol (sgn_lt s k) (by omega) (by omega)).mono ?_
        rintro e1 w2 ⟨rfl, hC1, hg1⟩; have P3 := (P2.drewN 1).step hC1 hg1; clear hC1 hg1
        (try dsimp only)
        refine hK.out _ _ (by exact P3.2.1.c2.1) (fun hHeld => ?_)
        clear hK K
        (try simp only [Act.put, List.getElem_toArray, List.getElem_cons_succ, List.getElem_cons_zero, List.setIfInBounds_toArray, List.set_cons_zero, List.set_cons_succ])
        refine wpAnyH_done (by kernel_rfl) ?_ _
        refine NoPanic.normal ?_
        clear hHeld
        go_wp2_with fail
        go_roundw
        case rel => exact ⟨k + 1, by omega, by go_num, P3.to HT.out.symm⟩
        case measure => simp [intOf]; omega
      · have e : k = N := by
          rcases Nat.lt_or_ge k N with h | h
          · have := HN3.out k h; omega
          · omega
        subst e
        go_wp2_with fail
        refine bodyPost_ret (results_none rfl _ _ _) rfl ?_
        exact ⟨rfl, P2.1, P2.2.2.1⟩
    · obtain rfl : k = N := by omega
      go_wp2_with fail
      go_end0
      exact ⟨rfl, P2.1, P2.2.2.1⟩
theorem draw_no (p : Option Addr) (x y col : Int) (s : ByteArray) (w : World) (hp : planeP x y = false) :
    Calls Try.prog 37 #[.pointer p, .agg #[.int .i64 x, .int .i64 y], .string s, .int .u32 col] w fun e' w' => e' = .returned (.tuple #[]) ∧ Below w.heap.size w w' := by
  have P0 := Blk.new w 32 #[.int .i64 x, .int .i64 y]
  have hB : Below w.heap.size w (w.alloc (.cells #[.int .i64 x, .int .i64 y] 32)) := (Below.refl _ _).alloc (Nat.le_refl _) _
  have hO := fun W => fonPlane_c x y W
  rw [hp] at hO
  have HO := Lib.hid hO
  clear hO hp
  go_enter Try.func37, Try.ntmps37
  go_wp2_with (go_at_call 66; refine (HO.out _).mono ?_; rintro e w1 ⟨rfl, hb⟩; have h1 := hB.trans (hb.mono hB.size); clear hb)
  refine bodyPost_ret (results_none rfl _ _ _) rfl ?_
  exact ⟨rfl, h1⟩
end Go.Proofs.Ytedhgdjlcddchaa
