import Derived.Test.YtjgleibbhgfcpaaRcA
import Derived.Test.YtjgleibbhgfcpaaRcC
namespace Go.Proofs.Ytjgleibbhgfcpaa
open Go.RowKit Go.Shelf
theorem rat_no (W H : Nat) (s c0 c1 c2 c3 : Value) (x y : Int) (w : World) (hA : atB W H x y = false) (hW : W ≤ 1024) (hH : H ≤ 1024) (p : Option Addr) (n cc : Nat) (hs : s = .slice p n cc) :
    Calls Try.prog 38 #[.agg #[.int .i64 W, .int .i64 H, s, c0, c1, c2, c3], .agg #[.int .i64 x, .int .i64 y]] w fun e w' => e = .returned (.tuple #[.int .u32 0, .bool false]) ∧ Below w.heap.size w w' := by
  have hcase : x < 0 ∨ (0 ≤ x ∧ y < 0) ∨ (0 ≤ x ∧ 0 ≤ y ∧ (W : Int) ≤ x) ∨ (0 ≤ x ∧ 0 ≤ y ∧ x < W ∧ (H : Int) ≤ y) := by
    rcases Int.lt_or_le x 0 with h1 | h1
    · exact .inl h1
    rcases Int.lt_or_le y 0 with h2 | h2
    · exact .inr (.inl ⟨h1, h2⟩)
    rcases Int.lt_or_le x W with h3 | h3
    · rcases Int.lt_or_le y H with h4 | h4
      · exfalso
        have : atB W H x y = true := (hasB_iff _ _ _ _ _ _).2 ⟨(emptyB_iff _ _ _ _).2 (by omega), by omega, by omega, by omega, by omega⟩
        rw [this] at hA; cases hA
      · exact .inr (.inr (.inr ⟨h1, h2, h3, h4⟩))
    · exact .inr (.inr (.inl ⟨h1, h2, h3⟩))
  subst hs
  clear hA
  rcases hcase with h1 | ⟨h1, h2⟩ | ⟨h1, h2, h3⟩ | ⟨h1, h2, h3, h4⟩
  all_goals
    go_enter Try.func38, Try.ntmps38
    go_wp2
    go_ret2
    exact ⟨rfl, by repeat' (first | (with_reducible exact Below.refl _ _) | (with_reducible assumption) | (with_reducible refine Below.alloc ?_ ?_ _) | (with_reducible refine Below.drew ?_) | (with_reducible refine Below.setCell ?_ ?_ _) | (with_reducible refine Below.on (by with_reducible assumption) ?_ ?_) | go_size)⟩
set_option maxRecDepth 100000 in
set_option maxHeartbeats 2000000 in
theorem rat_yes (W H b n cc : Nat) (c0 c1 c2 c3 : Value) (pix : List Int) (xx yy : Nat) (k : Int) (w : World) (hW : W ≤ 1024) (hH : H ≤ 1024) (hx : xx < W) (hy : yy < H) (hn : n = W * H) (hR : Row w b n pix) (hk : pix[yy * W + xx]? = some k) :
    Calls Try.prog 38 #[.agg #[.int .i64 W, .int .i64 H, .slice (some ⟨b, 0, none⟩) n cc, c0, c1, c2, c3], .agg #[.int .i64 xx, .int .i64 yy]] w fun e w' => e = .returned (.tuple #[.int .u32 k, .bool true]) ∧ Below w.heap.size w w' := by
  obtain ⟨i, hi⟩ : ∃ i, i = yy * W + xx := ⟨_, rfl⟩
  have hiN : i < n := by rw [hi, hn]; exact place_lt hx hy
  have m0 : (yy : Int) * (W : Int) = ((yy * W : Nat) : Int) := by rw [Int.natCast_mul]
  have m1 : yy * W ≤ 1024 * 1024 := Nat.mul_le_mul (by omega) hW
  have p0 : 0 ≤ (yy : Int) * (W : Int) := by rw [m0]; omega
  have p1 : (yy : Int) * (W : Int) ≤ 1048576 := by rw [m0]; omega
  have p2 : (yy : Int) * (W : Int) + (xx : Int) = (i : Int) := by rw [m0, hi]; omega
  rw [← hi] at hk
  have hc := (hR.cell hk).1
  have hbl := hR.lt
  have hi0 : (0 : Int) ≤ (i : Int) := by omega
  have hi1 : (i : Int) < (n : Int) := by omega
  clear hn hi m0 hk hR hiN
  go_enter Try.func38, Try.ntmps38
  go_wp2
  go_ret2
  exact ⟨rfl, by repeat' (first | (with_reducible exact Below.refl _ _) | (with_reducible assumption) | (with_reducible refine Below.alloc ?_ ?_ _) | (with_reducible refine Below.drew ?_) | (with_reducible refine Below.setCell ?_ ?_ _) | (with_reducible refine Below.on (by with_reducible assumption) ?_ ?_) | go_size)⟩
theorem rat_c (W H b n cc : Nat) (c0 c1 c2 c3 : Value) (pix : List Int) (x y : Int) (w : World) (hW : W ≤ 1024) (hH : H ≤ 1024) (hn : n = W * H) (hR : Row w b n pix) :
    Calls Try.prog 38 #[.agg #[.int .i64 W, .int .i64 H, .slice (some ⟨b, 0, none⟩) n cc, c0, c1, c2, c3], .agg #[.int .i64 x, .int .i64 y]] w fun e w' => e = .returned (.tuple #[.int .u32 (atI W H pix x y), .bool (atB W H x y)]) ∧ Below w.heap.size w w' := by
  cases hA : atB W H x y
  · have h0 : atI W H pix x y = 0 := by unfold atI; rw [hA]; rfl
    rw [h0]
    exact rat_no W H _ c0 c1 c2 c3 x y w hA hW hH _ _ _ rfl
  · obtain ⟨_, h1, h2, h3, h4⟩ := (hasB_iff _ _ _ _ _ _).1 hA
    obtain ⟨xx, rfl⟩ := Int.eq_ofNat_of_zero_le h1
    obtain ⟨yy, rfl⟩ := Int.eq_ofNat_of_zero_le h3
    obtain ⟨k, hk⟩ := pixk (by obtain ⟨_, _, _, h, _⟩ := hR; rw [h, hn]) (show yy < H by omega) (show xx < W by omega)
    have hI : atI W H pix xx yy = k := by
      unfold atI
      rw [hA, if_pos rfl, Int.toNat_natCast, Int.toNat_natCast, List.getD_eq_getElem?_getD, hk]
      rfl
    rw [hI]
    exact rat_yes W H b n cc c0 c1 c2 c3 pix xx yy k w hW hH (by omega) (by omega) hn hR hk
end Go.Proofs.Ytjgleibbhgfcpaa
