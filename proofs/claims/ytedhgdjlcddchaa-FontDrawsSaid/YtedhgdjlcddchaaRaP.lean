/- Pictures painted on: the pure part. -/
import Derived.Test.YtedhgdjlcddchaaPlainB
namespace Go.Proofs.Ytedhgdjlcddchaa
/-- The places of which q holds are changed by f. -/
def pnt (W : Nat) (q : Int → Int → Bool) (f : Int → Int → Int → Int) (pix : List Int) : List Int :=
  pix.mapIdx fun i u => if q ((i % W : Nat) : Int) ((i / W : Nat) : Int) = true then f ((i % W : Nat) : Int) ((i / W : Nat) : Int) u else u
def Cols (pix : List Int) : Prop := ∀ u ∈ pix, 0 ≤ u ∧ u < 4294967296
section
variable {W : Nat} {q q' : Int → Int → Bool} {f f' : Int → Int → Int → Int} {pix : List Int}
theorem pnt_len : (pnt W q f pix).length = pix.length := by unfold pnt; exact List.length_mapIdx
theorem pnt_get (i : Nat) : (pnt W q f pix)[i]? = pix[i]?.map fun u => if q ((i % W : Nat) : Int) ((i / W : Nat) : Int) = true then f ((i % W : Nat) : Int) ((i / W : Nat) : Int) u else u := by
  unfold pnt; exact List.getElem?_mapIdx
theorem place_mod {x y : Nat} (hx : x < W) : (y * W + x) % W = x := by rw [Nat.add_comm, Nat.add_mul_mod_self_right]; exact Nat.mod_eq_of_lt hx
theorem place_div {x y : Nat} (hx : x < W) : (y * W + x) / W = y := by rw [Nat.add_comm, Nat.add_mul_div_right _ _ (by omega), Nat.div_eq_of_lt hx]; omega
theorem place_lt {x y H : Nat} (hx : x < W) (hy : y < H) : y * W + x < W * H := by
  have : (y + 1) * W ≤ H * W := Nat.mul_le_mul_right W hy
  rw [Nat.add_mul, Nat.mul_comm H W] at this; omega
theorem pnt_at {x y : Nat} (hx : x < W) : (pnt W q f pix)[y * W + x]? = pix[y * W + x]?.map fun u => if q x y = true then f x y u else u := by
  rw [pnt_get, place_mod hx, place_div hx]
theorem pnt_id (h : ∀ x y : Nat, q x y = false) : pnt W q f pix = pix := by
  apply List.ext_getElem?
  intro i
  rw [pnt_get]
  cases pix[i]? with
  | none => rfl
  | some u => rw [Option.map_some, h, if_neg (by simp)]
theorem pnt_congr {H : Nat} (hl : pix.length = W * H) (h : ∀ x y : Nat, x < W → y < H → ∀ u, (if q x y = true then f x y u else u) = (if q' x y = true then f' x y u else u)) : pnt W q f pix = pnt W q' f' pix := by
  apply List.ext_getElem?
  intro i
  rw [pnt_get, pnt_get]
  cases hi : pix[i]? with
  | none => rfl
  | some u =>
    have hlt : i < W * H := by rw [← hl]; exact (List.getElem?_eq_some_iff.1 hi).1
    have hW : 0 < W := by rcases Nat.eq_zero_or_pos W with h0 | h0; · subst h0; simp at hlt
                          · exact h0
    have h1 : i % W < W := Nat.mod_lt _ hW
    have h2 : i / W < H := Nat.div_lt_of_lt_mul hlt
    simp only [Option.map_some]
    rw [h _ _ h1 h2 u]
theorem pnt_step {x y : Nat} {u : Int} (hx : x < W) (hu : pix[y * W + x]? = some u) :
    (pnt W q f pix).set (y * W + x) (f x y u) = pnt W (fun a b => q a b || (a == x && b == y)) f pix := by
  apply List.ext_getElem?
  intro i
  have hlt : y * W + x < pix.length := (List.getElem?_eq_some_iff.1 hu).1
  by_cases hi : y * W + x = i
  · subst hi
    rw [List.getElem?_set_self (by rw [pnt_len]; exact hlt), pnt_get, hu, place_mod hx, place_div hx]
    simp
  · rw [List.getElem?_set_ne hi, pnt_get, pnt_get]
    have hne : ¬ ((((i % W : Nat) : Int) == (x : Int)) && (((i / W : Nat) : Int) == (y : Int))) = true := by
      intro hh
      simp at hh
      obtain ⟨h1, h2⟩ := hh
      apply hi
      rw [← Nat.div_add_mod i W]
      have e1 : i % W = x := by omega
      have e2 : i / W = y := by omega
      rw [e1, e2, Nat.mul_comm]
    simp only [Bool.not_eq_true] at hne
    rw [hne, Bool.or_false]
theorem pnt_cols {H : Nat} (hl : pix.length = W * H) (hc : Cols pix) (hf : ∀ x y : Nat, x < W → y < H → q x y = true → ∀ u, pix[y * W + x]? = some u → 0 ≤ f x y u ∧ f x y u < 4294967296) : Cols (pnt W q f pix) := by
  intro v hv
  obtain ⟨i, hi⟩ := List.getElem?_of_mem hv
  rw [pnt_get] at hi
  cases hp : pix[i]? with
  | none => rw [hp] at hi; simp at hi
  | some u =>
    rw [hp] at hi
    have hlt : i < W * H := by rw [← hl]; exact (List.getElem?_eq_some_iff.1 hp).1
    have hW : 0 < W := by rcases Nat.eq_zero_or_pos W with h0 | h0; · subst h0; simp at hlt
                          · exact h0
    have h1 : i % W < W := Nat.mod_lt _ hW
    have h2 : i / W < H := Nat.div_lt_of_lt_mul hlt
    simp only [Option.map_some, Option.some.injEq] at hi
    by_cases hq : q ((i % W : Nat) : Int) ((i / W : Nat) : Int) = true
    · rw [if_pos hq] at hi
      subst hi
      exact hf _ _ h1 h2 hq u (by rw [Nat.mul_comm, Nat.div_add_mod]; exact hp)
    · rw [if_neg hq] at hi
      subst hi
      exact hc u (List.mem_of_getElem? hp)
end
/-- What of a rectangle is painted when the row y is painted up to x. -/
def done (X Y RW y x : Nat) (a b : Int) : Bool := decide ((Y : Int) ≤ b ∧ b < y ∧ (X : Int) ≤ a ∧ a < X + RW ∨ b = y ∧ (X : Int) ≤ a ∧ a < x)
theorem done_start (X Y RW : Nat) (a b : Nat) : done X Y RW Y X a b = false := by unfold done; rw [decide_eq_false_iff_not]; omega
theorem done_next (X Y RW y x : Nat) (hx : X ≤ x) (a b : Int) : (done X Y RW y x a b || (a == x && b == y)) = done X Y RW y (x + 1) a b := by
  rw [Bool.eq_iff_iff]; unfold done; simp; omega
theorem done_row (X Y RW y : Nat) (hy : Y ≤ y) (a b : Int) : done X Y RW y (X + RW) a b = done X Y RW (y + 1) X a b := by
  rw [Bool.eq_iff_iff]; unfold done; simp; omega
theorem done_now (X Y RW y x : Nat) : done X Y RW y x x y = false := by unfold done; rw [decide_eq_false_iff_not]; omega
end Go.Proofs.Ytedhgdjlcddchaa
