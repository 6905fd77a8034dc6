/- The way up: goesThrough, Viewable, Abs. -/
import Derived.Test.YtlbbjinkblgfiaaWiK
namespace Go.Proofs.Ytlbbjinkblgfiaa
open Go.RowKit Go.Shelf Go.Maps
/-- From i it is n steps to the root. -/
def Way (nd : Int → Option Nd) : Nat → Int → Prop
  | 0, i => i = 0 ∧ ∃ d, nd i = some d
  | n + 1, i => i ≠ 0 ∧ ∃ d, nd i = some d ∧ Way nd n d.win.par
def parOf (nd : Int → Option Nd) (i : Int) : Int := match nd i with
  | some d => d.win.par
  | none => 0
def thruB (nd : Int → Option Nd) : Nat → Int → Int → Bool
  | 0, i, o => i == o
  | n + 1, i, o => i == o || thruB nd n (parOf nd i) o
def onOf (nd : Int → Option Nd) (i : Int) : Bool := match nd i with
  | some d => d.win.on
  | none => false
def viewB (nd : Int → Option Nd) : Nat → Int → Bool
  | 0, i => onOf nd i
  | n + 1, i => onOf nd i && viewB nd n (parOf nd i)
def Wide (nd : Int → Option Nd) : Prop := ∀ i d, nd i = some d → I64 i ∧ I64 d.win.par
section
variable {w : World} {t : Nat} {l : Lay} {nd : Int → Option Nd} {made : Int} {cnt : Nat}
theorem Way.there {n : Nat} {i : Int} (h : Way nd n i) : ∃ d, nd i = some d := by
  cases n with
  | zero => exact h.2
  | succ n => obtain ⟨_, d, hd, _⟩ := h; exact ⟨d, hd⟩
set_option maxRecDepth 100000 in
theorem goes_c (hw : Wide nd) (o : Int) : ∀ (n : Nat) (i : Int) (w : World), TreeH w t l nd made cnt → Way nd n i →
    Calls Try.prog 50 #[treeP t, .int .i64 i, .int .i64 o] w fun e w' => e = .returned (.bool (thruB nd n i o)) ∧ w = w'
  | n, i, w, h, hW => by
    by_cases hio : i = o
    · subst hio
      have HB := Lib.hid (show thruB nd n i i = true by cases n <;> simp [thruB])
      clear h hW
      go_enter Try.func50, Try.ntmps50
      go_wp2_with fail
      go_ret
      exact ⟨ret_bool HB.out.symm, rfl⟩
    · have hio' : (i == o) = false := by simpa using hio
      cases n with
      | zero =>
        obtain ⟨rfl, _⟩ := hW
        have HB := Lib.hid (show thruB nd 0 0 o = false by simp only [thruB]; exact hio')
        clear h hio
        go_enter Try.func50, Try.ntmps50
        go_wp2_with fail
        go_ret
        exact ⟨ret_bool HB.out.symm, rfl⟩
      | succ n =>
        obtain ⟨hz, d, hd, hW'⟩ := hW
        obtain ⟨b, hb⟩ := h.block hd
        have hi := (hw i d hd).1
        have HR := Lib.hid (goes_c hw o n d.win.par w h hW')
        have HB := Lib.hid (show thruB nd (n + 1) i o = thruB nd n d.win.par o by simp only [thruB, parOf, hd]; rw [hio']; rfl)
        obtain ⟨⟨c0, -⟩, -⟩ := h.tree.c2
        have e0 := h.look_some hi hb
        obtain ⟨⟨-, k1, -⟩, -⟩ := h.cells hb hd
        have hz1 : (i == 0) = false := by simpa using hz
        have hz2 : (i != 0) = true := by simp [bne, hz1]
        clear h hio hW' hd hb hi
        go_enter Try.func50, Try.ntmps50
        go_wp2_with (go_at_call 50; ((with_reducible refine (HR.out).mono ?_); rintro e w' ⟨rfl, rfl⟩))
        go_ret
        exact ⟨ret_bool HB.out.symm, rfl⟩
theorem view_no {p : Value} (h : NoTree w p) {i : Int} (hi : I64 i) : Calls Try.prog 24 #[p, .int .i64 i] w fun e w' => e = .returned (.bool false) ∧ w = w' := by
  have H1 := Lib.hid (find_no h hi)
  clear h hi
  go_enter Try.func24, Try.ntmps24
  go_wp2_with (go_at_call 38; ((with_reducible refine (H1.out).mono ?_); rintro e w' ⟨rfl, rfl⟩))
  go_ret
  exact ⟨rfl, rfl⟩
theorem view_none (h : TreeH w t l nd made cnt) {i : Int} (hi : I64 i) (hb : l.nb i = none) : Calls Try.prog 24 #[treeP t, .int .i64 i] w fun e w' => e = .returned (.bool false) ∧ w = w' := by
  have H1 := Lib.hid (find_none h hi hb)
  clear h hi hb
  go_enter Try.func24, Try.ntmps24
  go_wp2_with (go_at_call 38; ((with_reducible refine (H1.out).mono ?_); rintro e w' ⟨rfl, rfl⟩))
  go_ret
  exact ⟨rfl, rfl⟩
set_option maxRecDepth 100000 in
theorem view_c (hw : Wide nd) : ∀ (n : Nat) (i : Int) (w : World), TreeH w t l nd made cnt → Way nd n i →
    Calls Try.prog 24 #[treeP t, .int .i64 i] w fun e w' => e = .returned (.bool (viewB nd n i)) ∧ w = w'
  | n, i, w, h, hW => by
    obtain ⟨d, hd⟩ := hW.there
    obtain ⟨b, hb⟩ := h.block hd
    have hi := (hw i d hd).1
    have H1 := Lib.hid (find_some h hi hb)
    obtain ⟨⟨-, k1, -, -, -, -, k6, -⟩, -⟩ := h.cells hb hd
    cases hon : d.win.on with
    | false =>
      rw [hon] at k6
      have HB := Lib.hid (show viewB nd n i = false by cases n <;> simp [viewB, onOf, hd, hon])
      clear h hW hd hb hi hon
      go_enter Try.func24, Try.ntmps24
      go_wp2_with (go_at_call 38; ((with_reducible refine (H1.out).mono ?_); rintro e w' ⟨rfl, rfl⟩))
      go_ret
      exact ⟨ret_bool HB.out.symm, rfl⟩
    | true =>
      rw [hon] at k6
      cases n with
      | zero =>
        obtain ⟨rfl, _⟩ := hW
        have HB := Lib.hid (show viewB nd 0 0 = true by simp [viewB, onOf, hd, hon])
        clear h hd hb hi hon
        go_enter Try.func24, Try.ntmps24
        go_wp2_with (go_at_call 38; ((with_reducible refine (H1.out).mono ?_); rintro e w' ⟨rfl, rfl⟩))
        go_ret
        exact ⟨ret_bool HB.out.symm, rfl⟩
      | succ n =>
        obtain ⟨hz, d', hd', hW'⟩ := hW
        rw [hd] at hd'
        injection hd' with hd'
        subst hd'
        have HR := Lib.hid (view_c hw n d.win.par w h hW')
        have HB := Lib.hid (show viewB nd (n + 1) i = viewB nd n d.win.par by simp [viewB, onOf, parOf, hd, hon])
        have hz1 : (i == 0) = false := by simpa using hz
        clear h hW' hd hb hi hon hz
        go_enter Try.func24, Try.ntmps24
        go_wp2_with (first
          | (go_at_call 38; ((with_reducible refine (H1.out).mono ?_); rintro e w' ⟨rfl, rfl⟩))
          | (go_at_call 24; ((with_reducible refine (HR.out).mono ?_); rintro e w' ⟨rfl, rfl⟩)))
        go_ret
        exact ⟨ret_bool HB.out.symm, rfl⟩
end
end Go.Proofs.Ytlbbjinkblgfiaa
