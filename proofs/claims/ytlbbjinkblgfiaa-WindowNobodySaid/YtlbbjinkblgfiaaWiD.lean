/- Walks: find, changeable, Len. -/
import Derived.Test.YtlbbjinkblgfiaaWiC
import Derived.Lib.Hide
namespace Go.Proofs.Ytlbbjinkblgfiaa
open Go.RowKit Go.Shelf Go.Maps
/-- What no call made. -/
def NoTree (w : World) (p : Value) : Prop := p = .pointer none ∨ ∃ t, p = .pointer (some ⟨t, 0, none⟩) ∧ Blk w t 68 #[.map none, .int .i64 0]
abbrev treeP (t : Nat) : Value := .pointer (some ⟨t, 0, none⟩)
theorem NoTree.next {w w' : World} {p : Value} (h : NoTree w p) (hb : Below w.heap.size w w') : NoTree w' p := by
  rcases h with h | ⟨t, h, k⟩
  · exact .inl h
  · exact .inr ⟨t, h, k.next hb⟩
section
variable {w : World} {t : Nat} {l : Lay} {nd : Int → Option Nd} {made : Int} {cnt : Nat}
theorem find_c (h : TreeH w t l nd made cnt) {i : Int} (hi : I64 i) :
    Calls Try.prog 38 #[treeP t, .int .i64 i] w fun e w' => e = .returned (ptrOf (l.nb i)) ∧ w = w' := by
  obtain ⟨⟨c0, _⟩, _⟩ := h.tree.c2
  have e0 := h.look hi
  obtain ⟨v, hv⟩ : ∃ v, v = ptrOf (l.nb i) := ⟨_, rfl⟩
  rw [← hv] at e0 ⊢
  clear hv h hi
  go_enter Try.func38, Try.ntmps38
  go_wp2
  go_ret
  exact ⟨rfl, rfl⟩
theorem find_some (h : TreeH w t l nd made cnt) {i : Int} (hi : I64 i) {b : Nat} (hb : l.nb i = some b) :
    Calls Try.prog 38 #[treeP t, .int .i64 i] w fun e w' => e = .returned (.pointer (some ⟨b, 0, none⟩)) ∧ w = w' := by
  have := find_c h hi; rw [hb] at this; exact this
theorem find_none (h : TreeH w t l nd made cnt) {i : Int} (hi : I64 i) (hb : l.nb i = none) :
    Calls Try.prog 38 #[treeP t, .int .i64 i] w fun e w' => e = .returned (.pointer none) ∧ w = w' := by
  have := find_c h hi; rw [hb] at this; exact this
theorem find_no {p : Value} (h : NoTree w p) {i : Int} (hi : I64 i) :
    Calls Try.prog 38 #[p, .int .i64 i] w fun e w' => e = .returned (.pointer none) ∧ w = w' := by
  rcases h with rfl | ⟨t, rfl, h⟩
  · go_enter Try.func38, Try.ntmps38
    go_wp2
    go_ret
    exact ⟨rfl, rfl⟩
  · obtain ⟨⟨c0, _⟩, _⟩ := h.c2
    have e0 : (Instr.lookup 66 (.map none) (.int .i64 i) false).run Try.prog w = .ok (.pointer none) w := Maps.look_nil false keyed Try.underlying66 (zeroK w) (key_of hi)
    clear h hi
    go_enter Try.func38, Try.ntmps38
    go_wp2
    go_ret
    exact ⟨rfl, rfl⟩
theorem i64_0 : I64 0 := ⟨by decide, by decide⟩
theorem changeable_none (h : TreeH w t l nd made cnt) {r : Nat} (h0 : l.nb 0 = some r) {i : Int} (hi : I64 i) (hb : l.nb i = none) :
    Calls Try.prog 47 #[treeP t, .int .i64 i] w fun e w' => e = .returned (.tuple #[.pointer none, .int .i64 6]) ∧ w = w' := by
  have H1 := Lib.hid (find_none h hi hb)
  have H2 := Lib.hid (find_some h i64_0 h0)
  clear h hi h0 hb
  go_enter Try.func47, Try.ntmps47
  go_wp2_with (first
    | (go_at_call 38; ((with_reducible refine H1.out.mono ?_); rintro e w' ⟨rfl, rfl⟩); clear H1)
    | (go_at_call 38; ((with_reducible refine H2.out.mono ?_); rintro e w' ⟨rfl, rfl⟩)))
  go_ret2
  exact ⟨rfl, rfl⟩
theorem changeable_root (h : TreeH w t l nd made cnt) {r : Nat} (h0 : l.nb 0 = some r) :
    Calls Try.prog 47 #[treeP t, .int .i64 0] w fun e w' => e = .returned (.tuple #[.pointer none, .int .i64 1]) ∧ w = w' := by
  have H1 := Lib.hid (find_some h i64_0 h0)
  have H2 := Lib.hid (find_some h i64_0 h0)
  clear h h0
  go_enter Try.func47, Try.ntmps47
  go_wp2_with (first
    | (go_at_call 38; ((with_reducible refine H1.out.mono ?_); rintro e w' ⟨rfl, rfl⟩); clear H1)
    | (go_at_call 38; ((with_reducible refine H2.out.mono ?_); rintro e w' ⟨rfl, rfl⟩)))
  go_ret2
  exact ⟨rfl, rfl⟩
theorem changeable_some (h : TreeH w t l nd made cnt) {r : Nat} (h0 : l.nb 0 = some r) {i : Int} (hi : I64 i) {b : Nat} (hb : l.nb i = some b) (hz : i ≠ 0) :
    Calls Try.prog 47 #[treeP t, .int .i64 i] w fun e w' => e = .returned (.tuple #[.pointer (some ⟨b, 0, none⟩), .int .i64 0]) ∧ w = w' := by
  have H1 := Lib.hid (find_some h hi hb)
  have H2 := Lib.hid (find_some h i64_0 h0)
  have hz' : (i == 0) = false := by simpa using hz
  clear h hi h0 hb hz
  go_enter Try.func47, Try.ntmps47
  go_wp2_with (first
    | (go_at_call 38; ((with_reducible refine H1.out.mono ?_); rintro e w' ⟨rfl, rfl⟩); clear H1)
    | (go_at_call 38; ((with_reducible refine H2.out.mono ?_); rintro e w' ⟨rfl, rfl⟩)))
  go_ret2
  exact ⟨rfl, rfl⟩
theorem changeable_no {p : Value} (h : NoTree w p) {i : Int} (hi : I64 i) :
    Calls Try.prog 47 #[p, .int .i64 i] w fun e w' => e = .returned (.tuple #[.pointer none, .int .i64 3]) ∧ w = w' := by
  have H1 := Lib.hid (find_no h hi)
  have H2 := Lib.hid (find_no h i64_0)
  clear h hi
  go_enter Try.func47, Try.ntmps47
  go_wp2_with (first
    | (go_at_call 38; ((with_reducible refine H1.out.mono ?_); rintro e w' ⟨rfl, rfl⟩); clear H1)
    | (go_at_call 38; ((with_reducible refine H2.out.mono ?_); rintro e w' ⟨rfl, rfl⟩)))
  go_ret2
  exact ⟨rfl, rfl⟩
theorem len_c (h : TreeH w t l nd made cnt) {r : Nat} (h0 : l.nb 0 = some r) (hc : (cnt : Int) ≤ 4611686018427387904) :
    Calls Try.prog 13 #[treeP t] w fun e w' => e = .returned (.int .i64 ((cnt : Int) - 1)) ∧ w = w' := by
  have H2 := Lib.hid (find_some h i64_0 h0)
  obtain ⟨⟨c0, _⟩, _⟩ := h.tree.c2
  have e0 := fun ty => h.map.len ty
  clear h h0
  go_enter Try.func13, Try.ntmps13
  go_wp2_with (go_at_call 38; ((with_reducible refine H2.out.mono ?_); rintro e w' ⟨rfl, rfl⟩))
  go_ret
  exact ⟨rfl, rfl⟩
theorem len_no {p : Value} (h : NoTree w p) :
    Calls Try.prog 13 #[p] w fun e w' => e = .returned (.int .i64 0) ∧ w = w' := by
  have H2 := Lib.hid (find_no h i64_0)
  clear h
  go_enter Try.func13, Try.ntmps13
  go_wp2_with (go_at_call 38; ((with_reducible refine H2.out.mono ?_); rintro e w' ⟨rfl, rfl⟩))
  go_ret
  exact ⟨rfl, rfl⟩
end
end Go.Proofs.Ytlbbjinkblgfiaa
