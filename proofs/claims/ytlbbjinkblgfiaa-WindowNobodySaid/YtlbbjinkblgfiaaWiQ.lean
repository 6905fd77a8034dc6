/- Get, Kids, walked. -/
import Derived.Test.YtlbbjinkblgfiaaWiK
import Derived.Shelf.Slices.Clone
namespace Go.Proofs.Ytlbbjinkblgfiaa
open Go.RowKit Go.Shelf Go.Maps
abbrev winV (v : Win) : Value := .agg #[.int .i64 v.id, .int .i64 v.par, .int .i64 v.x, .int .i64 v.y, .int .i64 v.w, .int .i64 v.h, .bool v.on]
theorem get_f {w : World} {p : Value} {i : Int} (hf : ∀ W, Below w.heap.size w W → Calls Try.prog 38 #[p, .int .i64 i] W fun e w' => e = .returned (.pointer none) ∧ W = w') :
    Calls Try.prog 19 #[p, .int .i64 i] w fun e w' => e = .returned (.tuple #[winV zeroW, .bool false]) ∧ Below w.heap.size w w' := by
  have H1 := Lib.hid (hf (w.alloc (.cells #[.int .i64 0, .int .i64 0, .int .i64 0, .int .i64 0, .int .i64 0, .int .i64 0, .bool false] 50)) ((Below.refl _ w).alloc (Nat.le_refl _) _))
  clear hf
  go_enter Try.func19, Try.ntmps19
  go_wp2_with (go_at_call 38; ((with_reducible refine (H1.out).mono ?_); rintro e w' ⟨rfl, rfl⟩))
  refine bodyPost_ret (v := .tuple #[winV zeroW, .bool false]) (by simp [results, Try.results19, go_sem, zeroW]) rfl ?_
  exact ⟨rfl, (Below.refl _ w).alloc (Nat.le_refl _) _⟩
section
variable {w : World} {t : Nat} {l : Lay} {nd : Int → Option Nd} {made : Int} {cnt : Nat}
theorem get_no {p : Value} (h : NoTree w p) {i : Int} (hi : I64 i) : Calls Try.prog 19 #[p, .int .i64 i] w fun e w' => e = .returned (.tuple #[winV zeroW, .bool false]) ∧ Below w.heap.size w w' :=
  get_f fun _ hW => find_no (h.next hW) hi
theorem get_none (h : TreeH w t l nd made cnt) {i : Int} (hi : I64 i) (hb : l.nb i = none) : Calls Try.prog 19 #[treeP t, .int .i64 i] w fun e w' => e = .returned (.tuple #[winV zeroW, .bool false]) ∧ Below w.heap.size w w' :=
  get_f fun _ hW => find_none (h.next hW) hi hb
set_option maxHeartbeats 1000000 in
theorem get_c (h : TreeH w t l nd made cnt) {i : Int} (hi : I64 i) {d : Nd} (hd : nd i = some d) : Calls Try.prog 19 #[treeP t, .int .i64 i] w fun e w' => e = .returned (.tuple #[winV d.win, .bool true]) ∧ Below w.heap.size w w' := by
  obtain ⟨b, hb⟩ := h.block hd
  obtain ⟨wb, hwb⟩ : ∃ wb, wb = w.alloc (.cells #[.int .i64 0, .int .i64 0, .int .i64 0, .int .i64 0, .int .i64 0, .int .i64 0, .bool false] 50) := ⟨_, rfl⟩
  have hbel : Below w.heap.size w wb := by rw [hwb]; exact (Below.refl _ _).alloc (Nat.le_refl _) _
  have H1 := find_some (h.next hbel) hi hb
  obtain ⟨⟨k0, k1, k2, k3, k4, k5, k6, -⟩, -⟩ := (h.next hbel).cells hb hd
  rw [hwb] at H1 k0 k1 k2 k3 k4 k5 k6
  have H2 := Lib.hid H1
  obtain ⟨⟨vid, vpar, vx, vy, vw, vh, von⟩, ks⟩ := d
  dsimp only at k0 k1 k2 k3 k4 k5 k6
  clear h hi hd hb hwb hbel H1
  go_enter Try.func19, Try.ntmps19
  go_wp2_with (go_at_call 38; ((with_reducible refine (H2.out).mono ?_); rintro e w' ⟨rfl, rfl⟩))
  refine bodyPost_ret (v := .tuple #[winV ⟨vid, vpar, vx, vy, vw, vh, von⟩, .bool true]) (by simp [results, Try.results19, go_sem]) rfl ?_
  exact ⟨rfl, (Below.refl _ w).alloc (Nat.le_refl _) _⟩
/-- A slice of numbers of a call's own: it reads as these. -/
def NewInts (w : World) (v : Value) (xs : List Int) (w' : World) : Prop := w'.ownsRow w.heap.size 3 1 v xs.length (intsV xs) ∧ Below w.heap.size w w'
theorem row_lt0 {w : World} {v : Value} {n b : Nat} {xs : List Value} (h : w.ownsRow 0 3 1 v n xs) (hb : v.ownBlock = some b) : b < w.heap.size := (World.ownsRow.lt h b hb).2
theorem clone_w (v : Value) (xs : List Int) (w : World) (hr : w.ownsRow 0 3 1 v xs.length (intsV xs)) (hl : xs.length ≤ 1048576) :
    Calls Try.prog 46 #[v] w fun e w' => ∃ v', e = .returned v' ∧ NewInts w v' xs w' := by
  have hr0 := hr
  obtain ⟨hlen, h1⟩ := hr0
  rcases h1 with ⟨rfl, hn⟩ | ⟨g, cap, cur, rfl, -, hg, hnc, hcm, hcs, ht⟩
  · have hx : xs = [] := List.eq_nil_of_length_eq_zero hn
    subst hx
    refine Calls.mono (Any.slices_Clone_int_nil cloneInt 0 0 w) ?_
    rintro e w' ⟨rfl, rfl⟩
    exact ⟨_, rfl, World.ownsRow_nil _ _ _ _, Below.refl _ _⟩
  · have h := Any.slices_Clone_int cloneInt g 0 xs.length cap xs w (Nat.le_refl _) (by omega) (fun j hj => by
      rw [Nat.zero_add]
      refine (World.ownsRow.cellAt hr j (by omega)).trans ?_
      rw [List.getElem?_map, List.getElem?_eq_getElem hj, List.getD_eq_getElem?_getD, List.getElem?_eq_getElem hj]
      rfl)
    rw [List.take_length] at h
    refine Calls.mono h ?_
    rintro e w' ⟨v, rfl, h1, _, h2⟩
    exact ⟨v, rfl, h1, h2⟩
theorem kids_f {w : World} {p : Value} {i : Int} (hf : ∀ W, Below w.heap.size w W → Calls Try.prog 38 #[p, .int .i64 i] W fun e w' => e = .returned (.pointer none) ∧ W = w') :
    Calls Try.prog 18 #[p, .int .i64 i] w fun e w' => e = .returned (.slice none 0 0) ∧ w = w' := by
  have H1 := Lib.hid (hf w (Below.refl _ _))
  clear hf
  go_enter Try.func18, Try.ntmps18
  go_wp2_with (go_at_call 38; ((with_reducible refine (H1.out).mono ?_); rintro e w' ⟨rfl, rfl⟩))
  go_ret
  exact ⟨rfl, rfl⟩
theorem kids_no {p : Value} (h : NoTree w p) {i : Int} (hi : I64 i) : Calls Try.prog 18 #[p, .int .i64 i] w fun e w' => e = .returned (.slice none 0 0) ∧ w = w' :=
  kids_f fun _ hW => find_no (h.next hW) hi
theorem kids_none (h : TreeH w t l nd made cnt) {i : Int} (hi : I64 i) (hb : l.nb i = none) : Calls Try.prog 18 #[treeP t, .int .i64 i] w fun e w' => e = .returned (.slice none 0 0) ∧ w = w' :=
  kids_f fun _ hW => find_none (h.next hW) hi hb
theorem kids_c (h : TreeH w t l nd made cnt) {i : Int} (hi : I64 i) {d : Nd} (hd : nd i = some d) (hk : d.kids.length ≤ 1048576) :
    Calls Try.prog 18 #[treeP t, .int .i64 i] w fun e w' => ∃ v', e = .returned v' ∧ NewInts w v' d.kids w' := by
  obtain ⟨b, hb⟩ := h.block hd
  have H1 := Lib.hid (find_some h hi hb)
  have H2 := Lib.hid (clone_w (l.kv i) d.kids w (h.node i b d hb hd).2 hk)
  have k7 := (h.cells hb hd).1.2.2.2.2.2.2.2
  obtain ⟨kv, hkv⟩ : ∃ v, v = l.kv i := ⟨_, rfl⟩
  rw [← hkv] at H2 k7
  clear h hi hd hb hkv hk
  go_enter Try.func18, Try.ntmps18
  go_wp2_with (first
    | (go_at_call 38; ((with_reducible refine (H1.out).mono ?_); rintro e w' ⟨rfl, rfl⟩))
    | (go_at_call 46; ((with_reducible refine (H2.out).mono ?_); rintro e w' ⟨v', rfl, hn⟩)))
  go_ret
  exact ⟨_, rfl, hn⟩
end
end Go.Proofs.Ytlbbjinkblgfiaa
