/- What is around a set: of the code, and of the document. Slices of structs that a call made itself: what they hold, grown, written. Slices of ints that a call made itself. Windows, and what a tree of them holds: no program. The reference's tree: Place, Is, asked, with. -/
import Derived.Test.YtfdgpbdppenhmaaGreatSac
import Derived.Test.YtfdgpbdppenhmaaGreatSad
import Derived.Test.YtfdgpbdppenhmaaGreatSaa
import Derived.Maps.AppendAt
import Derived.Laws.OwnMore
import Derived.OwnWalk
import Derived.WalkKit
import Derived.Deep.DeepCutAuto
import Derived.Lib.Hide
section
namespace Go.Proofs.YtfdgpbdppenhmaaGreat
open Go.RowKit Go.Shelf
def hullOf (a r : Rc) : Rc := hullR a.x a.y a.w a.h r.x r.y r.w r.h
def boundsR (rs : List Rc) : Rc := rs.foldl hullOf zeroR
theorem take_snoc_get {α : Type} {l : List α} {k : Nat} {x : α} (h : l[k]? = some x) : l.take (k + 1) = l.take k ++ [x] := by
  have hk := (List.getElem?_eq_some_iff.1 h).1
  rw [List.take_succ_eq_append_getElem hk]
  rw [List.getElem?_eq_getElem hk] at h
  injection h with h
  rw [h]
theorem bounds_snoc {rs : List Rc} {k : Nat} {r : Rc} (h : rs[k]? = some r) : boundsR (rs.take (k + 1)) = hullOf (boundsR (rs.take k)) r := by
  rw [take_snoc_get h]; unfold boundsR; rw [List.foldl_append]; rfl
/-- A block of four ints, as a rectangle. -/
def Bst (w0 : World) (n0 n1 : Nat) (Z A : Array Value) (wx : World) : Prop := Blk wx n0 23 Z ∧ Blk wx n1 23 A ∧ Below w0.heap.size w0 wx ∧ w0.heap.size ≤ n0 ∧ w0.heap.size ≤ n1 ∧ n0 ≠ n1
section
variable {w0 wx w1 : World} {n0 n1 : Nat} {Z A : Array Value}
theorem Bst.next (h : Bst w0 n0 n1 Z A wx) (hb : Below wx.heap.size wx w1) : Bst w0 n0 n1 Z A w1 := ⟨h.1.next hb, h.2.1.next hb, h.2.2.1.trans (hb.mono h.2.2.1.size), h.2.2.2⟩
theorem Bst.rset (h : Bst w0 n0 n1 Z A wx) (i : Nat) (v : Value) : Bst w0 n0 n1 Z (A.setIfInBounds i v) (wx.setCell ⟨n1, i, none⟩ v) :=
  ⟨h.1.far h.2.2.2.2.2 _, h.2.1.set_ i v, h.2.2.1.setCell h.2.2.2.2.1 _, h.2.2.2⟩
theorem Bst.zset (h : Bst w0 n0 n1 Z A wx) (i : Nat) (v : Value) : Bst w0 n0 n1 (Z.setIfInBounds i v) A (wx.setCell ⟨n0, i, none⟩ v) :=
  ⟨h.1.set_ i v, h.2.1.far (Ne.symm h.2.2.2.2.2) _, h.2.2.1.setCell h.2.2.2.1 _, h.2.2.2⟩
theorem Bst.four (h : Bst w0 n0 n1 Z A wx) (hA : A.size = 4) (v0 v1 v2 v3 : Value) :
    Bst w0 n0 n1 Z #[v0, v1, v2, v3] ((((wx.setCell ⟨n1, 0, none⟩ v0).setCell ⟨n1, 1, none⟩ v1).setCell ⟨n1, 2, none⟩ v2).setCell ⟨n1, 3, none⟩ v3) := by
  obtain ⟨l⟩ := A
  match l, hA with
  | [a0, a1, a2, a3], _ => exact (((h.rset 0 v0).rset 1 v1).rset 2 v2).rset 3 v3
theorem Bst.last (h : Bst w0 n0 n1 Z A wx) (v0 v1 v2 v3 : Value) :
    Below w0.heap.size w0 ((((wx.setCell ⟨n0, 0, none⟩ v0).setCell ⟨n0, 1, none⟩ v1).setCell ⟨n0, 2, none⟩ v2).setCell ⟨n0, 3, none⟩ v3) :=
  ((((h.zset 0 v0).zset 1 v1).zset 2 v2).zset 3 v3).2.2.1
end
end Go.Proofs.YtfdgpbdppenhmaaGreat
end
section
namespace Go.Proofs.YtfdgpbdppenhmaaGreat
open Go.RowKit Go.Shelf
/-- A slice of the call's own that holds these structs, k cells each. -/
def OwK {α : Type} (enc : α → List Value) (T : TypeId) (k : Nat) (w : World) (base : Nat) (v : Value) (xs : List α) : Prop := w.ownsRow base T k v xs.length (xs.flatMap enc)
section
variable {α : Type} {enc : α → List Value} {T : TypeId} {k : Nat} {w w' : World} {base : Nat} {v : Value} {xs : List α}
theorem OwK.nil (w : World) (base : Nat) : OwK enc T k w base (.slice none 0 0) [] := World.ownsRow_nil w base _ _
theorem OwK.grown {row : Option Nat} (h : OwK enc T k w base v xs) (hg : w.grownBy w' row) (hne : v.ownBlock = none ∨ v.ownBlock ≠ row) : OwK enc T k w' base v xs := World.ownsRow.kept h hg hne
theorem OwK.below (h : OwK enc T k w base v xs) (hb : Below w.heap.size w w') : OwK enc T k w' base v xs := by
  refine h.grown (only_of_below hb none) ?_
  cases v.ownBlock with
  | none => exact .inl rfl
  | some g => exact .inr (by simp)
theorem OwK.less {base' : Nat} (h : OwK enc T k w base v xs) (hb : base' ≤ base) : OwK enc T k w base' v xs := by
  obtain ⟨h1, h2⟩ := h
  refine ⟨h1, ?_⟩
  rcases h2 with h2 | ⟨g, cap, cur, a, b, c⟩
  · exact .inl h2
  · exact .inr ⟨g, cap, cur, a, Nat.le_trans hb b, c⟩
theorem OwK.lt (h : OwK enc T k w base v xs) {g : Nat} (hg : v.ownBlock = some g) : base ≤ g ∧ g < w.heap.size := World.ownsRow.lt h g hg
theorem flat_len (hk : ∀ x, (enc x).length = k) (xs : List α) : (xs.flatMap enc).length = xs.length * k := by
  induction xs with
  | nil => simp
  | cons x t ih => rw [List.flatMap_cons, List.length_append, hk, ih, List.length_cons, Nat.add_mul]; omega
theorem flat_get (hk : ∀ x, (enc x).length = k) : ∀ (xs : List α) (j : Nat) (x : α) (i : Nat) (u : Value), xs[j]? = some x → (enc x)[i]? = some u → (xs.flatMap enc)[j * k + i]? = some u
  | [], j, x, i, u, hx, _ => by simp at hx
  | y :: t, 0, x, i, u, hx, hu => by
    simp only [List.getElem?_cons_zero, Option.some.injEq] at hx
    subst hx
    have hi := (List.getElem?_eq_some_iff.1 hu).1
    rw [List.flatMap_cons, Nat.zero_mul, Nat.zero_add, List.getElem?_append_left hi]
    exact hu
  | y :: t, j + 1, x, i, u, hx, hu => by
    rw [List.getElem?_cons_succ] at hx
    have := flat_get hk t j x i u hx hu
    rw [List.flatMap_cons, List.getElem?_append_right (by rw [hk, Nat.add_mul]; omega), hk]
    rw [show (j + 1) * k + i - k = j * k + i by rw [Nat.add_mul]; omega]
    exact this
/-- Its elements, where there are any. -/
theorem OwK.form (hk : ∀ x, (enc x).length = k) (h : OwK enc T k w base v xs) (hne : xs ≠ []) : ∃ g cap, v = .slice (some ⟨g, 0, none⟩) xs.length cap ∧ base ≤ g ∧ g < w.heap.size ∧
    (∀ (j : Nat) (x : α) (i : Nat) (u : Value), xs[j]? = some x → (enc x)[i]? = some u → w.cell? ⟨g, j * k + i, none⟩ = some u) ∧ ∀ j, w.frozen? ⟨g, j, none⟩ = false := by
  have h0 := h
  obtain ⟨hlen, h1⟩ := h
  rcases h1 with ⟨_, hn⟩ | ⟨g, cap, cur, rfl, hb, hg, hnc, hm, hs, ht⟩
  · exact absurd (List.eq_nil_of_length_eq_zero hn) hne
  · refine ⟨g, cap, rfl, hb, (World.ownsRow.lt h0 g rfl).2, fun j x i u hx hu => ?_, fun j => World.ownsRow.frozenAt h0 j⟩
    have h2 := flat_get hk xs j x i u hx hu
    have h3 := (List.getElem?_eq_some_iff.1 h2).1
    rw [hlen] at h3
    exact (World.ownsRow.cellAt h0 _ h3).trans h2
theorem OwK.slice (h : OwK enc T k w base v xs) : ∃ p c, v = .slice p xs.length c := by
  obtain ⟨_, h1⟩ := h
  rcases h1 with ⟨rfl, hn⟩ | ⟨g, cap, cur, rfl, _⟩
  · rw [hn]; exact ⟨_, _, rfl⟩
  · exact ⟨_, _, rfl⟩
/-- What is owned reads. -/
theorem OwK.reads (hk : ∀ x, (enc x).length = k) (h : OwK enc T k w base v xs) : RdK enc k w v xs := by
  by_cases hne : xs = []
  · subst hne
    obtain ⟨p, c, rfl⟩ := h.slice
    exact ⟨p, c, rfl, fun j x hx => by simp at hx⟩
  · obtain ⟨g, cap, rfl, _, hl, hc, _⟩ := h.form hk hne
    exact ⟨_, cap, rfl, fun j x hx => ⟨g, 0, rfl, hl, fun i u hu => by rw [Nat.zero_add]; exact hc j x i u hx hu⟩⟩
end
theorem encR_len (r : Rc) : (encR r).length = 4 := rfl
theorem RdK.own_rect {w : World} {g j : Nat} {r : Rc} (h : ∀ (i : Nat) (u : Value), (encR r)[i]? = some u → w.cell? ⟨g, j * 4 + i, none⟩ = some u) :
    w.cell? ⟨g, j * 4, none⟩ = some (.int .i64 r.x) ∧ w.cell? ⟨g, j * 4 + 1, none⟩ = some (.int .i64 r.y) ∧ w.cell? ⟨g, j * 4 + 2, none⟩ = some (.int .i64 r.w) ∧ w.cell? ⟨g, j * 4 + 3, none⟩ = some (.int .i64 r.h) :=
  ⟨h 0 _ rfl, h 1 _ rfl, h 2 _ rfl, h 3 _ rfl⟩
theorem flat_set (rs : List Rc) (j : Nat) (r : Rc) (hj : j < rs.length) :
    ((((rs.flatMap encR).set (j * 4) (.int .i64 r.x)).set (j * 4 + 1) (.int .i64 r.y)).set (j * 4 + 2) (.int .i64 r.w)).set (j * 4 + 3) (.int .i64 r.h) = (rs.set j r).flatMap encR := by
  induction rs generalizing j with
  | nil => simp at hj
  | cons a t ih =>
    cases j with
    | zero => simp [List.flatMap_cons, encR]
    | succ j =>
      have h := ih j (by simpa using hj)
      rw [List.set_cons_succ, List.flatMap_cons, List.flatMap_cons, ← h]
      have e : ∀ (l : List Value) (m : Nat) (u : Value), (encR a ++ l).set (4 + m) u = encR a ++ l.set m u := fun l m u => by
        rw [List.set_append_right _ _ (by rw [encR_len]; omega), encR_len]; congr 2; omega
      rw [show (j + 1) * 4 = 4 + j * 4 by omega, e, show 4 + j * 4 + 1 = 4 + (j * 4 + 1) by omega, e, show 4 + j * 4 + 2 = 4 + (j * 4 + 2) by omega, e, show 4 + j * 4 + 3 = 4 + (j * 4 + 3) by omega, e]
/-- One of them written anew. -/
theorem OwK.rect_set {w : World} {base g cap : Nat} {rs : List Rc} {j : Nat} (r : Rc) (hj : j < rs.length) (h : OwK encR 23 4 w base (.slice (some ⟨g, 0, none⟩) rs.length cap) rs) :
    OwK encR 23 4 ((((w.setCell ⟨g, j * 4, none⟩ (.int .i64 r.x)).setCell ⟨g, j * 4 + 1, none⟩ (.int .i64 r.y)).setCell ⟨g, j * 4 + 2, none⟩ (.int .i64 r.w)).setCell ⟨g, j * 4 + 3, none⟩ (.int .i64 r.h)) base (.slice (some ⟨g, 0, none⟩) rs.length cap) (rs.set j r) ∧
      w.grownBy ((((w.setCell ⟨g, j * 4, none⟩ (.int .i64 r.x)).setCell ⟨g, j * 4 + 1, none⟩ (.int .i64 r.y)).setCell ⟨g, j * 4 + 2, none⟩ (.int .i64 r.w)).setCell ⟨g, j * 4 + 3, none⟩ (.int .i64 r.h)) (some g) := by
  obtain ⟨h1, g1⟩ := World.ownsRow.stored h (j * 4) (.int .i64 r.x)
  obtain ⟨h2, g2⟩ := World.ownsRow.stored h1 (j * 4 + 1) (.int .i64 r.y)
  obtain ⟨h3, g3⟩ := World.ownsRow.stored h2 (j * 4 + 2) (.int .i64 r.w)
  obtain ⟨h4, g4⟩ := World.ownsRow.stored h3 (j * 4 + 3) (.int .i64 r.h)
  refine ⟨?_, only_trans (only_trans (only_trans g1 g2) g3) g4⟩
  unfold OwK
  rw [List.length_set, ← flat_set rs j r hj]
  exact h4
theorem rectInfo : (Tryz.prog.info? 23).map (fun i => (i.zero, i.size, i.bytes)) = some (some (.agg #[.int .i64 0, .int .i64 0, .int .i64 0, .int .i64 0]), 4, 32) := by kernel_rfl
theorem flat_snoc (rs : List Rc) (r : Rc) : (rs ++ [r]).flatMap encR = rs.flatMap encR ++ [.int .i64 r.x, .int .i64 r.y, .int .i64 r.w, .int .i64 r.h] := by
  rw [List.flatMap_append]; rfl
theorem oneCell_encR (r : Rc) : ∀ u ∈ ([.int .i64 r.x, .int .i64 r.y, .int .i64 r.w, .int .i64 r.h] : List Value), u.oneCell' = true := by
  intro u hu
  simp only [List.mem_cons, List.not_mem_nil, or_false] at hu
  rcases hu with rfl | rfl | rfl | rfl <;> rfl
theorem cell_four (w : World) (t : TypeId) (v0 v1 v2 v3 : Value) : ∀ (j : Nat) (u : Value), [v0, v1, v2, v3][j]? = some u → (w.alloc (.cells #[v0, v1, v2, v3] t)).cell? ((⟨w.heap.size, 0, none⟩ : Addr).add j) = some u := by
  intro j u hu
  have h := (Blk.new w t #[v0, v1, v2, v3]).cell j
  rw [Addr.add_lit, Nat.zero_add, h]
  simpa using hu
end Go.Proofs.YtfdgpbdppenhmaaGreat
end
section
namespace Go.Proofs.YtfdgpbdppenhmaaGreat
open Go.RowKit
def encI (z : Int) : List Value := [.int .i64 z]
theorem encI_len (z : Int) : (encI z).length = 1 := rfl
theorem flatI (zs : List Int) : zs.flatMap encI = zs.map (Value.int .i64) := by
  induction zs with
  | nil => rfl
  | cons z t ih => rw [List.flatMap_cons, ih]; rfl
theorem intInfo : (Tryz.prog.info? 3).map (fun i => (i.zero, i.size, i.bytes)) = some (some (.int .i64 0), 1, 8) := by kernel_rfl
theorem cell_list (w : World) (t : TypeId) (l : List Value) : ∀ (j : Nat) (u : Value), l[j]? = some u → (w.alloc (.cells l.toArray t)).cell? ((⟨w.heap.size, 0, none⟩ : Addr).add j) = some u := by
  intro j u hu
  have h := (Blk.new w t l.toArray).cell j
  rw [Addr.add_lit, Nat.zero_add, h]
  simpa using hu
theorem oneCell_ints (zs : List Int) : ∀ u ∈ zs.map (Value.int .i64), u.oneCell' = true := by
  intro u hu
  obtain ⟨z, _, rfl⟩ := List.mem_map.1 hu
  rfl
theorem cell_list_at (w : World) (t : TypeId) (l : List Value) (k : Nat) (hk : w.heap.size = k) : ∀ (j : Nat) (u : Value), l[j]? = some u → (w.alloc (.cells l.toArray t)).cell? ((⟨k, 0, none⟩ : Addr).add j) = some u := by subst hk; exact cell_list w t l
end Go.Proofs.YtfdgpbdppenhmaaGreat
end
section
namespace Go.Proofs.YtfdgpbdppenhmaaGreat
/-- A window, as it is told. -/
structure Win where
  id : Int
  par : Int
  x : Int
  y : Int
  w : Int
  h : Int
  on : Bool
/-- A window, and the numbers of those in it. -/
structure Nd where
  win : Win
  kids : List Int
/-- f, but at i. -/
def upd {α : Type} (f : Int → α) (i : Int) (v : α) : Int → α := fun j => if j = i then v else f j
theorem upd_same {α : Type} (f : Int → α) (i : Int) (v : α) : upd f i v i = v := if_pos rfl
theorem upd_other {α : Type} (f : Int → α) {i j : Int} (v : α) (h : j ≠ i) : upd f i v j = f j := if_neg h
theorem upd_self {α : Type} {f : Int → α} {i : Int} {v : α} (h : f i = v) : upd f i v = f := by
  funext j
  unfold upd
  split
  · next e => rw [e, h]
  · rfl
theorem upd_twice {α : Type} (f : Int → α) (i : Int) (u v : α) : upd (upd f i u) i v = upd f i v := by
  funext j
  unfold upd
  split <;> simp_all
theorem upd_comm {α : Type} (f : Int → α) {i j : Int} (u v : α) (h : i ≠ j) : upd (upd f i u) j v = upd (upd f j v) i u := by
  funext k
  unfold upd
  by_cases h1 : k = i <;> by_cases h2 : k = j <;> simp_all
/-- A list without a number. -/
def strike (k : Int) (xs : List Int) : List Int := xs.filter (fun x => decide (x ≠ k))
def I64 (i : Int) : Prop := -9223372036854775808 ≤ i ∧ i ≤ 9223372036854775807
def zeroW : Win := ⟨0, 0, 0, 0, 0, 0, false⟩
end Go.Proofs.YtfdgpbdppenhmaaGreat
end
section
namespace Go.Proofs.YtfdgpbdppenhmaaGreat
open Go.RowKit Go.Shelf
/-- A tree's root and count. -/
structure RT where
  x : Int
  y : Int
  w : Int
  h : Int
  last : Int
abbrev refV (R : RT) (sv : Value) : Value := .agg #[.int .i64 R.x, .int .i64 R.y, .int .i64 R.w, .int .i64 R.h, .int .i64 R.last, sv]
abbrev refA (R : RT) (sv : Value) : Array Value := #[.int .i64 R.x, .int .i64 R.y, .int .i64 R.w, .int .i64 R.h, .int .i64 R.last, sv]
def encW (v : Win) : List Value := [.int .i64 v.id, .int .i64 v.par, .int .i64 v.x, .int .i64 v.y, .int .i64 v.w, .int .i64 v.h, .bool v.on]
theorem encW_len (v : Win) : (encW v).length = 7 := rfl
/-- A slice of windows reads. -/
abbrev RW (w : World) (sv : Value) (L : List Win) : Prop := RdK encW 7 w sv L
theorem RW.cells {w : World} {b o j : Nat} {v : Win} (h : ∀ (i : Nat) (u : Value), (encW v)[i]? = some u → w.cell? ⟨b, o + j * 7 + i, none⟩ = some u) :
    w.cell? ⟨b, o + j * 7, none⟩ = some (.int .i64 v.id) ∧ w.cell? ⟨b, o + j * 7 + 1, none⟩ = some (.int .i64 v.par) ∧ w.cell? ⟨b, o + j * 7 + 2, none⟩ = some (.int .i64 v.x) ∧ w.cell? ⟨b, o + j * 7 + 3, none⟩ = some (.int .i64 v.y) ∧
      w.cell? ⟨b, o + j * 7 + 4, none⟩ = some (.int .i64 v.w) ∧ w.cell? ⟨b, o + j * 7 + 5, none⟩ = some (.int .i64 v.h) ∧ w.cell? ⟨b, o + j * 7 + 6, none⟩ = some (.bool v.on) :=
  ⟨h 0 _ rfl, h 1 _ rfl, h 2 _ rfl, h 3 _ rfl, h 4 _ rfl, h 5 _ rfl, h 6 _ rfl⟩
/-- Of a number its place. -/
def placeN (i : Int) : List Win → Option Nat
  | [] => none
  | v :: t => if v.id = i then some 0 else (placeN i t).map (· + 1)
def placeI (o : Option Nat) : Int := match o with
  | some k => (k : Int)
  | none => -1
theorem placeN_at {i : Int} : ∀ (L : List Win) (k : Nat) (v : Win), L[k]? = some v → v.id = i → (∀ (j : Nat) (u : Win), j < k → L[j]? = some u → u.id ≠ i) → placeN i L = some k
  | [], k, v, h, _, _ => by simp at h
  | a :: t, 0, v, h, hi, _ => by
    simp at h; subst h
    simp [placeN, hi]
  | a :: t, k + 1, v, h, hi, hj => by
    have h0 := hj 0 a (by omega) rfl
    have ih := placeN_at t k v (by simpa using h) hi (fun j u hj' hu => hj (j + 1) u (by omega) (by simpa using hu))
    simp [placeN, h0, ih]
theorem placeN_no {i : Int} : ∀ (L : List Win), (∀ u ∈ L, u.id ≠ i) → placeN i L = none
  | [], _ => rfl
  | a :: t, h => by
    have ih := placeN_no t (fun u hu => h u (List.mem_cons_of_mem _ hu))
    simp [placeN, h a (List.mem_cons_self ..), ih]
theorem placeN_get {i : Int} : ∀ (L : List Win) (k : Nat), placeN i L = some k → ∃ v, L[k]? = some v ∧ v.id = i ∧ k < L.length
  | [], k, h => by simp [placeN] at h
  | a :: t, k, h => by
    unfold placeN at h
    split at h
    · next e => injection h with h; subst h; exact ⟨a, rfl, e, by simp⟩
    · obtain ⟨k', h1, rfl⟩ := Option.map_eq_some_iff.1 h
      obtain ⟨v, h2, h3, h4⟩ := placeN_get t k' h1
      exact ⟨v, by simpa using h2, h3, by simpa using h4⟩
theorem placeN_none {i : Int} : ∀ (L : List Win), placeN i L = none → ∀ u ∈ L, u.id ≠ i
  | [], _, u, hu => by cases hu
  | a :: t, h, u, hu => by
    unfold placeN at h
    split at h
    · cases h
    · next e =>
      rcases List.mem_cons.1 hu with rfl | hu
      · exact e
      · exact placeN_none t (by simpa using h) u hu
/-- Is there such a window? -/
def isL (L : List Win) (i : Int) : Bool := i == 0 || (placeN i L).isSome
def askL (L : List Win) (i : Int) : Int := if isL L i = false then 6 else if i = 0 then 1 else 0
section
variable {w : World} {R : RT} {sv : Value} {L : List Win}
set_option maxRecDepth 100000 in
set_option maxHeartbeats 4000000 in
theorem place_c (h : RW w sv L) (hL : L.length ≤ 1048576) (i : Int) :
    Calls Tryz.prog 64 #[refV R sv, .int .i64 i] w fun e w' => e = .returned (.int .i64 (placeI (placeN i L))) ∧ Below w.heap.size w w' := by
  obtain ⟨p, c, rfl, hc⟩ := h
  obtain ⟨wb, hwb⟩ : ∃ wb, wb = w.alloc (.cells (refA R (.slice p L.length c)) 54) := ⟨_, rfl⟩
  have hbel : Below w.heap.size w wb := by rw [hwb]; exact (Below.refl _ _).alloc (Nat.le_refl _) _
  have b5 : wb.cell? ⟨w.heap.size, 5, none⟩ = some (.slice p L.length c) := by rw [hwb]; exact (Blk.new w _ _).at_ (i := 5) rfl
  obtain ⟨n, hn⟩ : ∃ n, n = L.length := ⟨_, rfl⟩
  rw [← hn] at b5 hwb hL ⊢
  have HC := Lib.hid (fun (j : Nat) (v : Win) (hv : L[j]? = some v) => (show ∃ b o, p = some ⟨b, o, none⟩ ∧ ∀ (i : Nat) (u : Value), (encW v)[i]? = some u → wb.cell? ⟨b, o + j * 7 + i, none⟩ = some u from by
    obtain ⟨b, o, h1, h2, h3⟩ := hc j v hv
    exact ⟨b, o, h1, fun i u hu => (hbel.cell (p := ⟨b, o + j * 7 + i, none⟩) h2).trans (h3 i u hu)⟩))
  have HN := Lib.hid hn
  have HB := Lib.hid hbel
  have HW := Lib.hid hwb
  have hm0 : (n : Int) ≤ 1048576 := by omega
  clear hc hn hbel
  go_enter Tryz.func64, Tryz.ntmps64
  go_upto_region 1 with fail
  rw [← HW.out]
  clear hwb
  go_wp2_with fail
  go_loopw [5] (fun z wr => ∃ k : Nat, k ≤ n ∧ z = .int .i64 k ∧ wr = wb ∧ Asd (∀ (j : Nat) (u : Win), j < k → L[j]? = some u → u.id ≠ i)) (fun z _ => n - (intOf z).toNat)
  case atStart => exact ⟨0, Nat.zero_le _, rfl, rfl, fun j u hj => absurd hj (Nat.not_lt_zero _)⟩
  case round =>
    obtain ⟨k, hk, rfl, rfl, hA⟩ := hrel
    have HA := Lib.hid (show ∀ (j : Nat) (u : Win), j < k → L[j]? = some u → u.id ≠ i from hA)
    clear hA
    have hi0 : (0 : Int) ≤ (k : Int) := by omega
    by_cases hlt : k < n
    · obtain ⟨v, hv⟩ : ∃ v, L[k]? = some v := ⟨_, List.getElem?_eq_getElem (by rw [← HN.out]; exact hlt)⟩
      obtain ⟨b, o, rfl, hb2⟩ := HC.out k v hv
      obtain ⟨r0, -⟩ := RW.cells hb2
      have HV := Lib.hid hv
      clear hb2 hv
      have hi1 : (k : Int) < (n : Int) := by omega
      by_cases hvi : v.id = i
      · have h1 : (v.id == i) = true := by simpa using hvi
        have HP := Lib.hid (placeN_at L k v HV.out hvi HA.out)
        clear hvi
        go_wp2_with fail
        go_ret
        exact ⟨by rw [HP.out]; rfl, HB.out⟩
      · have h1 : (v.id == i) = false := by simpa using hvi
        have HVI := Lib.hid hvi
        clear hvi
        go_wp2_with fail
        go_roundw
        case rel => exact ⟨k + 1, by omega, by go_num, by first | trivial | rfl, fun j u hj hu => by
          rcases Nat.lt_or_ge j k with h | h
          · exact HA.out j u h hu
          · obtain rfl : j = k := by omega
            rw [HV.out] at hu; injection hu with hu; subst hu; exact HVI.out⟩
        case measure => simp [intOf]; omega
    · have HP := Lib.hid (show placeN i L = none from placeN_no L fun u hu => by
        obtain ⟨j, hj⟩ := List.getElem?_of_mem hu
        exact HA.out j u (by have h1 := (List.getElem?_eq_some_iff.1 hj).1; have h2 := HN.out; omega) hj)
      go_wp2_with fail
      go_ret
      exact ⟨by rw [HP.out]; rfl, HB.out⟩
theorem place_ge (o : Option Nat) : decide (0 ≤ placeI o) = o.isSome := by
  cases o <;> simp [placeI]
theorem is_c (h : RW w sv L) (hL : L.length ≤ 1048576) (i : Int) :
    Calls Tryz.prog 59 #[refV R sv, .int .i64 i] w fun e w' => e = .returned (.bool (isL L i)) ∧ Below w.heap.size w w' := by
  obtain ⟨wb, hwb⟩ : ∃ wb, wb = w.alloc (.cells (refA R sv) 54) := ⟨_, rfl⟩
  have hbel : Below w.heap.size w wb := by rw [hwb]; exact (Below.refl _ _).alloc (Nat.le_refl _) _
  have hbx : Blk wb w.heap.size 54 (refA R sv) := by rw [hwb]; exact Blk.new w _ _
  have b0 := hbx.at_ (i := 0) rfl
  have b1 := hbx.at_ (i := 1) rfl
  have b2 := hbx.at_ (i := 2) rfl
  have b3 := hbx.at_ (i := 3) rfl
  have b4 := hbx.at_ (i := 4) rfl
  have b5 := hbx.at_ (i := 5) rfl
  obtain ⟨z, hz⟩ : ∃ z, z = placeI (placeN i L) := ⟨_, rfl⟩
  have HP := Lib.hid (hz ▸ place_c (R := R) (h.below hbel) hL i)
  have HD := Lib.hid (show decide (0 ≤ z) = (placeN i L).isSome by rw [hz]; exact place_ge _)
  have HB := Lib.hid hbel
  have HW := Lib.hid hwb
  clear h hbel hbx hz
  by_cases hi : i = 0
  · have h1 : (i == 0) = true := by simpa using hi
    have HR := Lib.hid (show isL L i = true by unfold isL; rw [h1]; rfl)
    clear hi
    go_enter Tryz.func59, Tryz.ntmps59
    go_upto_region 1 with fail
    rw [← HW.out]
    clear hwb
    go_wp2_with fail
    go_ret
    exact ⟨ret_bool HR.out.symm, HB.out⟩
  · have h1 : (i == 0) = false := by simpa using hi
    have HR := Lib.hid (show isL L i = decide (0 ≤ z) by unfold isL; rw [h1, HD.out]; rfl)
    clear hi
    go_enter Tryz.func59, Tryz.ntmps59
    go_upto_region 1 with fail
    rw [← HW.out]
    clear hwb
    go_wp2_with (go_at_call 64; ((with_reducible refine (HP.out).mono ?_); rintro e w1 ⟨rfl, hb⟩); have HB1 := Lib.hid hb; clear hb)
    go_ret
    exact ⟨ret_bool HR.out.symm, HB1.out.on HB.out HB.out.size⟩
theorem asked_c (h : RW w sv L) (hL : L.length ≤ 1048576) (i : Int) :
    Calls Tryz.prog 83 #[refV R sv, .int .i64 i] w fun e w' => e = .returned (.int .i64 (askL L i)) ∧ Below w.heap.size w w' := by
  obtain ⟨wb, hwb⟩ : ∃ wb, wb = w.alloc (.cells (refA R sv) 54) := ⟨_, rfl⟩
  have hbel : Below w.heap.size w wb := by rw [hwb]; exact (Below.refl _ _).alloc (Nat.le_refl _) _
  have hbx : Blk wb w.heap.size 54 (refA R sv) := by rw [hwb]; exact Blk.new w _ _
  have b0 := hbx.at_ (i := 0) rfl
  have b1 := hbx.at_ (i := 1) rfl
  have b2 := hbx.at_ (i := 2) rfl
  have b3 := hbx.at_ (i := 3) rfl
  have b4 := hbx.at_ (i := 4) rfl
  have b5 := hbx.at_ (i := 5) rfl
  have HP := Lib.hid (is_c (R := R) (h.below hbel) hL i)
  have HB := Lib.hid hbel
  have HW := Lib.hid hwb
  clear h hbel hbx
  cases hs : isL L i with
  | false =>
    rw [hs] at HP
    have HR := Lib.hid (show askL L i = 6 by unfold askL; rw [if_pos hs])
    clear hs
    go_enter Tryz.func83, Tryz.ntmps83
    go_upto_region 1 with fail
    rw [← HW.out]
    clear hwb
    go_wp2_with (go_at_call 59; ((with_reducible refine (HP.out).mono ?_); rintro e w1 ⟨rfl, hb⟩); have HB1 := Lib.hid hb; clear hb)
    go_ret
    exact ⟨ret_int HR.out.symm, HB1.out.on HB.out HB.out.size⟩
  | true =>
    rw [hs] at HP
    by_cases hi : i = 0
    · have h1 : (i == 0) = true := by simpa using hi
      have HR := Lib.hid (show askL L i = 1 by unfold askL; rw [if_neg (by rw [hs]; simp), if_pos hi])
      clear hs hi
      go_enter Tryz.func83, Tryz.ntmps83
      go_upto_region 1 with fail
      rw [← HW.out]
      clear hwb
      go_wp2_with (go_at_call 59; ((with_reducible refine (HP.out).mono ?_); rintro e w1 ⟨rfl, hb⟩); have HB1 := Lib.hid hb; clear hb)
      go_ret
      exact ⟨ret_int HR.out.symm, HB1.out.on HB.out HB.out.size⟩
    · have h1 : (i == 0) = false := by simpa using hi
      have HR := Lib.hid (show askL L i = 0 by unfold askL; rw [if_neg (by rw [hs]; simp), if_neg hi])
      clear hs hi
      go_enter Tryz.func83, Tryz.ntmps83
      go_upto_region 1 with fail
      rw [← HW.out]
      clear hwb
      go_wp2_with (go_at_call 59; ((with_reducible refine (HP.out).mono ?_); rintro e w1 ⟨rfl, hb⟩); have HB1 := Lib.hid hb; clear hb)
      go_ret
      exact ⟨ret_int HR.out.symm, HB1.out.on HB.out HB.out.size⟩
theorem with_c (R : RT) (p p' : Option Addr) (n n' c c' : Nat) (w : World) : Calls Tryz.prog 85 #[refV R (.slice p n c), .slice p' n' c'] w fun e w' => e = .returned (refV R (.slice p' n' c')) ∧ Below w.heap.size w w' := by
  go_enter Tryz.func85, Tryz.ntmps85
  go_wp2_with fail
  refine bodyPost_ret (v := refV R (.slice p' n' c')) (by simp [results, Tryz.results85, go_sem]) rfl ?_
  exact ⟨rfl, ((Below.refl _ w).alloc (Nat.le_refl _) _).alloc (by simp) _⟩
end
end Go.Proofs.YtfdgpbdppenhmaaGreat
end
