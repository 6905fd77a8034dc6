/- What the reference's Set keeps; its faults. -/
import Derived.Test.YtfabknabkcfpjaaRjF
import Derived.Deep.AppendLies
namespace Go.Proofs.Ytfabknabkcfpjaa
open Go.RowKit Go.Shelf
theorem apart_types {w : World} {v vo : Value} {zs : List Int} {rs : List Rc} {B : Nat} (h1 : OI w v zs) (h2 : OwK encR 40 4 w B vo rs) : v.ownBlock = none ∨ v.ownBlock ≠ vo.ownBlock := by
  rcases h1.2 with ⟨k1, _⟩ | ⟨g, cap, cur, k1, _, k2, _⟩
  · exact .inl (by rw [k1]; rfl)
  · right
    intro e
    rcases h2.2 with ⟨k3, _⟩ | ⟨g', cap', cur', k3, _, k4, _⟩
    · rw [k1, k3] at e; simp [Value.ownBlock] at e
    · rw [k1, k3] at e
      simp only [Value.ownBlock, Option.some.injEq] at e
      subst e
      rw [k2] at k4
      simp at k4
/-- What the reference's Set keeps: rows of numbers, the rectangles so far, what was there before. -/
def Gst (w0 : World) (l : List (Value × List Int)) (vo : Value) (rs : List Rc) (wx : World) : Prop := (∀ p ∈ l, OI wx p.1 p.2) ∧ OwK encR 40 4 wx w0.heap.size vo rs ∧ Below w0.heap.size w0 wx
section
variable {w0 wx w1 : World} {l l' : List (Value × List Int)} {v vo vo' : Value} {zs : List Int} {rs rs' : List Rc}
theorem Gst.next (h : Gst w0 l vo rs wx) (hb : Below wx.heap.size wx w1) : Gst w0 l vo rs w1 := ⟨fun p hp => (h.1 p hp).below hb, h.2.1.below hb, below_then h.2.2 hb⟩
theorem Gst.drew (h : Gst w0 l vo rs wx) : Gst w0 l vo rs wx.drew := ⟨h.1, h.2.1, h.2.2.drew⟩
theorem Gst.drewN (h : Gst w0 l vo rs wx) (n : Nat) : Gst w0 l vo rs (wx.drewN n) := ⟨h.1, h.2.1, below_drewN h.2.2 n⟩
theorem Gst.alloc (h : Gst w0 l vo rs wx) (o : Obj) : Gst w0 l vo rs (wx.alloc o) := h.next (below_new _ _)
theorem Gst.add (h : Gst w0 l vo rs wx) (hb : Below wx.heap.size wx w1) (hO : OI w1 v zs) : Gst w0 ((v, zs) :: l) vo rs w1 := by
  have h2 := h.next hb
  refine ⟨fun p hp => ?_, h2.2⟩
  rcases List.mem_cons.1 hp with rfl | hp
  · exact hO
  · exact h2.1 p hp
theorem Gst.sub (h : Gst w0 l vo rs wx) (hs : ∀ p ∈ l', p ∈ l) : Gst w0 l' vo rs wx := ⟨fun p hp => h.1 p (hs p hp), h.2⟩
theorem Gst.grow (h : Gst w0 l vo rs wx) (hg : wx.grownBy w1 vo.ownBlock) (ho : OwK encR 40 4 w1 w0.heap.size vo' rs') : Gst w0 l vo' rs' w1 :=
  ⟨fun p hp => OwK.grown (h.1 p hp) hg (apart_types (h.1 p hp) h.2.1), ho, below_only h.2.2 hg h.2.2.size (fun _ hk => (h.2.1.lt hk).1)⟩
theorem Gst.get (h : Gst w0 l vo rs wx) (j : Nat) (hj : l[j]? = some (v, zs)) : OI wx v zs := h.1 _ (List.mem_of_getElem? hj)
end
theorem flat_h : ∀ (rs : List Rc) (j : Nat) (r : Rc) (v : Int), rs[j]? = some r → (rs.flatMap encR).set (j * 4 + 3) (.int .i64 v) = (rs.set j ⟨r.x, r.y, r.w, v⟩).flatMap encR
  | [], j, r, v, h => by simp at h
  | s :: t, 0, r, v, h => by
    simp only [List.getElem?_cons_zero, Option.some.injEq] at h
    subst h
    rfl
  | s :: t, j + 1, r, v, h => by
    have ih := flat_h t j r v (by simpa using h)
    rw [List.flatMap_cons, List.set_append_right _ _ (by rw [encR_len]; omega), encR_len, show (j + 1) * 4 + 3 - 4 = j * 4 + 3 by omega, ih, List.set_cons_succ, List.flatMap_cons]
/-- A rectangle's height, written. -/
theorem Gst.high {w0 wx : World} {l : List (Value × List Int)} {g n cap j : Nat} {rs : List Rc} {r : Rc} (h : Gst w0 l (.slice (some ⟨g, 0, none⟩) n cap) rs wx) (hn : n = rs.length) (hr : rs[j]? = some r) (v : Int) :
    Gst w0 l (.slice (some ⟨g, 0, none⟩) n cap) (rs.set j ⟨r.x, r.y, r.w, v⟩) (wx.setCell ⟨g, j * 4 + 3, none⟩ (.int .i64 v)) := by
  subst hn
  obtain ⟨h1, g1⟩ := World.ownsRow.stored h.2.1 (j * 4 + 3) (.int .i64 v)
  refine h.grow g1 ?_
  unfold OwK
  rw [List.length_set, ← flat_h rs j r v hr]
  exact h1
/-- A rectangle's cells. -/
theorem Gst.cells {w0 wx : World} {l : List (Value × List Int)} {g n cap j : Nat} {rs : List Rc} {r : Rc} (h : Gst w0 l (.slice (some ⟨g, 0, none⟩) n cap) rs wx) (hr : rs[j]? = some r) :
    wx.cell? ⟨g, j * 4 + 1, none⟩ = some (.int .i64 r.y) ∧ wx.cell? ⟨g, j * 4 + 3, none⟩ = some (.int .i64 r.h) ∧ wx.frozen? ⟨g, j * 4 + 3, none⟩ = false := by
  obtain ⟨g', cap', hv, _, _, h2, h3⟩ := h.2.1.form encR_len (fun e => by rw [e] at hr; simp at hr)
  simp only [Value.slice.injEq, Option.some.injEq, Addr.mk.injEq] at hv
  obtain ⟨⟨rfl, -⟩, -⟩ := hv
  exact ⟨h2 j r 1 _ hr rfl, h2 j r 3 _ hr rfl, h3 _⟩
theorem Gst.some_ {w0 wx : World} {l : List (Value × List Int)} {p : Option Addr} {n cap : Nat} {rs : List Rc} (h : Gst w0 l (.slice p n cap) rs wx) (hne : 0 < rs.length) : ∃ g, p = some ⟨g, 0, none⟩ ∧ n = rs.length := by
  obtain ⟨g', cap', hv, _⟩ := h.2.1.form encR_len (fun e => by rw [e] at hne; simp at hne)
  simp only [Value.slice.injEq] at hv
  exact ⟨g', hv.1, hv.2.1⟩
def SetR (rl : Bool → Bool → Bool) (la lb : List Rc) (w w' : World) (e : Ending) : Prop :=
  ∃ v k L, e = .returned (.tuple #[v, .int .i64 k]) ∧ Told rl la lb k L ∧ RdK encR 4 w' v L ∧ Below w.heap.size w w'
theorem bad_snoc {l : List Rc} {i : Nat} {r : Rc} (h : ∀ s ∈ l.take i, badR s = false) (hr : l[i]? = some r) (hb : badR r = false) : ∀ s ∈ l.take (i + 1), badR s = false := by
  intro s hs
  rw [take_snoc_get hr] at hs
  rcases List.mem_append.1 hs with k | k
  · exact h s k
  · rw [List.mem_singleton.1 k]; exact hb
theorem fault_bad {la lb : List Rc} {i : Nat} {r : Rc} (ha : la.length ≤ 256) (hb : lb.length ≤ 256) (hr : (la ++ lb)[i]? = some r) (h : badR r = true) : faultI la lb = 10 := by
  unfold faultI
  rw [if_neg (by omega), if_pos]
  rcases List.mem_append.1 (List.mem_of_getElem? hr) with k | k
  · exact .inl (List.any_eq_true.2 ⟨r, k, h⟩)
  · exact .inr (List.any_eq_true.2 ⟨r, k, h⟩)
theorem fault_none {la lb : List Rc} (ha : la.length ≤ 256) (hb : lb.length ≤ 256) (h : ∀ s ∈ la ++ lb, badR s = false) : Ok la ∧ Ok lb :=
  ⟨⟨ha, fun r hr => h r (List.mem_append_left _ hr)⟩, ⟨hb, fun r hr => h r (List.mem_append_right _ hr)⟩⟩
/-- What the reference finds of its edges. -/
theorem edges_all (rl : Bool → Bool → Bool) (hr : rl false false = false) (la lb : List Rc) (ha : Ok la) (hb : Ok lb) :
    (edgL false (edgL false [] la) lb).Pairwise (· < ·) ∧ (edgL false (edgL false [] la) lb).length ≤ 100000 ∧ (∀ x ∈ edgL false (edgL false [] la) lb, -32768 ≤ x) ∧
    ((edgL true (edgL true [] la) lb).Pairwise (· < ·) ∧ (∀ v ∈ edgL true (edgL true [] la) lb, -32768 ≤ v ∧ v ≤ 32768) ∧ (edgL true (edgL true [] la) lb).length ≤ 1024) ∧ True ∧
    ((∀ y, ∀ r ∈ rowC (fun x => rl (inS la x y) (inS lb x y)) (edgL false (edgL false [] la) lb), -32768 ≤ r.1 ∧ r.1 < r.2 ∧ r.2 ≤ 32768) ∧ ∀ y, (rowC (fun x => rl (inS la x y) (inS lb x y)) (edgL false (edgL false [] la) lb)).length ≤ 1024) ∧
    Rg.Form (takes rl la lb) ((setF (fun y => rowC (fun x => rl (inS la x y) (inS lb x y)) (edgL false (edgL false [] la) lb)) (edgL true (edgL true [] la) lb) ((edgL true (edgL true [] la) lb).length - 1)).rs.map tp) := by
  have hup : ∀ d, (edgL d (edgL d [] la) lb).Pairwise (· < ·) := fun d => edgL_up _ _ _ (edgL_up _ _ _ List.Pairwise.nil)
  have hln : ∀ d, (edgL d (edgL d [] la) lb).length ≤ 1024 := fun d => by
    have h1 := edgL_len d [] la
    have h2 := edgL_len d (edgL d [] la) lb
    have h3 := ha.1
    have h4 := hb.1
    simp at h1
    omega
  have hrng : ∀ d, ∀ v ∈ edgL d (edgL d [] la) lb, -32768 ≤ v ∧ v ≤ 32768 := by
    intro d v hv
    rw [edgL_mem, edgL_mem] at hv
    rcases hv with (h | ⟨r, _, h2, h3⟩) | ⟨r, _, h2, h3⟩
    · cases h
    · rw [emptyB_iff] at h2
      split at h3 <;> omega
    · rw [emptyB_iff] at h2
      split at h3 <;> omega
  refine ⟨hup _, by have := hln false; omega, fun x hx => (hrng _ x hx).1, ⟨hup _, hrng _, hln _⟩, trivial, ⟨fun y => rowC_in (hup _) (hrng _), fun y => ?_⟩, ref_form rl hr la lb ha.2 hb.2⟩
  have h1 := hln false
  have h2 := cells_len (inq := fun x => rl (inS la x y) (inS lb x y)) (xs := edgL false (edgL false [] la) lb) ((edgL false (edgL false [] la) lb).length - 1)
  unfold rowC
  omega
theorem setF_len {now : Int → List (Int × Int)} {K : Nat} (hn : ∀ y, (now y).length ≤ K) (ys : List Int) : ∀ j, (setF now ys j).rs.length ≤ j * K
  | 0 => Nat.zero_le _
  | j + 1 => by
    have ih := setF_len hn ys j
    have e : (j + 1) * K = j * K + K := Nat.succ_mul j K
    cases h1 : ys[j]? with
    | none =>
      have e2 : setF now ys (j + 1) = setF now ys j := by
        show (match ys[j]?, ys[j + 1]? with | some a, some b => _ | _, _ => _) = _
        rw [h1]
      rw [e2]; omega
    | some a =>
      cases h2 : ys[j + 1]? with
      | none =>
        have e2 : setF now ys (j + 1) = setF now ys j := by
          show (match ys[j]?, ys[j + 1]? with | some a, some b => _ | _, _ => _) = _
          rw [h1, h2]
        rw [e2]; omega
      | some b =>
        rw [setF_next h1 h2]
        have := hn a
        dsimp only
        unfold layR
        split
        · rw [hUp_len]; omega
        · rw [List.length_append, List.length_map]
          omega
theorem fault_long {la lb : List Rc} (h : 256 < la.length ∨ 256 < lb.length) : faultI la lb = 2 := by unfold faultI; rw [if_pos h]
end Go.Proofs.Ytfabknabkcfpjaa
