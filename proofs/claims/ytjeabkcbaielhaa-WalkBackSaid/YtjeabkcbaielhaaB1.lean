/- The law's example. ConsRemoves, walked. What the calls that change a tree answer, in one form for the code's and the document's. ConsChanges, walked. Plain: what is told of trees are trees: wrapped, of another weight, without a client, with one more. Plain: a client put in and removed again. The document's Top. Are two rows of numbers the same? Rows of numbers, as they read. ConsTells, walked. What laws ask of a container that lies in memory, in one form. Walking about a tree: ways as pointers go along them, and the small functions of the code. Walking about, the code's: how many containers, the last seen client, the way that is gone from. walk.Next. Plain: the last seen client of what stands below the root. -/
import Derived.Test.YtjeabkcbaielhaaBA
import Derived.Test.YtjeabkcbaielhaaCpZ
import Derived.Test.YtjeabkcbaielhaaBZ
import Derived.Test.YtjeabkcbaielhaaCpL
import Derived.Test.YtjeabkcbaielhaaCpX
import Derived.Test.YtjeabkcbaielhaaCpQ
import Derived.Test.YtjeabkcbaielhaaCpY
import Derived.Test.YtjeabkcbaielhaaCpI
import Derived.Test.YtjeabkcbaielhaaCpR
import Derived.Test.YtjeabkcbaielhaaCpJ
import Derived.Test.YtjeabkcbaielhaaCpK
import Derived.Test.YtjeabkcbaielhaaCoT
import Derived.Test.YtjeabkcbaielhaaCoN
section
namespace Go.Proofs.Ytjeabkcbaielhaa.Co
open Go.RowKit Go.Shelf
theorem KV.pair {w : World} {g : Nat} {x y : Con} {s t : Value} (hb : Blk w g 24 #[.int .i64 x.a.k, .int .i64 x.a.w, .int .i64 x.a.c, .int .i64 x.a.s, s, .int .i64 y.a.k, .int .i64 y.a.w, .int .i64 y.a.c, .int .i64 y.a.s, t]) {Z : Nat → Prop} (hz : Z g) (hx : KV w Z x.ks s) (hwx : x.a.wide) (hy : KV w Z y.ks t) (hwy : y.a.wide) : KV w Z [x, y] (.slice (some ⟨g, 0, none⟩) 2 2) := by
  refine .mk [x, y] _ 2 (fun j => if j = 0 then s else t) (by simp) (by simp) (fun j z hz' => ?_) (fun j z hz' => ?_)
  · have hj := (List.getElem?_eq_some_iff.1 hz').1
    simp at hj
    obtain rfl | rfl : j = 0 ∨ j = 1 := by omega
    · obtain rfl := Option.some.inj hz'
      refine ⟨g, 0, rfl, hz, hb.lt, hwx, fun i u hu => ?_⟩
      have hi := (List.getElem?_eq_some_iff.1 hu).1
      simp [encC] at hi
      have := hb.at_ (i := i) (v := u) (by
        obtain rfl | rfl | rfl | rfl | rfl : i = 0 ∨ i = 1 ∨ i = 2 ∨ i = 3 ∨ i = 4 := by omega
        all_goals exact hu)
      simpa using this
    · obtain rfl := Option.some.inj hz'
      refine ⟨g, 0, rfl, hz, hb.lt, hwy, fun i u hu => ?_⟩
      have hi := (List.getElem?_eq_some_iff.1 hu).1
      simp [encC] at hi
      have := hb.at_ (i := 5 + i) (v := u) (by
        obtain rfl | rfl | rfl | rfl | rfl : i = 0 ∨ i = 1 ∨ i = 2 ∨ i = 3 ∨ i = 4 := by omega
        all_goals exact hu)
      simpa using this
  · have hj := (List.getElem?_eq_some_iff.1 hz').1
    simp at hj
    obtain rfl | rfl : j = 0 ∨ j = 1 := by omega
    · obtain rfl := Option.some.inj hz'
      exact hx
    · obtain rfl := Option.some.inj hz'
      exact hy
theorem i64c (n : Int) (h : -100000 ≤ n ∧ n ≤ 100000) : I64 n := by unfold I64; omega
end Go.Proofs.Ytjeabkcbaielhaa.Co
end
section
namespace Go.Proofs.Ytjeabkcbaielhaa.Co
open Go.RowKit Go.Shelf
theorem same_t {Z Z' : Nat → Prop} {y z : Con} {s u : Value} {w : World} (h : sameB y z = true) (h1 : KV w Z y.ks s) (h2 : KV w Z' z.ks u) : Calls Try.prog 21 #[conV y.a s, conV z.a u] w fun e w' => e = .returned (.bool true) ∧ Below w.heap.size w w' := by
  have := same_c Z Z' y z s u w h1 h2
  rwa [h] at this
theorem remove_fine {x : Con} {c : Int} (hf : fine x) (h : (removeD x c).2 = 0) : fine (removeD x c).1 := by
  rw [removeD_asked] at h ⊢
  by_cases h0 : askedI x c = 0
  · rw [if_pos h0]
    obtain ⟨a, ks⟩ := x
    obtain ⟨h1, h2, h3⟩ := fine_kids hf
    exact fine_mk h1 (Nat.le_trans (lessL_len c ks) h2) (lessL_fine h3)
  · rw [if_neg h0] at h; exact absurd h h0
end Go.Proofs.Ytjeabkcbaielhaa.Co
end
section
namespace Go.Proofs.Ytjeabkcbaielhaa.Co
open Go.RowKit Go.Shelf
theorem zeroT_fine : fine zeroT := fine_mk ⟨⟨by decide, by decide⟩, ⟨by decide, by decide⟩, ⟨by decide, by decide⟩, ⟨by decide, by decide⟩⟩ (by simp) (by simp)
/-- What a call answers: an error's number, and a container. -/
def AnsR (B : Nat) (r : Con × Int) (W : World) (e : Ending) (w' : World) : Prop :=
  ∃ (y : Con) (p : Option Addr) (n k : Nat), e = .returned (.tuple #[.agg #[.int .i64 y.a.k, .int .i64 y.a.w, .int .i64 y.a.c, .int .i64 y.a.s, .slice p n k], .int .i64 r.2]) ∧ KV w' (fun b => b < B ∨ W.heap.size ≤ b) y.ks (.slice p n k) ∧ (y = if r.2 = 0 then r.1 else zeroT) ∧ Below W.heap.size W w'
theorem TellR.ans {B : Nat} {r : Con × Int} {W w' : World} {e : Ending} (h : TellR W.heap.size r e w') (hb : Below W.heap.size W w') (hf : fine r.1) : AnsR B r W e w' := by
  obtain ⟨y, s, h1, h2, h3⟩ := h.reads (fun _ => hf)
  obtain ⟨p, k, rfl, -⟩ := h2.slice
  exact ⟨y, p, _, k, h1, h2.weak (fun b h => .inr h), h3, hb⟩
theorem DocR.ans {B : Nat} {r : Con × Int} {W w' : World} {e : Ending} (h : DocR (fun b => b < B) r W e w') : AnsR B r W e w' := by
  obtain ⟨h0, y, s, h1, h2, h3⟩ := h
  obtain ⟨p, k, rfl, -⟩ := h2.slice
  exact ⟨y, p, _, k, h1, h2, h3, h0⟩
section
variable {x : Con} {p : Option Addr} {n cap : Nat} {w W : World}
end
end Go.Proofs.Ytjeabkcbaielhaa.Co
end
section
namespace Go.Proofs.Ytjeabkcbaielhaa.Co
open Go.RowKit Go.Shelf
theorem same_k {Z Z' : Nat → Prop} {y z : Con} {p q : Option Addr} {n n' c d : Nat} {w : World} (h : sameB y z = true) (h1 : KV w Z y.ks (.slice p n c)) (h2 : KV w Z' z.ks (.slice q n' d)) : Calls Try.prog 21 #[.agg #[.int .i64 y.a.k, .int .i64 y.a.w, .int .i64 y.a.c, .int .i64 y.a.s, .slice p n c], .agg #[.int .i64 z.a.k, .int .i64 z.a.w, .int .i64 z.a.c, .int .i64 z.a.s, .slice q n' d]] w fun e w' => e = .returned (.bool true) ∧ Below w.heap.size w w' := same_t h h1 h2
end Go.Proofs.Ytjeabkcbaielhaa.Co
end
section
namespace Go.Proofs.Ytjeabkcbaielhaa.Co
open Go.RowKit Go.Shelf
theorem clients_mk {a : D} {ks : List Con} (hk : a.k ≠ 0) : clients (.mk a ks) = ks.flatMap clients := by
  unfold clients
  rw [all_kid hk, List.map_flatMap]
theorem clients_w {x : Con} {d : D} (h1 : d.k = x.a.k) (h2 : d.c = x.a.c) : clients (.mk d x.ks) = clients x := by
  obtain ⟨a, ks⟩ := x
  simp only [Tr.a_mk, Tr.ks_mk] at h1 h2 ⊢
  by_cases hk : a.k = 0
  · rw [clients_leaf (y := .mk a ks) hk, clients_leaf (y := .mk d ks) (by rw [Tr.a_mk, h1]; exact hk)]
    simp only [Tr.a_mk, h2]
  · rw [clients_mk hk, clients_mk (by rw [h1]; exact hk)]
theorem split_shape {a : D} {ks : List Con} {d : Nat} (h : shape (.mk a ks) d = true) (hk : a.k ≠ 0) : d ≤ 8 ∧ 1 ≤ a.w ∧ a.w ≤ 1048576 ∧ 1 ≤ a.k ∧ a.k ≤ 4 ∧ a.c = 0 ∧ a.s = 0 ∧ ks.length ≤ 64 ∧ (d = 0 ∨ 0 < ks.length) ∧ ∀ x ∈ ks, shape x (d + 1) = true := by
  have hh := h
  simp only [shape, Bool.and_eq_true] at h
  have h1 := h.1
  unfold soundB at h1
  split at h1
  · cases h1
  · rename_i h2
    simp only [Tr.a_mk] at h2
    rw [if_neg (by simpa using hk)] at h1
    have h1 := of_decide_eq_true h1
    simp only [Tr.a_mk, Tr.ks_mk] at h1
    obtain ⟨h3, h4, h5, h6, h7, h8⟩ := h1
    exact ⟨by omega, by omega, by omega, h3, h4, h5, h6, h7, h8, fun x hx => shape_kid hh hx⟩
theorem shape_splitI {a : D} {ks : List Con} {d : Nat} (h1 : d ≤ 8) (h2 : 1 ≤ a.w) (h3 : a.w ≤ 1048576) (h4 : 1 ≤ a.k) (h5 : a.k ≤ 4) (h6 : a.c = 0) (h7 : a.s = 0) (h8 : ks.length ≤ 64) (h9 : d = 0 ∨ 0 < ks.length) (h : ∀ x ∈ ks, shape x (d + 1) = true) : shape (.mk a ks) d = true := by
  simp only [shape, Bool.and_eq_true]
  refine ⟨?_, shapeL_of h⟩
  unfold soundB
  rw [if_neg (by simp only [Tr.a_mk]; omega), if_neg (by simp only [Tr.a_mk]; omega)]
  exact decide_eq_true ⟨h4, h5, h6, h7, h8, h9⟩
/-- A tree is a split. -/
theorem tree_k {x : Con} (h : treeB x = true) : x.a.k ≠ 0 := tree_root h
/-- Another weight. -/
theorem shape_w {x : Con} {n : Int} {d : Nat} (h : shape x d = true) (h1 : 1 ≤ n) (h2 : n ≤ 1048576) : shape (.mk { x.a with w := n } x.ks) d = true := by
  obtain ⟨a, ks⟩ := x
  by_cases hk : a.k = 0
  · obtain ⟨p1, p2, p3, p4, p5, p6⟩ := leaf_shape h hk
    have hl := shape_leaf h hk
    simp only [Tr.a_mk, Tr.ks_mk] at *
    subst hl
    have := shape_leafI (w := n) p1 p2 h1 h2 p5 p6
    rw [← hk] at this
    exact this
  · obtain ⟨p1, p2, p3, p4, p5, p6, p7, p8, p9, p10⟩ := split_shape h hk
    exact shape_splitI (a := { a with w := n }) p1 h1 h2 p4 p5 p6 p7 p8 p9 p10
/-- One step further up, where it is not the root. -/
theorem shape_up : ∀ (x : Con) (d : Nat), shape x (d + 1) = true → 0 < d → shape x d = true := by
  intro x
  induction x using Tr.ind with
  | h a ks ih =>
    intro d h hd
    by_cases hk : a.k = 0
    · obtain ⟨p1, p2, p3, p4, p5, p6⟩ := leaf_shape h hk
      have hl := shape_leaf h hk
      simp only [Tr.ks_mk, Tr.a_mk] at *
      subst hl
      have e : (Tr.mk a [] : Con) = .mk ⟨0, a.w, a.c, a.s⟩ [] := by rw [← hk]
      rw [e]
      exact shape_leafI (by omega) hd p3 p4 p5 p6
    · obtain ⟨p1, p2, p3, p4, p5, p6, p7, p8, p9, p10⟩ := split_shape h hk
      exact shape_splitI (by omega) p2 p3 p4 p5 p6 p7 p8 (.inr (by omega)) fun y hy => ih y hy (d + 1) (p10 y hy) (by omega)
theorem lessL_mem {c : Int} {y : Con} : ∀ {ks : List Con}, y ∈ lessL c ks → ∃ x ∈ ks, lessT c x = some y := by
  intro ks
  induction ks with
  | nil => intro h; cases h
  | cons x r ih =>
    intro h
    simp only [lessL, List.mem_append, Option.mem_toList] at h
    rcases h with h | h
    · exact ⟨x, by simp, h⟩
    · obtain ⟨z, hz, h⟩ := ih h
      exact ⟨z, by simp [hz], h⟩
theorem shape_less (c : Int) : ∀ (x : Con) (d : Nat) (y : Con), shape x d = true → 0 < d → lessT c x = some y → shape y d = true := by
  intro x
  induction x using Tr.ind with
  | h a ks ih =>
    intro d y h hd hy
    simp only [lessT] at hy
    by_cases hk : a.k = 0
    · rw [if_pos hk] at hy
      split at hy
      · cases hy
      · have hy := Option.some.inj hy; subst hy; exact h
    · rw [if_neg hk] at hy
      split at hy
      · have hy := Option.some.inj hy; subst hy; exact h
      · obtain ⟨p1, p2, p3, p4, p5, p6, p7, p8, p9, p10⟩ := split_shape h hk
        have hl : ∀ z ∈ lessL c ks, shape z (d + 1) = true := fun z hz => by
          obtain ⟨x, hx, e⟩ := lessL_mem hz
          exact ih x hx (d + 1) z (p10 x hx) (by omega) e
        have hn := lessL_len c ks
        unfold packT at hy
        split at hy
        · cases hy
        · rename_i h0
          split at hy
          · rename_i h1
            obtain ⟨z, hz, e⟩ := Option.map_eq_some_iff.1 hy
            subst e
            have hs := shape_up z d (hl z (List.mem_of_getElem? hz)) hd
            exact shape_w hs p2 p3
          · have hy := Option.some.inj hy; subst hy
            exact shape_splitI p1 p2 p3 p4 p5 p6 p7 (by omega) (.inr (by omega)) hl
theorem not_in {x : Con} {c : Int} (h : hasB x c = false) : c ∉ clients x := fun hm => by rw [hasB_iff.2 hm] at h; cases h
theorem filter_same {l : List Int} {c : Int} (h : c ∉ l) : l.filter (fun e => !(e == c)) = l := by
  rw [List.filter_eq_self]
  intro e he
  have : e ≠ c := fun h1 => h (h1 ▸ he)
  simp [this]
theorem clients_less (c : Int) : ∀ (x : Con), (lessT c x).toList.flatMap clients = (clients x).filter (fun e => !(e == c)) := by
  intro x
  induction x using Tr.ind with
  | h a ks ih =>
    have hL : ∀ l : List Con, (∀ x ∈ l, x ∈ ks) → (lessL c l).flatMap clients = (l.flatMap clients).filter (fun e => !(e == c)) := by
      intro l
      induction l with
      | nil => intro _; rfl
      | cons y r ihr =>
        intro hm
        simp only [lessL, List.flatMap_append, List.flatMap_cons, List.filter_append]
        rw [ih y (hm y (by simp)), ihr fun z hz => hm z (by simp [hz])]
    have hk0 := hL ks fun _ h => h
    simp only [lessT]
    by_cases hk : a.k = 0
    · rw [if_pos hk, clients_leaf (y := .mk a ks) hk]
      by_cases hc : a.c = c
      · rw [if_pos hc]; simp [hc]
      · rw [if_neg hc]; simp [hc, clients_leaf (y := .mk a ks) hk]
    · rw [if_neg hk]
      by_cases hh : hasB (.mk a ks) c = false
      · rw [if_pos hh, filter_same (not_in hh)]; simp
      · rw [if_neg hh, clients_mk hk, ← hk0]
        unfold packT
        by_cases h0 : (lessL c ks).length = 0
        · rw [if_pos h0, List.eq_nil_of_length_eq_zero h0]; rfl
        · rw [if_neg h0]
          by_cases h1 : (lessL c ks).length = 1
          · rw [if_pos h1]
            obtain ⟨z, hz⟩ := List.length_eq_one_iff.1 h1
            rw [hz]
            simp only [List.getElem?_cons_zero, Option.map_some, Option.toList_some, List.flatMap_cons, List.flatMap_nil, List.append_nil]
            exact clients_w rfl rfl
          · rw [if_neg h1]
            simp only [Option.toList_some, List.flatMap_cons, List.flatMap_nil, List.append_nil]
            exact clients_mk hk
theorem cnt_w (z : Con) (n : Int) : cnt (.mk { z.a with w := n } z.ks) = cnt z := by obtain ⟨b, l⟩ := z; rw [cnt_mk, cnt_mk]; rfl
theorem cnt_less (c : Int) : ∀ (x : Con), cntL (lessT c x).toList ≤ cnt x := by
  intro x
  induction x using Tr.ind with
  | h a ks ih =>
    have hL : ∀ l : List Con, (∀ x ∈ l, x ∈ ks) → cntL (lessL c l) ≤ cntL l := by
      intro l
      induction l with
      | nil => intro _; exact Nat.le_refl _
      | cons y r ihr =>
        intro hm
        simp only [lessL, cntL_append, cntL]
        have := ih y (hm y (by simp))
        have := ihr fun z hz => hm z (by simp [hz])
        omega
    have hk0 := hL ks fun _ h => h
    have hs : cntL [Tr.mk a ks] = cnt (.mk a ks) := by simp [cntL]
    simp only [lessT]
    split
    · split
      · simp [cntL]
      · rw [Option.toList_some, hs]; exact Nat.le_refl _
    · split
      · rw [Option.toList_some, hs]; exact Nat.le_refl _
      · rw [cnt_mk]
        unfold packT
        split
        · simp [cntL]
        · split
          · rename_i h1
            obtain ⟨z, hz⟩ := List.length_eq_one_iff.1 h1
            rw [hz] at hk0 ⊢
            simp only [List.getElem?_cons_zero, Option.map_some, Option.toList_some, cntL] at hk0 ⊢
            refine Nat.le_trans (Nat.le_of_eq (Nat.add_zero _)) (Nat.le_trans (Nat.le_of_eq (cnt_w z a.w)) ?_)
            omega
          · simp only [Option.toList_some, cntL, cnt_mk]; omega
theorem cntL_less (c : Int) (ks : List Con) : cntL (lessL c ks) ≤ cntL ks := by
  induction ks with
  | nil => exact Nat.le_refl _
  | cons y r ih => simp only [lessL, cntL_append, cntL]; have := cnt_less c y; omega
theorem clientsL_less (c : Int) (ks : List Con) : (lessL c ks).flatMap clients = (ks.flatMap clients).filter (fun e => !(e == c)) := by
  induction ks with
  | nil => rfl
  | cons y r ih => simp only [lessL, List.flatMap_append, List.flatMap_cons, List.filter_append]; rw [clients_less, ih]
theorem remove_tree {x : Con} {c : Int} (h : treeB x = true) : treeB (.mk x.a (lessL c x.ks)) = true ∧ clients (.mk x.a (lessL c x.ks)) = (clients x).filter (fun e => !(e == c)) ∧ cnt (.mk x.a (lessL c x.ks)) ≤ cnt x := by
  have hk := tree_k h
  obtain ⟨h1, h2, h3⟩ := tree_parts h
  obtain ⟨a, ks⟩ := x
  simp only [Tr.a_mk, Tr.ks_mk] at hk ⊢
  obtain ⟨p1, p2, p3, p4, p5, p6, p7, p8, p9, p10⟩ := split_shape h1 hk
  have hcl : clients (.mk a (lessL c ks)) = (clients (.mk a ks)).filter (fun e => !(e == c)) := by rw [clients_mk hk, clients_mk hk, clientsL_less]
  have hlen := lessL_len c ks
  refine ⟨tree_of (shape_splitI p1 p2 p3 p4 p5 p6 p7 (by omega) (.inl rfl) fun y hy => ?_) (by rw [hcl]; exact h2.filter _) (by rw [← clients_len, hcl]; have := List.length_filter_le (fun e => !(e == c)) (clients (.mk a ks)); rw [clients_len] at this; omega), hcl, ?_⟩
  · obtain ⟨z, hz, e⟩ := lessL_mem hy
    exact shape_less c z 1 y (p10 z hz) (by omega) e
  · rw [cnt_mk, cnt_mk]; have := cntL_less c ks; omega
end Go.Proofs.Ytjeabkcbaielhaa.Co
end
section
namespace Go.Proofs.Ytjeabkcbaielhaa.Co
open Go.RowKit Go.Shelf
end Go.Proofs.Ytjeabkcbaielhaa.Co
end
section
namespace Go.Proofs.Ytjeabkcbaielhaa.Co
open Go.RowKit Go.Shelf
theorem RZ.seen {w : World} {Z : Nat → Prop} : ∀ {l : List Con} {vs : List Value} {j : Nat} {y : Con}, RZ w Z l vs → l[j]? = some y → vs[j * 5 + 3]? = some (.int .i64 y.a.s) := by
  intro l
  induction l with
  | nil => intro vs j y _ h; simp at h
  | cons x r ih =>
    intro vs j y ⟨sv, rest, h1, _, h4⟩ h
    cases j with
    | zero => simp at h; subst h; rw [h1]; rfl
    | succ j =>
      have := ih h4 (by simpa using h)
      rw [h1, List.getElem?_append_right (by rw [enc_len]; omega), enc_len, show (j + 1) * 5 + 3 - 5 = j * 5 + 3 by omega]
      exact this
/-- The cells that Top reads. -/
def Seen (l : List Con) (p : Option Addr) (w : World) : Prop := ∀ (j : Nat) (y : Con), l[j]? = some y → ∃ g, p = some ⟨g, 0, none⟩ ∧ w.cell? ⟨g, j * 5 + 2, none⟩ = some (.int .i64 y.a.c) ∧ w.cell? ⟨g, j * 5 + 3, none⟩ = some (.int .i64 y.a.s)
theorem RowR.seen {Z : Nat → Prop} {B : Nat} {l : List Con} {p : Option Addr} {n c : Nat} {w : World} (h : RowR Z B l (.slice p n c) w) : Seen l p w := fun j y hy => by
  obtain ⟨vs, ho, hz, -⟩ := h
  obtain ⟨g, cg, hgv, hg1, hg2⟩ := ho.form (by have := (List.getElem?_eq_some_iff.1 hy).1; omega)
  injection hgv with e1 e2 e3
  subst e1 e2 e3
  have h1 := ho.cells (g := g) rfl (j * 5 + 2) _ (hz.client hy)
  have h2 := ho.cells (g := g) rfl (j * 5 + 3) _ (hz.seen hy)
  exact ⟨g, rfl, by simpa [Addr.add] using h1, by simpa [Addr.add] using h2⟩
end Go.Proofs.Ytjeabkcbaielhaa.Co
end
section
namespace Go.Proofs.Ytjeabkcbaielhaa.Co
open Go.RowKit Go.Shelf
/-- A slice that reads as these numbers. -/
def RI (w : World) (l : List Int) (v : Value) : Prop := ∃ p c, v = .slice p l.length c ∧ ∀ (k : Nat) (u : Int), l[k]? = some u → ∃ g o, p = some ⟨g, o, none⟩ ∧ g < w.heap.size ∧ w.cell? ⟨g, o + k, none⟩ = some (.int .i64 u)
theorem RI.next {w w' : World} {l : List Int} {v : Value} (h : RI w l v) (hb : Below w.heap.size w w') : RI w' l v := by
  obtain ⟨p, c, h1, h2⟩ := h
  refine ⟨p, c, h1, fun k u hu => ?_⟩
  obtain ⟨g, o, h3, h4, h5⟩ := h2 k u hu
  exact ⟨g, o, h3, Nat.lt_of_lt_of_le h4 hb.size, (cell_same (hb.block g h4) _).trans h5⟩
def natsZ (u : List Nat) : List Int := u.map fun i : Nat => (i : Int)
theorem natsZ_at {u : List Nat} {k : Nat} {z : Int} (h : (natsZ u)[k]? = some z) : ∃ i : Nat, u[k]? = some i ∧ z = (i : Int) := by
  unfold natsZ at h
  rw [List.getElem?_map] at h
  obtain ⟨i, h1, h2⟩ := Option.map_eq_some_iff.1 h
  exact ⟨i, h1, h2.symm⟩
theorem RI.wi {w : World} {u : List Nat} {v : Value} (h : WI w u v) : RI w (natsZ u) v := by
  obtain ⟨p, c, h1, -, -, h2⟩ := h
  refine ⟨p, c, by rw [h1]; unfold natsZ; rw [List.length_map], fun k z hz => ?_⟩
  obtain ⟨i, hi, rfl⟩ := natsZ_at hz
  exact h2 k i hi
theorem RI.wv {w : World} {Y : Nat → Prop} {u : List Nat} {v : Value} (h : WV w Y u v) : RI w (natsZ u) v := by
  obtain ⟨p, c, h1, -, -, -, h3, h2⟩ := h
  refine ⟨p, c, by rw [h1]; unfold natsZ; rw [List.length_map], fun k z hz => ?_⟩
  obtain ⟨i, hi, rfl⟩ := natsZ_at hz
  obtain ⟨b, rfl, h4⟩ := h2 k i hi
  obtain ⟨b', e, h5, -⟩ := h3 _ rfl
  injection e with e
  subst e
  exact ⟨b, 0, rfl, h5, by rwa [Nat.zero_add]⟩
theorem RI.nil (w : World) : RI w [] (.slice none 0 0) := ⟨none, 0, rfl, fun k u h => by simp at h⟩
theorem RI.own {w : World} {B : Nat} {l : List Int} {v : Value} (h : w.ownsRow B 3 1 v l.length (l.map (Value.int .i64))) : RI w l v := by
  obtain ⟨h1, h2⟩ := h
  rcases h2 with ⟨rfl, h3⟩ | ⟨g, cap, cur, rfl, -, h4, h5, h6, h7, h8⟩
  · have := List.length_eq_zero_iff.1 h3
    subst this
    exact RI.nil w
  · refine ⟨_, cap, rfl, fun k u hu => ?_⟩
    have hk := (List.getElem?_eq_some_iff.1 hu).1
    have hc : World.cell? w ⟨g, k, none⟩ = some (.int .i64 u) := by
      have h9 : (cur.toList.take (l.length * 1))[k]? = some (.int .i64 u) := by rw [h8, List.getElem?_map, hu]; rfl
      rw [List.getElem?_take_of_lt (by omega)] at h9
      simp only [World.cell?, h4]
      simpa using h9
    exact ⟨g, 0, rfl, World.block_lt_of_cell? w _ hc, by rwa [Nat.zero_add]⟩
end Go.Proofs.Ytjeabkcbaielhaa.Co
end
section
namespace Go.Proofs.Ytjeabkcbaielhaa.Co
open Go.RowKit Go.Shelf
def wayZ : Option (List Nat) → List Int
  | none => []
  | some u => natsZ u
theorem FoundR.reads {x : Con} {c : Int} {w w' : World} {e : Ending} (h : FoundR x c w e w') : Below w.heap.size w w' ∧ ∃ p n k, e = .returned (.tuple #[.slice p n k, .bool (findI x c).isSome]) ∧ RI w' (wayZ (findI x c)) (.slice p n k) := by
  obtain ⟨hb, v, he, ho⟩ := h
  refine ⟨hb, ?_⟩
  cases hf : findI x c with
  | none =>
    rw [hf] at ho he
    have ho : v = .slice none 0 0 := ho
    exact ⟨none, 0, 0, by rw [he, ho], RI.nil w'⟩
  | some u =>
    rw [hf] at ho he
    have hr := RI.wv (show WV w' (fun _ => True) u v from ho)
    have hr' := hr
    obtain ⟨p, k, hv, -⟩ := hr'
    exact ⟨p, _, k, by rw [he, hv], by rw [← hv]; exact hr⟩
theorem FindD.reads {x : Con} {c : Int} {w w' : World} {e : Ending} (h : FindD x c w e w') : Below w.heap.size w w' ∧ (wayZ (findI x c)).length ≤ 1048576 ∧ ∃ p n k, e = .returned (.tuple #[.slice p n k, .bool (findI x c).isSome]) ∧ RI w' (wayZ (findI x c)) (.slice p n k) := by
  obtain ⟨hb, h⟩ := h
  refine ⟨hb, ?_⟩
  rcases h with ⟨hf, he⟩ | ⟨u, v, hf, he, hw⟩
  · rw [hf]
    exact ⟨by simp [wayZ], none, 0, 0, he, RI.nil w'⟩
  · rw [hf]
    have hr := RI.wi hw
    have hr' := hr
    obtain ⟨p, k, hv, -⟩ := hr'
    obtain ⟨_, _, _, hl, -⟩ := hw
    exact ⟨by simp only [wayZ, natsZ, List.length_map]; omega, p, _, k, by rw [he, hv]; rfl, by rw [← hv]; exact hr⟩
theorem leaves_reads {x : Con} {w w' : World} {e : Ending} (h : Below w.heap.size w w' ∧ ∃ v, e = .returned v ∧ w'.ownsRow w.heap.size 3 1 v (leavesI x).length ((leavesI x).map (Value.int .i64))) : Below w.heap.size w w' ∧ ∃ (p : Option Addr) (l : List Int) (k : Nat), e = .returned (.slice p l.length k) ∧ RI w' l (.slice p l.length k) ∧ l = leavesI x := by
  obtain ⟨hb, v, he, ho⟩ := h
  have hr := RI.own ho
  have hr' := hr
  obtain ⟨p, k, hv, -⟩ := hr'
  exact ⟨hb, p, leavesI x, k, by rw [he, hv], by rw [← hv]; exact hr, rfl⟩
end Go.Proofs.Ytjeabkcbaielhaa.Co
end
section
namespace Go.Proofs.Ytjeabkcbaielhaa.Co
open Go.RowKit Go.Shelf
theorem insert_fine9 {x : Con} {near c se : Int} (hf : fine x) (hc : I64 c) (hse : I64 se) : fine (insertI x near c se).1 := by
  unfold insertI
  by_cases h1 : treeB x = false
  · rw [if_pos h1]; exact zeroT_fine
  rw [if_neg h1]
  have htr : treeB x = true := by cases h : treeB x; exact absurd h h1; rfl
  by_cases h2 : hasB x c = true
  · rw [if_pos h2]; exact zeroT_fine
  rw [if_neg h2]
  by_cases h3 : c < 1 ∨ se < 0
  · rw [if_pos h3]; exact zeroT_fine
  rw [if_neg h3]
  by_cases h4 : near ≠ 0 ∧ hasB x near = false
  · rw [if_pos h4]; exact zeroT_fine
  rw [if_neg h4]
  cases hg : get x (insSpot x near).1 with
  | none => exact zeroT_fine
  | some q =>
    simp only
    by_cases h5 : q.ks.length = 64 ∨ (all x).length = 128
    · rw [if_pos h5]; exact zeroT_fine
    rw [if_neg h5]
    have hq := fine_get hf hg
    have hl : q.ks.length ≤ 64 := by
      have hsh := shape_get (tree_parts htr).1 hg
      by_cases hk : q.a.k = 0
      · rw [shape_leaf hsh hk]; simp
      · obtain ⟨qa, qk⟩ := q
        obtain ⟨_, _, _, _, _, _, _, p8, _⟩ := split_shape hsh hk
        exact p8
    obtain ⟨qa, qk⟩ := q
    obtain ⟨q1, q2, q3⟩ := fine_kids hq
    simp only [Tr.a_mk, Tr.ks_mk] at hl ⊢
    refine fine_put hf (fine_mk q1 ?_ fun y hy => ?_)
    · simp only [List.length_append, List.length_take, List.length_cons, List.length_drop]; omega
    · rcases List.mem_append.1 hy with h | h
      · exact q3 y (List.mem_of_mem_take h)
      · rcases List.mem_cons.1 h with rfl | h
        · exact fine_mk ⟨(show I64 0 from ⟨by decide, by decide⟩), (show I64 65536 from ⟨by decide, by decide⟩), hc, hse⟩ (by simp) (by simp)
        · exact q3 y (List.mem_of_mem_drop h)
section
variable {x : Con} {p : Option Addr} {n c : Nat} {W : World} {Z : Nat → Prop}
theorem chkI_k (hK : KV W Z x.ks (.slice p n c)) (hs : Small x) : Calls Try.prog 19 #[.agg #[.int .i64 x.a.k, .int .i64 x.a.w, .int .i64 x.a.c, .int .i64 x.a.s, .slice p n c]] W fun e w' => e = .returned (.int .i64 (checkI x)) ∧ Below W.heap.size W w' :=
  check_c _ x (.slice p n c) W hK.all hs.wide hs.ht (fun _ h => h)
theorem lvs_k (hK : KV W Z x.ks (.slice p n c)) (hs : Small x) : Calls Try.prog 27 #[.agg #[.int .i64 x.a.k, .int .i64 x.a.w, .int .i64 x.a.c, .int .i64 x.a.s, .slice p n c]] W fun e w' => Below W.heap.size W w' ∧ ∃ (p : Option Addr) (l : List Int) (k : Nat), e = .returned (.slice p l.length k) ∧ RI w' l (.slice p l.length k) ∧ l = leavesI x :=
  (Leaves_c x (.slice p n c) W hK.all hs.wide hs.ht hs.n5).mono fun _ _ h => leaves_reads h
theorem rem_k (a : Int) (hK : KV W Z x.ks (.slice p n c)) (hs : Small x) (hB : ∀ b, Z b → b < W.heap.size) : Calls Try.prog 33 #[.agg #[.int .i64 x.a.k, .int .i64 x.a.w, .int .i64 x.a.c, .int .i64 x.a.s, .slice p n c], .int .i64 a] W (AnsR 0 (removeD x a) W) :=
  (remove_c x (.slice p n c) a W (hK.weak hB) hs.wide hs.ht hs.wd).mono fun _ _ h => by
    have h1 := h.1
    rw [show removeI x a = removeD x a from removeD_eq x a] at h1
    refine h1.ans h.2 ?_
    by_cases h0 : (removeD x a).2 = 0
    · exact remove_fine hs.f h0
    · unfold removeD at h0 ⊢
      split
      · exact zeroT_fine
      · split
        · exact zeroT_fine
        · rename_i h2 h3
          rw [if_neg h2, if_neg h3] at h0
          exact absurd rfl h0
theorem ins_k (a b s : Int) (hb : I64 b) (hs9 : I64 s) (hK : KV W Z x.ks (.slice p n c)) (hs : Small x) (hB : ∀ b, Z b → b < W.heap.size) : Calls Try.prog 31 #[.agg #[.int .i64 x.a.k, .int .i64 x.a.w, .int .i64 x.a.c, .int .i64 x.a.s, .slice p n c], .int .i64 a, .int .i64 b, .int .i64 s] W (AnsR 0 (insertI x a b s) W) :=
  (Insert_c x (.slice p n c) a b s W (hK.weak hB) hs.wide hs.ht hs.wd hs.n5).mono fun _ _ h => h.1.ans h.2 (insert_fine9 hs.f hb hs9)
theorem same_self {y z : Con} {q : Option Addr} {n' d : Nat} {Z' : Nat → Prop} (h : y = z) (h1 : KV W Z y.ks (.slice p n c)) (h2 : KV W Z' z.ks (.slice q n' d)) : Calls Try.prog 21 #[.agg #[.int .i64 y.a.k, .int .i64 y.a.w, .int .i64 y.a.c, .int .i64 y.a.s, .slice p n c], .agg #[.int .i64 z.a.k, .int .i64 z.a.w, .int .i64 z.a.c, .int .i64 z.a.s, .slice q n' d]] W fun e w' => e = .returned (.bool true) ∧ Below W.heap.size W w' :=
  same_k (by subst h; exact sameB_refl _) h1 h2
end
theorem small_of {x : Con} (hc : cnt x ≤ 900) (hf : fine x) : Small x := ⟨hc, hf⟩
theorem few_cnt {x : Con} (h : nodesC x 0 ≤ 500) : cnt x ≤ 500 := by have := pre_len x [] 0 h; unfold cnt; omega
end Go.Proofs.Ytjeabkcbaielhaa.Co
end
section
namespace Go.Proofs.Ytjeabkcbaielhaa.Co
open Go.RowKit Go.Shelf
/-- From one container's cells to another's, along a way. -/
inductive Path (w : World) : Nat → Nat → List Nat → Nat → Nat → Prop where
  | nil (b o : Nat) : Path w b o [] b o
  | cons {b o g q n c i : Nat} {u : List Nat} {b' o' : Nat} (h4 : w.cell? ⟨b, o + 4, none⟩ = some (.slice (some ⟨g, q, none⟩) n c)) (hi : i < n) (h : Path w g (q + i * 5) u b' o') : Path w b o (i :: u) b' o'
theorem Path.same {w w' : World} {b o : Nat} {u : List Nat} {b' o' : Nat} (h : Path w b o u b' o') (hc : ∀ b o u, w.cell? ⟨b, o, none⟩ = some u → w'.cell? ⟨b, o, none⟩ = some u) : Path w' b o u b' o' := by
  induction h with
  | nil b o => exact .nil b o
  | cons h4 hi _ ih => exact .cons (hc _ _ _ h4) hi ih
theorem Path.drew {w : World} {b o : Nat} {u : List Nat} {b' o' : Nat} (h : Path w b o u b' o') : Path w.drew b o u b' o' := h.same fun _ _ _ h => h
theorem Path.step {w : World} {b o i : Nat} {u : List Nat} {b' o' : Nat} (h : Path w b o (i :: u) b' o') : ∃ g q n c, w.cell? ⟨b, o + 4, none⟩ = some (.slice (some ⟨g, q, none⟩) n c) ∧ i < n ∧ Path w g (q + i * 5) u b' o' := by
  cases h with
  | cons h4 hi h => exact ⟨_, _, _, _, h4, hi, h⟩
theorem Path.end_ {w : World} {b o : Nat} {b' o' : Nat} (h : Path w b o [] b' o') : b = b' ∧ o = o' := by
  cases h; exact ⟨rfl, rfl⟩
/-- A container's five cells, and what they read as. -/
def ConAt (w : World) (Z : Nat → Prop) (b o : Nat) (x : Con) : Prop :=
  b < w.heap.size ∧ x.a.wide ∧ ∃ sv, KV w Z x.ks sv ∧ w.cell? ⟨b, o, none⟩ = some (.int .i64 x.a.k) ∧ w.cell? ⟨b, o + 1, none⟩ = some (.int .i64 x.a.w) ∧ w.cell? ⟨b, o + 2, none⟩ = some (.int .i64 x.a.c) ∧ w.cell? ⟨b, o + 3, none⟩ = some (.int .i64 x.a.s) ∧ w.cell? ⟨b, o + 4, none⟩ = some sv
theorem ConAt.next {w w' : World} {Z : Nat → Prop} {b o : Nat} {x : Con} (h : ConAt w Z b o x) (hb : Below w.heap.size w w') : ConAt w' Z b o x := by
  obtain ⟨h1, h2, sv, h3, h4⟩ := h
  exact ⟨Nat.lt_of_lt_of_le h1 hb.size, h2, sv, h3.next hb, cells5 hb h1 h4⟩
theorem ConAt.drew {w : World} {Z : Nat → Prop} {b o : Nat} {x : Con} (h : ConAt w Z b o x) : ConAt w.drew Z b o x := h.next (Below.refl _ _).drew
theorem ConAt.path {w : World} {Z : Nat → Prop} : ∀ {u : List Nat} {b o : Nat} {x s : Con}, ConAt w Z b o x → get x u = some s → ∃ b' o', Path w b o u b' o' ∧ ConAt w Z b' o' s
  | [], b, o, x, s, h, hs => by
    obtain ⟨a, ks⟩ := x
    simp only [get] at hs
    have hs := Option.some.inj hs
    subst hs
    exact ⟨b, o, .nil b o, h⟩
  | i :: u, b, o, x, s, h, hs => by
    obtain ⟨_, _, sv, h3, _, _, _, _, h8⟩ := h
    obtain ⟨a, ks⟩ := x
    obtain ⟨y, hy, hys⟩ := get_cons hs
    obtain ⟨p, c, rfl, hl⟩ := h3.slice
    obtain ⟨-, g, q, sv', hp, -, hlt, hw, hk, c5⟩ := h3.kid hy
    subst hp
    have hA : ConAt w Z g (q + i * 5) y := ⟨hlt, hw, sv', hk, c5⟩
    obtain ⟨b', o', h9, h10⟩ := ConAt.path hA hys
    exact ⟨b', o', .cons h8 (List.getElem?_eq_some_iff.1 hy).1 h9, h10⟩
theorem held_path {w : World} {b o : Nat} {t s : ATr} {u : List Nat} (h : Held w b o t) (hs : get t u = some s) : Path w b o u (loc b o t u).1 (loc b o t u).2 := by
  have key : ∀ (m k : Nat), k + m = u.length → Path w (loc b o t (u.take k)).1 (loc b o t (u.take k)).2 (u.drop k) (loc b o t u).1 (loc b o t u).2 := by
    intro m
    induction m with
    | zero =>
      intro k hk
      have hk : k = u.length := by omega
      subst hk
      rw [List.take_length, List.drop_length]
      exact .nil _ _
    | succ m ih =>
      intro k hk
      have hlt : k < u.length := by omega
      have hi : u[k]? = some u[k] := List.getElem?_eq_getElem hlt
      obtain ⟨p, y, h1, h2, h3⟩ := loc_step (b := b) (o := o) hs hi
      have h4 := (h.get h1).cells 4 _ rfl
      rw [slA_some h2] at h4
      rw [List.drop_eq_getElem_cons hlt]
      have h5 := ih (k + 1) (by omega)
      rw [h3] at h5
      have h6 : Path w p.a.g (0 + u[k] * 5) (u.drop (k + 1)) (loc b o t u).1 (loc b o t u).2 := by rw [Nat.zero_add]; exact h5
      exact .cons h4 (List.getElem?_eq_some_iff.1 h2).1 h6
  exact key u.length 0 (by omega)
set_option maxHeartbeats 1000000 in
theorem cut_p (Y : Nat → Prop) (b o b' o' : Nat) (way : List Nat) (i : Nat) (v : Value) (w : World) (hP : Path w b o way b' o') (hv : WV w Y (way ++ [i]) v) :
    Calls Try.prog 86 #[.pointer (some ⟨b, o, none⟩), v] w fun e w' => e = .returned (.tuple #[.pointer (some ⟨b', o', none⟩), .int .i64 (i : Int)]) ∧ Drew w w' := by
  obtain ⟨q, c, rfl⟩ := hv.slice
  obtain ⟨q', c', e, hm, hnc, -, -, hcell⟩ := hv
  obtain ⟨rfl, -, rfl⟩ := Value.slice.inj e
  obtain ⟨bb, rfl, hc0⟩ := hcell way.length i (by simp)
  have e1 : (way ++ [i]).length = way.length + 1 := by simp
  have hcw : ∀ (k j : Nat), way[k]? = some j → w.cell? ⟨bb, k, none⟩ = some (.int .i64 (j : Int)) := fun k j hk => by
    obtain ⟨b9, e9, h9⟩ := hcell k j (by rw [List.getElem?_append_left (List.getElem?_eq_some_iff.1 hk).1]; exact hk)
    have e9 := (Addr.mk.inj (Option.some.inj e9)).1
    subst e9
    exact h9
  obtain ⟨n, hn⟩ : ∃ n, n = way.length := ⟨_, rfl⟩
  rw [e1, ← hn] at hm hnc ⊢
  rw [← hn] at hc0
  have HC := Lib.hid hcw
  have HN := Lib.hid hn
  have HP := Lib.hid hP
  have HM := Lib.hid hm
  clear hP hcell e e1 hn hcw
  have h1 : (0 : Int) ≤ (n : Int) := by omega
  have h2 : n ≤ c := by omega
  have h3 : (n : Int) < (n : Int) + 1 := by omega
  have h4 : n < n + 1 := by omega
  have hw1 : IntKind.i64.wrap ((n : Int) + 1 - 1) = (n : Int) := by rw [IntWalk.i64_in _ (by omega)]; omega
  go_enter Try.func86, Try.ntmps86
  go_wp2_with fail
  go_loop [0, 16] (fun p z => ∃ k : Nat, k ≤ n ∧ z = .int .i64 k ∧ ∃ bk ok : Nat, p = .pointer (some ⟨bk, ok, none⟩) ∧ Asd (Path w bk ok (way.drop k) b' o')) (fun _ z => n - (intOf z).toNat)
  case atStart => exact ⟨0, Nat.zero_le _, rfl, b, o, rfl, HP.out⟩
  case round =>
    obtain ⟨k, hk, rfl, bk, ok, rfl, hp⟩ := hrel
    by_cases hlt : k < n
    · have hl : k < way.length := by rw [← HN.out]; exact hlt
      obtain ⟨j, hj⟩ : ∃ j, way[k]? = some j := ⟨_, List.getElem?_eq_getElem hl⟩
      have hp : Path w bk ok (way.drop k) b' o' := hp
      have hd : way.drop k = j :: way.drop (k + 1) := by rw [List.drop_eq_getElem_cons hl]; have := List.getElem?_eq_getElem hl; rw [this] at hj; rw [Option.some.inj hj]
      rw [hd] at hp
      obtain ⟨g, qo, m, cc, h5, h6, h8⟩ := hp.step
      have hci := HC.out k j hj
      have hI : ((j : Nat) : Int) < (m : Int) := by omega
      have hI0 : (0 : Int) ≤ (j : Int) := by omega
      have H8 := Lib.hid h8
      clear hp hd h8 hj hl
      go_wp2_with fail
      go_round
      case rel => exact ⟨k + 1, by omega, by go_num, g, qo + j * 5, rfl, H8.out⟩
      case measure => simp [intOf]; omega
    · have hkn : k = n := by omega
      have hp : Path w bk ok (way.drop k) b' o' := hp
      rw [hkn, HN.out, List.drop_length] at hp
      obtain ⟨rfl, rfl⟩ := hp.end_
      clear hp
      subst hkn
      go_upto_region 7 with fail
      refine wp_region_noPanic ?_
      refine wp_region_held_drew (S := fun wx => wx.cell? ⟨bb, k, none⟩ = some (.int .i64 (i : Int))) (by kernel_rfl) (by exact hc0) (fun hHeld => ?_)
      refine wpAnyH_take (i := 0) (v := ?v0) rfl (by kernel_rfl) (by kernel_rfl) (by kernel_rfl) (fun _ _ _ h => h) (Or.inl ⟨by kernel_rfl, ?y0⟩) (by assumption) ?r0
      case y0 => (intro wq hSw; (try dsimp only at hSw); go_simp; (try with_reducible rfl))
      (try simp only [Act.put, List.getElem_toArray, List.getElem_cons_zero, List.setIfInBounds_toArray, List.set_cons_zero, List.set_cons_succ])
      refine wpAnyH_take (i := 1) (v := ?v1) rfl (by kernel_rfl) (by kernel_rfl) (by kernel_rfl) (fun _ _ _ h => h) (Or.inl ⟨by kernel_rfl, ?y1⟩) (by assumption) ?r1
      case y1 => (intro wq hSw; (try dsimp only at hSw); go_simp; (try with_reducible rfl))
      (try simp only [Act.put, List.getElem_toArray, List.getElem_cons_succ, List.getElem_cons_zero, List.setIfInBounds_toArray, List.set_cons_zero, List.set_cons_succ])
      refine wpAnyH_take (i := 2) (v := ?v2) rfl (by kernel_rfl) (by kernel_rfl) (by kernel_rfl) (fun _ _ _ h => h) (Or.inl ⟨by kernel_rfl, ?y2⟩) (by assumption) ?r2
      case y2 => (intro wq hSw; (try dsimp only at hSw); go_simp; (try with_reducible rfl))
      (try simp only [Act.put, List.getElem_toArray, List.getElem_cons_succ, List.getElem_cons_zero, List.setIfInBounds_toArray, List.set_cons_zero, List.set_cons_succ])
      refine wpAnyH_take (i := 3) (v := ?v3) rfl (by kernel_rfl) (by kernel_rfl) (by kernel_rfl) (fun _ _ _ h => h) (Or.inl ⟨by kernel_rfl, ?y3⟩) (by assumption) ?r3
      case y3 => (intro wq hSw; (try dsimp only at hSw); go_simp; (try with_reducible rfl))
      (try simp only [Act.put, List.getElem_toArray, List.getElem_cons_succ, List.getElem_cons_zero, List.setIfInBounds_toArray, List.set_cons_zero, List.set_cons_succ])
      refine wpAnyH_take (i := 4) (v := ?v4) rfl (by kernel_rfl) (by kernel_rfl) (by kernel_rfl) (fun _ _ _ h => h) (Or.inl ⟨by kernel_rfl, ?y4⟩) (by assumption) ?r4
      case y4 => (intro wq hSw; (try dsimp only at hSw); go_simp; (try with_reducible rfl))
      (try simp only [Act.put, List.getElem_toArray, List.getElem_cons_succ, List.getElem_cons_zero, List.setIfInBounds_toArray, List.set_cons_zero, List.set_cons_succ])
      refine wpAnyH_take (i := 5) (v := ?v5) rfl (by kernel_rfl) (by kernel_rfl) (by kernel_rfl) (fun _ _ _ h => h) (Or.inl ⟨by kernel_rfl, ?y5⟩) (by assumption) ?r5
      case y5 => (intro wq hSw; (try dsimp only at hSw); go_simp; (try with_reducible rfl))
      (try simp only [Act.put, List.getElem_toArray, List.getElem_cons_succ, List.getElem_cons_zero, List.setIfInBounds_toArray, List.set_cons_zero, List.set_cons_succ])
      refine wpAnyH_take (i := 6) (v := ?v6) rfl (by kernel_rfl) (by kernel_rfl) (by kernel_rfl) (fun _ _ _ h => h) (Or.inl ⟨by kernel_rfl, ?y6⟩) (by assumption) ?r6
      case y6 => (intro wq hSw; (try dsimp only at hSw); go_simp; (try with_reducible rfl))
      (try simp only [Act.put, List.getElem_toArray, List.getElem_cons_succ, List.getElem_cons_zero, List.setIfInBounds_toArray, List.set_cons_zero, List.set_cons_succ])
      refine wpAnyH_done (by kernel_rfl) ?_ _
      refine NoPanic.normal ?_
      go_wp2_with fail
      go_ret2
      exact ⟨rfl, 1, rfl⟩
def aheadB (d : Int) : Bool := decide (d = 1 ∨ d = 3)
def alongB (k d : Int) : Bool := if d = 1 ∨ d = 2 then decide (k = 1 ∨ k = 3) else decide (k = 2 ∨ k = 4)
theorem ahead_c (d : Int) (w : World) : Calls Try.prog 106 #[.int .i64 d] w fun e w' => e = .returned (.bool (aheadB d)) ∧ w = w' := by
  obtain ⟨r, hr⟩ : ∃ r, r = aheadB d := ⟨_, rfl⟩
  rw [← hr]
  have HR := Lib.hid hr
  clear hr
  go_enter Try.func106, Try.ntmps106
  by_cases h1 : d = 1
  · subst h1
    go_wp2
    go_ret
    exact ⟨ret_bool (by rw [HR.out]; rfl), rfl⟩
  · by_cases h2 : d = 3
    · subst h2
      go_wp2
      go_ret
      exact ⟨ret_bool (by rw [HR.out]; rfl), rfl⟩
    · go_wp2
      go_ret
      exact ⟨ret_bool (by rw [HR.out]; unfold aheadB; simp [h1, h2]), rfl⟩
theorem along_c (k d : Int) (w : World) : Calls Try.prog 107 #[.int .i64 k, .int .i64 d] w fun e w' => e = .returned (.bool (alongB k d)) ∧ w = w' := by
  obtain ⟨r, hr⟩ : ∃ r, r = alongB k d := ⟨_, rfl⟩
  rw [← hr]
  unfold alongB at hr
  by_cases h1 : d = 1 ∨ d = 2
  · rw [if_pos h1] at hr
    have h2 : (d == 1 || d == 2) = true := by simpa using h1
    have HR := Lib.hid hr
    clear hr h1
    go_enter Try.func107, Try.ntmps107
    go_wp2
    all_goals
      go_ret
      refine ⟨ret_bool ?_, rfl⟩
      rw [HR.out, Bool.eq_iff_iff]
      first | (simp; done) | (simp_all; done) | (simp_all; omega)
  · rw [if_neg h1] at hr
    have h2 : (d == 1 || d == 2) = false := by simpa using h1
    have HR := Lib.hid hr
    clear hr h1
    go_enter Try.func107, Try.ntmps107
    go_wp2
    all_goals
      go_ret
      refine ⟨ret_bool ?_, rfl⟩
      rw [HR.out, Bool.eq_iff_iff]
      first | (simp; done) | (simp_all; done) | (simp_all; omega)
/-- The place of the one beside, that way. -/
def besI (k : Int) (n i : Nat) (d : Int) : Option Nat :=
  if alongB k d = true then (if aheadB d = true then (if i = 0 then none else some (i - 1)) else (if i + 1 < n then some (i + 1) else none)) else none
def besV : Option Nat → Value
  | none => .tuple #[.int .i64 0, .bool false]
  | some j => .tuple #[.int .i64 (j : Int), .bool true]
theorem besI_lt {k : Int} {n i : Nat} {d : Int} {j : Nat} (h : besI k n i d = some j) (hi : i < n) : j < n ∧ (alongB k d = true ∧ ((aheadB d = true ∧ j + 1 = i) ∨ (aheadB d = false ∧ j = i + 1))) := by
  unfold besI at h
  by_cases h1 : alongB k d = true
  · rw [if_pos h1] at h
    by_cases h2 : aheadB d = true
    · rw [if_pos h2] at h
      by_cases h3 : i = 0
      · rw [if_pos h3] at h; cases h
      · rw [if_neg h3] at h
        have h := Option.some.inj h
        exact ⟨by omega, h1, .inl ⟨h2, by omega⟩⟩
    · rw [if_neg h2] at h
      by_cases h3 : i + 1 < n
      · rw [if_pos h3] at h
        have h := Option.some.inj h
        exact ⟨by omega, h1, .inr ⟨by cases h9 : aheadB d; rfl; exact absurd h9 h2, by omega⟩⟩
      · rw [if_neg h3] at h; cases h
  · rw [if_neg h1] at h; cases h
set_option maxHeartbeats 1000000 in
set_option maxRecDepth 100000 in
theorem beside_c (b o : Nat) (k : Int) (n c : Nat) (p : Option Addr) (i : Nat) (d : Int) (w : World) (h0 : w.cell? ⟨b, o, none⟩ = some (.int .i64 k)) (h4 : w.cell? ⟨b, o + 4, none⟩ = some (.slice p n c)) (hi : i < n) (hn : n ≤ 1152921504606846976) :
    Calls Try.prog 87 #[.pointer (some ⟨b, o, none⟩), .int .i64 (i : Int), .int .i64 d] w fun e w' => e = .returned (besV (besI k n i d)) ∧ w = w' := by
  obtain ⟨r, hr⟩ : ∃ r, r = besI k n i d := ⟨_, rfl⟩
  rw [← hr]
  unfold besI at hr
  have HA := Lib.hid (fun W => ahead_c d W)
  have HL := Lib.hid (fun W => along_c k d W)
  obtain ⟨ah, hah⟩ : ∃ z, z = aheadB d := ⟨_, rfl⟩
  obtain ⟨al, hal⟩ : ∃ z, z = alongB k d := ⟨_, rfl⟩
  rw [← hah] at HA hr
  rw [← hal] at HL hr
  clear hah hal
  have hw1 : IntKind.i64.wrap ((i : Int) + 1) = (i : Int) + 1 := IntWalk.i64_in _ (by omega)
  have hw2 : IntKind.i64.wrap ((i : Int) - 1) = (i : Int) - 1 := IntWalk.i64_in _ (by omega)
  cases al
  · replace hr : r = none := by rw [hr]; rfl
    subst hr
    cases ah
    all_goals
      go_enter Try.func87, Try.ntmps87
      go_wp2_with (first | (go_at_call 106; ((with_reducible refine (HA.out _).mono ?_); rintro e1 w1 ⟨rfl, rfl⟩)) | (go_at_call 107; ((with_reducible refine (HL.out _).mono ?_); rintro e1 w1 ⟨rfl, rfl⟩)))
      go_ret2
      exact ⟨rfl, rfl⟩
  · cases ah
    · by_cases h3 : i + 1 < n
      · replace hr : r = some (i + 1) := by rw [hr, if_pos rfl, if_neg (by simp), if_pos h3]
        subst hr
        have g1 : ¬ ((i : Int) + 1 < 0) := by omega
        have g2 : ¬ ((n : Int) ≤ (i : Int) + 1) := by omega
        go_enter Try.func87, Try.ntmps87
        go_wp2_with (first | (go_at_call 106; ((with_reducible refine (HA.out _).mono ?_); rintro e1 w1 ⟨rfl, rfl⟩)) | (go_at_call 107; ((with_reducible refine (HL.out _).mono ?_); rintro e1 w1 ⟨rfl, rfl⟩)))
        go_ret2
        exact ⟨by simp [besV], rfl⟩
      · replace hr : r = none := by rw [hr, if_pos rfl, if_neg (by simp), if_neg h3]
        subst hr
        have g1 : ¬ ((i : Int) + 1 < 0) := by omega
        have g2 : ((n : Int) ≤ (i : Int) + 1) := by omega
        go_enter Try.func87, Try.ntmps87
        go_wp2_with (first | (go_at_call 106; ((with_reducible refine (HA.out _).mono ?_); rintro e1 w1 ⟨rfl, rfl⟩)) | (go_at_call 107; ((with_reducible refine (HL.out _).mono ?_); rintro e1 w1 ⟨rfl, rfl⟩)))
        go_ret2
        exact ⟨rfl, rfl⟩
    · by_cases h3 : i = 0
      · replace hr : r = none := by rw [hr, if_pos rfl, if_pos rfl, if_pos h3]
        subst hr
        have g1 : (i : Int) - 1 < 0 := by omega
        go_enter Try.func87, Try.ntmps87
        go_wp2_with (first | (go_at_call 106; ((with_reducible refine (HA.out _).mono ?_); rintro e1 w1 ⟨rfl, rfl⟩)) | (go_at_call 107; ((with_reducible refine (HL.out _).mono ?_); rintro e1 w1 ⟨rfl, rfl⟩)))
        go_ret2
        exact ⟨rfl, rfl⟩
      · replace hr : r = some (i - 1) := by rw [hr, if_pos rfl, if_pos rfl, if_neg h3]
        subst hr
        have g1 : ¬ ((i : Int) - 1 < 0) := by omega
        have g2 : ¬ ((n : Int) ≤ (i : Int) - 1) := by omega
        have g3 : ((i - 1 : Nat) : Int) = (i : Int) - 1 := by omega
        go_enter Try.func87, Try.ntmps87
        go_wp2_with (first | (go_at_call 106; ((with_reducible refine (HA.out _).mono ?_); rintro e1 w1 ⟨rfl, rfl⟩)) | (go_at_call 107; ((with_reducible refine (HL.out _).mono ?_); rintro e1 w1 ⟨rfl, rfl⟩)))
        go_ret2
        exact ⟨by simp [besV, g3], rfl⟩
/-- The last seen client of a container. -/
def lastI (y : Con) : Int := if y.a.k = 0 then y.a.c else topI y
end Go.Proofs.Ytjeabkcbaielhaa.Co
end
section
namespace Go.Proofs.Ytjeabkcbaielhaa.Co
open Go.RowKit Go.Shelf
theorem nodes12_c (Z : Nat → Prop) : ∀ (x : Con) (sv : Value) (n : Int) (w : World), KV w Z x.ks sv → 0 ≤ n → n ≤ 500 →
    Calls Try.prog 46 #[conV x.a sv, .int .i64 n] w fun e w' => e = .returned (.int .i64 (nodesC x n)) ∧ Below w.heap.size w w' := by
  intro x
  induction x using Tr.ind with
  | h a ks ih =>
    intro sv n w hK h0 h1
    obtain ⟨p, cap, rfl, hl⟩ : ∃ p cap, sv = .slice p ks.length cap ∧ ks.length ≤ 1152921504606846976 := hK.slice
    have hK : KV w Z ks (.slice p ks.length cap) := hK
    show Calls Try.prog 46 #[.agg #[.int .i64 a.k, .int .i64 a.w, .int .i64 a.c, .int .i64 a.s, .slice p ks.length cap], .int .i64 n] w fun e w' => e = .returned (.int .i64 (nodesL ks (n + 1))) ∧ Below w.heap.size w w'
    have hN := nodesL_le a
    obtain ⟨m, hm⟩ : ∃ m, m = ks.length := ⟨_, rfl⟩
    rw [← hm] at hl hK ⊢
    have HM := Lib.hid hm
    have HK := Lib.hid hK
    have HN := Lib.hid hN
    have IH := Lib.hid ih
    clear hm hK hN ih
    have hB := (Below.refl w.heap.size w).alloc (Nat.le_refl _) (.cells #[.int .i64 a.k, .int .i64 a.w, .int .i64 a.c, .int .i64 a.s, .slice p m cap] 24)
    have hQ := Blk.new w 24 #[.int .i64 a.k, .int .i64 a.w, .int .i64 a.c, .int .i64 a.s, .slice p m cap]
    go_enter Try.func46, Try.ntmps46
    go_wp2_with fail
    go_loopw [1, 5] (fun u z wr => ∃ k : Nat, k ≤ m ∧ z = .int .i64 k ∧ u = .int .i64 (nodesL (ks.take k) (n + 1)) ∧ Below w.heap.size w wr ∧ Blk wr w.heap.size 24 #[.int .i64 a.k, .int .i64 a.w, .int .i64 a.c, .int .i64 a.s, .slice p m cap]) (fun _ z _ => m - (intOf z).toNat)
    case atStart => exact ⟨0, Nat.zero_le _, rfl, rfl, hB, hQ⟩
    case round =>
      obtain ⟨k, hk, rfl, rfl, hW, hq⟩ := hrel
      have hN2 := HN.out (ks.take k) n h0 h1
      have hz0 : 0 < nodesL (ks.take k) (n + 1) := by omega
      have hz1 : nodesL (ks.take k) (n + 1) ≤ 501 := hN2.2
      clear hN2
      by_cases hlt : k < m
      · by_cases hs : nodesL (ks.take k) (n + 1) ≤ 500
        · obtain ⟨x, hx⟩ : ∃ x, ks[k]? = some x := ⟨_, List.getElem?_eq_getElem (by rw [← HM.out]; exact hlt)⟩
          have hK1 := HK.out.same (Z' := Z) (w' := wr) (fun _ h => h) hW.size fun b _ hl => hW.block b hl
          obtain ⟨-, b, o, s', rfl, -, hb1, -, hk1, c0, c1, c2, c3, c4⟩ := hK1.kid hx
          have HI := Lib.hid (IH.out x (List.mem_of_getElem? hx) s' (nodesL (ks.take k) (n + 1)) wr hk1 (by omega) hs)
          have HE := Lib.hid (nodesL_snoc hx (n + 1) hs)
          clear hK1 hk1 hx
          obtain ⟨z, hz⟩ : ∃ z, z = nodesL (ks.take k) (n + 1) := ⟨_, rfl⟩
          rw [← hz] at HI HE hs hz0 hz1 ⊢
          clear hz
          obtain ⟨q4, qf⟩ : wr.cell? ⟨w.heap.size, 4, none⟩ = some (.slice (some ⟨b, o, none⟩) m cap) ∧ wr.frozen? ⟨w.heap.size, 4, none⟩ = false := ⟨hq.at_ (i := 4) rfl, hq.frozen 4⟩
          go_wp2_with fail
          refine HI.out.mono ?_
          rintro e w1 ⟨rfl, hb⟩
          rw [← HE.out]
          have hW1 := hW.trans (hb.mono hW.size)
          have hq1 := hq.next hb
          clear hb hW hq c0 c1 c2 c3 c4 q4 qf
          go_wp2_with fail
          go_roundw
          case rel => exact ⟨k + 1, by omega, by go_num, rfl, hW1, hq1⟩
          case measure => simp [intOf]; omega
        · have HE := Lib.hid (nodesL_all ks k (n + 1) (.inl (by omega)))
          obtain ⟨q4, qf⟩ : wr.cell? ⟨w.heap.size, 4, none⟩ = some (.slice p m cap) ∧ wr.frozen? ⟨w.heap.size, 4, none⟩ = false := ⟨hq.at_ (i := 4) rfl, hq.frozen 4⟩
          clear hq
          obtain ⟨z, hz⟩ : ∃ z, z = nodesL (ks.take k) (n + 1) := ⟨_, rfl⟩
          rw [← hz] at HE hs hz0 hz1 ⊢
          clear hz
          go_wp2_with fail
          go_ret
          exact ⟨ret_int HE.out.symm, hW⟩
      · have HE := Lib.hid (nodesL_all ks k (n + 1) (.inr (by have := HM.out; omega)))
        obtain ⟨q4, qf⟩ : wr.cell? ⟨w.heap.size, 4, none⟩ = some (.slice p m cap) ∧ wr.frozen? ⟨w.heap.size, 4, none⟩ = false := ⟨hq.at_ (i := 4) rfl, hq.frozen 4⟩
        clear hq
        obtain ⟨z, hz⟩ : ∃ z, z = nodesL (ks.take k) (n + 1) := ⟨_, rfl⟩
        rw [← hz] at HE hz0 hz1 ⊢
        clear hz
        go_wp2_with fail
        go_ret
        exact ⟨ret_int HE.out.symm, hW⟩
theorem last_c (Z : Nat → Prop) (y : Con) (sv : Value) (w : World) (hK : KV w Z y.ks sv) (hw : y.a.wide) (hd : ht y ≤ 1000000) :
    Calls Try.prog 88 #[conV y.a sv] w fun e w' => e = .returned (.int .i64 (lastI y)) ∧ Below w.heap.size w w' := by
  obtain ⟨p, cap, rfl, -⟩ := hK.slice
  obtain ⟨n, hn⟩ : ∃ n, n = y.ks.length := ⟨_, rfl⟩
  rw [← hn] at hK ⊢
  have hb0 := (Below.refl w.heap.size w).alloc (Nat.le_refl _) (.cells #[.int .i64 y.a.k, .int .i64 y.a.w, .int .i64 y.a.c, .int .i64 y.a.s, .slice p n cap] 24)
  have hq0 := Blk.new w 24 #[.int .i64 y.a.k, .int .i64 y.a.w, .int .i64 y.a.c, .int .i64 y.a.s, .slice p n cap]
  have HT := Lib.hid (Top_c y (.slice p n cap) _ (hK.next hb0).all hw hd)
  have HB := Lib.hid hb0
  have HQ := Lib.hid hq0
  obtain ⟨r, hr⟩ : ∃ r, r = lastI y := ⟨_, rfl⟩
  rw [← hr]
  unfold lastI at hr
  clear hn hK hw hd hb0 hq0
  show Calls Try.prog 88 #[.agg #[.int .i64 y.a.k, .int .i64 y.a.w, .int .i64 y.a.c, .int .i64 y.a.s, .slice p n cap]] w _
  obtain ⟨⟨b0, b1, b2, b3, b4⟩, -⟩ := c5 HQ.out
  by_cases h0 : y.a.k = 0
  · rw [if_pos h0] at hr
    have HR := Lib.hid hr
    have hk : (y.a.k == 0) = true := by simpa using h0
    clear hr HT h0
    go_enter Try.func88, Try.ntmps88
    go_wp2_with fail
    go_ret
    exact ⟨ret_int HR.out.symm, HB.out⟩
  · rw [if_neg h0] at hr
    rw [← hr] at HT
    have hk : (y.a.k == 0) = false := by simpa using h0
    clear hr h0
    go_enter Try.func88, Try.ntmps88
    go_wp2_with fail
    refine HT.out.mono ?_
    rintro e w1 ⟨rfl, hb⟩
    have HB1 := HB.out.trans (hb.mono HB.out.size)
    clear hb
    go_wp2_with fail
    go_ret
    exact ⟨rfl, HB1⟩
/-- Why nothing can be gone to. -/
def askW (x : Con) (c d : Int) : Int := if d < 1 ∨ 4 < d then 1 else askedI x c
theorem askW_zero {x : Con} {c d : Int} (h : askW x c d = 0) : 1 ≤ d ∧ d ≤ 4 ∧ treeB x = true ∧ hasB x c = true := by
  unfold askW at h
  by_cases h1 : d < 1 ∨ 4 < d
  · rw [if_pos h1] at h; exact absurd h (by decide)
  rw [if_neg h1] at h
  unfold askedI at h
  by_cases h2 : treeB x = false
  · rw [if_pos h2] at h; exact absurd h (by decide)
  rw [if_neg h2] at h
  by_cases h3 : hasB x c = false
  · rw [if_pos h3] at h; exact absurd h (by decide)
  exact ⟨by omega, by omega, by simpa using h2, by simpa using h3⟩
/-- What find tells. -/
def FoundW (x : Con) (c d : Int) (w : World) (e : Ending) (w' : World) : Prop :=
  Below w.heap.size w w' ∧ ((askW x c d ≠ 0 ∧ e = .returned (.tuple #[.slice none 0 0, .int .i64 (askW x c d)])) ∨ (askW x c d = 0 ∧ ∃ u v, IsWay x c u ∧ findI x c = some u ∧ e = .returned (.tuple #[v, .int .i64 0]) ∧ WV w' (fun _ => True) u v))
set_option maxHeartbeats 1000000 in
theorem wfind_c (x : Con) (sv : Value) (c d : Int) (w : World) (hK : KV w (fun b => b < w.heap.size) x.ks sv) (hw : x.a.wide) (hd : ht x ≤ 1000000) :
    Calls Try.prog 85 #[conV x.a sv, .int .i64 c, .int .i64 d] w (FoundW x c d w) := by
  obtain ⟨p, cap, rfl, -⟩ := hK.slice
  obtain ⟨n, hn⟩ : ∃ n, n = x.ks.length := ⟨_, rfl⟩
  rw [← hn] at hK ⊢
  obtain ⟨R, hR⟩ : ∃ R, R = FoundW x c d w := ⟨_, rfl⟩
  have hRe : ∀ e w', R e w' ↔ FoundW x c d w e w' := by rw [hR]; exact fun _ _ => Iff.rfl
  rw [← hR]
  have HR := Lib.hid hRe
  have hb0 := (Below.refl w.heap.size w).alloc (Nat.le_refl _) (.cells #[.int .i64 x.a.k, .int .i64 x.a.w, .int .i64 x.a.c, .int .i64 x.a.s, .slice p n cap] 24)
  have hq0 := Blk.new w 24 #[.int .i64 x.a.k, .int .i64 x.a.w, .int .i64 x.a.c, .int .i64 x.a.s, .slice p n cap]
  have HC := Lib.hid (check_c _ x (.slice p n cap) _ (hK.next hb0).all hw hd (fun _ h => h))
  rw [checkI_eq] at HC
  have HF := Lib.hid (fun W (h : Below w.heap.size w W) => Find_c x (.slice p n cap) c W (hK.next h).all hw hd)
  have HB := Lib.hid hb0
  have HQ := Lib.hid hq0
  clear hn hR hRe hK hw hd hb0 hq0
  show Calls Try.prog 85 #[.agg #[.int .i64 x.a.k, .int .i64 x.a.w, .int .i64 x.a.c, .int .i64 x.a.s, .slice p n cap], .int .i64 c, .int .i64 d] w R
  obtain ⟨⟨b0, b1, b2, b3, b4⟩, -⟩ := c5 HQ.out
  by_cases h1 : d < 1
  · have HA : Hid (askW x c d = 1) := by show _ = _; unfold askW; rw [if_pos (.inl h1)]
    clear HC HF
    go_enter Try.func85, Try.ntmps85
    go_wp2_with fail
    refine (HR.out _ _).2 ⟨HB.out, .inl ⟨by rw [HA.out]; decide, by rw [HA.out] <;> rfl⟩⟩
  by_cases h2 : 4 < d
  · have HA : Hid (askW x c d = 1) := by show _ = _; unfold askW; rw [if_pos (.inr h2)]
    clear HC HF
    go_enter Try.func85, Try.ntmps85
    go_wp2_with fail
    refine (HR.out _ _).2 ⟨HB.out, .inl ⟨by rw [HA.out]; decide, by rw [HA.out] <;> rfl⟩⟩
  have HA : Hid (askW x c d = askedI x c) := by show _ = _; unfold askW; rw [if_neg (by omega)]
  by_cases ht : treeB x = true
  rotate_left
  · have hf : treeB x = false := by cases h : treeB x; rfl; exact absurd h ht
    rw [if_pos hf] at HC
    have HA : Hid (askW x c d = 110) := by show _ = _; rw [HA.out]; unfold askedI; rw [if_pos hf]
    clear HF ht hf
    go_enter Try.func85, Try.ntmps85
    go_wp2_with fail
    refine HC.out.mono ?_
    rintro e w1 ⟨rfl, hb⟩
    have HB1 := HB.out.trans (hb.mono HB.out.size)
    clear hb
    go_wp2_with fail
    exact (HR.out _ _).2 ⟨HB1, .inl ⟨by rw [HA.out]; decide, by rw [HA.out] <;> rfl⟩⟩
  rw [if_neg (by rw [ht]; simp)] at HC
  have HT := Lib.hid ht
  have HA2 : Hid (askW x c d = if hasB x c = false then 6 else 0) := by show _ = _; rw [HA.out]; unfold askedI; rw [if_neg (by rw [ht]; simp)]
  clear ht HA
  go_enter Try.func85, Try.ntmps85
  go_wp2_with fail
  refine HC.out.mono ?_
  rintro e w1 ⟨rfl, hb⟩
  have HB1 := Lib.hid (HB.out.trans (hb.mono HB.out.size))
  have HQ1 := Lib.hid (HQ.out.next hb)
  clear hb HC HB HQ b0 b1 b2 b3 b4
  obtain ⟨⟨b0, b1, b2, b3, b4⟩, -⟩ := c5 HQ1.out
  have HFF := Lib.hid (HF.out w1 HB1.out)
  go_wp2_with fail
  refine HFF.out.mono ?_
  rintro e w2 ⟨hb, v, rfl, hv⟩
  have HB2 := HB1.out.trans (hb.mono HB1.out.size)
  rcases findI_spec (c := c) HT.out with ⟨g1, g2⟩ | ⟨g1, u, g2, g3⟩
  · rw [g2] at hv ⊢
    have hv : v = .slice none 0 0 := hv
    subst hv
    rw [if_pos g1] at HA2
    clear hb g1 g2 HF HFF
    go_wp2_with fail
    exact (HR.out _ _).2 ⟨HB2, .inl ⟨by rw [HA2.out]; decide, by rw [HA2.out] <;> rfl⟩⟩
  · rw [g3] at hv ⊢
    have hv : WV w2 (fun _ => True) u v := hv
    rw [if_neg (by rw [g1]; simp)] at HA2
    have HV := Lib.hid hv
    have HU := Lib.hid (And.intro g2 g3)
    clear hb g1 g2 g3 hv HF HFF
    go_wp2_with fail
    exact (HR.out _ _).2 ⟨HB2, .inr ⟨HA2.out, u, v, HU.out.1, HU.out.2, rfl, HV.out⟩⟩
end Go.Proofs.Ytjeabkcbaielhaa.Co
end
section
namespace Go.Proofs.Ytjeabkcbaielhaa.Co
open Go.RowKit Go.Shelf
/-- From a place of the way upward: the first split that lies so, and has one beside. -/
def nextN (x : Con) (u : List Nat) (d : Int) : Nat → Int × Int
  | 0 => (0, 120)
  | m + 1 => match get x (u.take m), u[m]? with
    | some p, some i => match besI p.a.k p.ks.length i d with
      | some j => match p.ks[j]? with
        | some y => (lastI y, 0)
        | none => (0, 120)
      | none => nextN x u d m
    | _, _ => (0, 120)
theorem nextN_no {x p : Con} {u : List Nat} {d : Int} {m i : Nat} (hp : get x (u.take m) = some p) (hi : u[m]? = some i) (hb : besI p.a.k p.ks.length i d = none) : nextN x u d (m + 1) = nextN x u d m := by
  simp only [nextN, hp, hi, hb]
theorem nextN_yes {x p y : Con} {u : List Nat} {d : Int} {m i j : Nat} (hp : get x (u.take m) = some p) (hi : u[m]? = some i) (hb : besI p.a.k p.ks.length i d = some j) (hy : p.ks[j]? = some y) : nextN x u d (m + 1) = (lastI y, 0) := by
  simp only [nextN, hp, hi, hb, hy]
def nextI (x : Con) (c d : Int) : Int × Int := if askW x c d ≠ 0 then (0, askW x c d) else match findI x c with
  | some u => nextN x u d u.length
  | none => (0, 6)
theorem nextI_at {x : Con} {c d : Int} {u : List Nat} (h : askW x c d = 0) (hu : findI x c = some u) : nextI x c d = nextN x u d u.length := by
  unfold nextI; rw [if_neg (by rw [h]; simp), hu]
theorem nextI_no {x : Con} {c d : Int} (h : askW x c d ≠ 0) : nextI x c d = (0, askW x c d) := by unfold nextI; rw [if_pos h]
theorem ConAt.of {w : World} {g : Nat} {x : Con} {sv : Value} {Z : Nat → Prop} (hK : KV w Z x.ks sv) (hw : x.a.wide) (hQ : Blk w g 24 #[.int .i64 x.a.k, .int .i64 x.a.w, .int .i64 x.a.c, .int .i64 x.a.s, sv]) : ConAt w Z g 0 x := by
  obtain ⟨⟨b0, b1, b2, b3, b4⟩, -⟩ := c5 hQ
  exact ⟨hQ.lt, hw, sv, hK, b0, b1, b2, b3, b4⟩
/-- What stands at a place of a way. -/
theorem way_step9 {x s : Con} {u : List Nat} {m : Nat} (h : get x u = some s) (hm : m < u.length) : ∃ p i y, get x (u.take m) = some p ∧ u[m]? = some i ∧ p.ks[i]? = some y ∧ u.take (m + 1) = u.take m ++ [i] ∧ get x (u.take (m + 1)) = some y := by
  obtain ⟨p, h1, h2⟩ := get_take h m
  have hi : u[m]? = some u[m] := List.getElem?_eq_getElem hm
  rw [List.drop_eq_getElem_cons hm] at h2
  obtain ⟨a, ks⟩ := p
  obtain ⟨y, hy, -⟩ := get_cons h2
  refine ⟨_, u[m], y, h1, hi, hy, take_snoc hi, ?_⟩
  rw [take_snoc hi, get_append _ h1]
  simp only [get]
  rw [hy]
set_option maxHeartbeats 2000000 in
set_option maxRecDepth 100000 in
theorem Next_c (x : Con) (sv : Value) (c d : Int) (w : World) (hK : KV w (fun b => b < w.heap.size) x.ks sv) (hw : x.a.wide) (hd : ht x ≤ 1000000) :
    Calls Try.prog 48 #[conV x.a sv, .int .i64 c, .int .i64 d] w fun e w' => e = .returned (.tuple #[.int .i64 (nextI x c d).1, .int .i64 (nextI x c d).2]) ∧ Below w.heap.size w w' := by
  obtain ⟨p, cap, rfl, -⟩ := hK.slice
  obtain ⟨n, hn⟩ : ∃ n, n = x.ks.length := ⟨_, rfl⟩
  rw [← hn] at hK ⊢
  obtain ⟨r, hr⟩ : ∃ r, r = nextI x c d := ⟨_, rfl⟩
  rw [← hr]
  have HRR := Lib.hid hr
  have hb0 := (Below.refl w.heap.size w).alloc (Nat.le_refl _) (.cells #[.int .i64 x.a.k, .int .i64 x.a.w, .int .i64 x.a.c, .int .i64 x.a.s, .slice p n cap] 24)
  have hq0 := Blk.new w 24 #[.int .i64 x.a.k, .int .i64 x.a.w, .int .i64 x.a.c, .int .i64 x.a.s, .slice p n cap]
  have HF := Lib.hid (wfind_c x (.slice p n cap) c d _ (hK.next hb0).all hw hd)
  have HB := Lib.hid hb0
  have HQ := Lib.hid hq0
  have HK := Lib.hid hK
  have HW := Lib.hid hw
  have HHT := Lib.hid hd
  clear hn hr hb0 hq0 hK hw hd
  show Calls Try.prog 48 #[.agg #[.int .i64 x.a.k, .int .i64 x.a.w, .int .i64 x.a.c, .int .i64 x.a.s, .slice p n cap], .int .i64 c, .int .i64 d] w _
  obtain ⟨⟨b0, b1, b2, b3, b4⟩, -⟩ := c5 HQ.out
  go_enter Try.func48, Try.ntmps48
  go_wp2_with fail
  refine HF.out.mono ?_
  rintro e w1 ⟨hb, hh⟩
  have HB1 := Lib.hid (HB.out.trans (hb.mono HB.out.size))
  have HQ1 := Lib.hid (HQ.out.next hb)
  clear hb HF HB HQ b0 b1 b2 b3 b4
  rcases hh with ⟨h0, rfl⟩ | ⟨h0, u, v, hu, hf, rfl, hv⟩
  · obtain ⟨a, ha⟩ : ∃ a, a = askW x c d := ⟨_, rfl⟩
    have HR : Hid (r = (0, a)) := by show _ = _; rw [HRR.out, nextI_no h0, ha]
    rw [← ha] at h0 ⊢
    have hne : (a == 0) = false := by simpa using h0
    clear ha h0
    go_wp2_with fail
    go_ret2
    exact ⟨by rw [HR.out] <;> rfl, HB1.out⟩
  · have HR : Hid (r = nextN x u d u.length) := by show _ = _; rw [HRR.out, nextI_at h0 hf]
    have HU : Hid (∃ s, get x u = some s) := by obtain ⟨_, _, _, y, _, _, _, _, _, h⟩ := hu; exact ⟨y, h⟩
    obtain ⟨q, cu, rfl⟩ := hv.slice
    have HV := Lib.hid hv
    obtain ⟨m, hm⟩ : ∃ m, m = u.length := ⟨_, rfl⟩
    have hmm : m ≤ 1152921504606846976 ∧ m ≤ cu := by
      obtain ⟨q', c', e, h2, h3, -⟩ := hv
      obtain ⟨-, -, rfl⟩ := Value.slice.inj e
      exact ⟨hm ▸ h2, hm ▸ h3⟩
    obtain ⟨hm1, hm2⟩ := hmm
    rw [← hm] at HR ⊢
    have HM := Lib.hid hm
    clear HRR h0 hu hf hv hm
    go_wp2_with fail
    go_loopw [10] (fun z wr => ∃ k : Nat, k ≤ m ∧ z = .int .i64 (k : Int) ∧ Asd (nextN x u d m = nextN x u d k) ∧ Below w.heap.size w wr ∧ Below w1.heap.size w1 wr) (fun z _ => (intOf z).toNat)
    case atStart => exact ⟨m, Nat.le_refl _, rfl, rfl, HB1.out, Below.refl _ _⟩
    case round =>
      obtain ⟨k, hk, rfl, hnx, hW, hW1⟩ := hrel
      have hnx : nextN x u d m = nextN x u d k := hnx
      by_cases hk0 : k = 0
      · subst hk0
        have HR2 : Hid (r = (0, 120)) := by show _ = _; rw [HR.out, hnx]; rfl
        clear hnx
        go_wp2_with fail
        go_ret2
        exact ⟨by rw [HR2.out] <;> rfl, hW⟩
      · obtain ⟨k', rfl⟩ : ∃ k', k = k' + 1 := ⟨k - 1, by omega⟩
        obtain ⟨s, hs⟩ := HU.out
        obtain ⟨P, i, y0, h1, h2, h3, h4, h5⟩ := way_step9 (m := k') hs (by rw [← HM.out]; omega)
        have hA := ConAt.of (HK.out.next hW) HW.out (HQ1.out.next hW1)
        obtain ⟨b', o', hP, hAP⟩ := hA.path h1
        have hvk := HV.out.next hW1
        rw [← HM.out] at hvk
        have hvf : WV wr (fun _ => True) (u.take (k' + 1)) (.slice q (k' + 1) cu) := by
          have := HV.out.next hW1
          exact this.front (k' + 1) (by rw [← HM.out]; omega)
        rw [h4] at hvf
        have HCU := Lib.hid (cut_p _ _ _ b' o' _ _ _ wr hP hvf)
        obtain ⟨hlt, hwP, sP, hKP, c0, c1, c2, c3, c4⟩ := hAP
        obtain ⟨pp, cp, rfl, hlP⟩ := hKP.slice
        have hil := (List.getElem?_eq_some_iff.1 h3).1
        obtain ⟨nP, hnP⟩ : ∃ n, n = P.ks.length := ⟨_, rfl⟩
        rw [← hnP] at hil hlP c4 hKP
        have HKP := Lib.hid hKP
        have HNX := Lib.hid hnx
        have HBS := Lib.hid (fun m9 => beside_c b' o' P.a.k nP cp pp i d (wr.drewN m9) c0 c4 hil hlP)
        obtain ⟨br, hbr⟩ : ∃ b, b = besI P.a.k nP i d := ⟨_, rfl⟩
        rw [← hbr] at HBS
        have HH := Lib.hid (And.intro h1 (And.intro h2 hbr))
        have HNP := Lib.hid hnP
        have hkk : k' + 1 ≤ cu := by omega
        have hki : (0 : Int) < ((k' + 1 : Nat) : Int) := by omega
        have hki2 : ((k' + 1 : Nat) : Int) ≤ (m : Int) := by omega
        have hw1 : IntKind.i64.wrap (((k' + 1 : Nat) : Int) - 1) = (k' : Int) := by rw [IntWalk.i64_in _ (by omega)]; omega
        clear hA hP hvk hvf hKP hnx hbr h1 h2 h3 h4 h5 hs hnP hwP c1 c2 c3 hk0
        have hWr := Lib.hid hW
        have hWr1 := Lib.hid hW1
        clear hW hW1
        go_wp2_with fail
        refine HCU.out.mono ?_
        rintro e w2 ⟨rfl, m9, rfl⟩
        go_wp2_with fail
        refine (HBS.out m9).mono ?_
        rintro e w3 ⟨rfl, rfl⟩
        cases br with
        | none =>
          have HE : Hid (nextN x u d m = nextN x u d k') := by
            show _ = _
            rw [HNX.out, nextN_no HH.out.1 HH.out.2.1 (by rw [← HNP.out]; exact HH.out.2.2.symm)]
          clear HCU HBS HNX
          simp only [besV]
          go_wp2_with fail
          go_roundw
          case rel => exact ⟨k', by omega, by go_num, HE.out, below_drewN hWr.out _, below_drewN hWr1.out _⟩
          case measure => simp [intOf]
        | some j =>
          have hjb := besI_lt HH.out.2.2.symm hil
          obtain ⟨y, hy⟩ : ∃ y, P.ks[j]? = some y := ⟨_, List.getElem?_eq_getElem (by rw [← HNP.out]; exact hjb.1)⟩
          have HE : Hid (r = (lastI y, 0)) := by
            show _ = _
            rw [HR.out, HNX.out, nextN_yes HH.out.1 HH.out.2.1 (by rw [← HNP.out]; exact HH.out.2.2.symm) hy]
          obtain ⟨-, gy, oy, sy, rfl, -, -, hwy, hky, y0, y1, y2, y3, y4⟩ := HKP.out.kid hy
          have hyt : ht y ≤ 1000000 := by
            have g1 : get x (u.take k' ++ [j]) = some y := by
              rw [get_append _ HH.out.1]; obtain ⟨a, ks⟩ := P; simp only [get]; rw [show ks[j]? = some y from hy]
            have := ht_get g1
            have := HHT.out
            omega
          have HL := Lib.hid (fun m9 => last_c (fun b => b < w.heap.size) y sy (wr.drewN m9) (hky.drewN m9) hwy hyt)
          have hj0 : ((j : Nat) : Int) < (nP : Int) := by omega
          have hj1 : (0 : Int) ≤ (j : Int) := by omega
          obtain ⟨lr, hlr⟩ : ∃ l, l = lastI y := ⟨_, rfl⟩
          rw [← hlr] at HE HL
          clear HCU HBS HNX hjb hy hwy hky hyt HKP HH hlr
          simp only [besV]
          go_wp2_with fail
          refine (HL.out m9).mono ?_
          rintro e w4 ⟨rfl, hb⟩
          have HB4 := (below_drewN hWr.out m9).trans (hb.mono (below_drewN hWr.out m9).size)
          clear hb HL
          go_wp2_with fail
          go_ret2
          exact ⟨by rw [HE.out] <;> rfl, HB4⟩
end Go.Proofs.Ytjeabkcbaielhaa.Co
end
section
namespace Go.Proofs.Ytjeabkcbaielhaa.Co
open Go.RowKit Go.Shelf
theorem split_shape9 {a : D} {ks : List Con} {d : Nat} (h : shape (.mk a ks) d = true) (hk : a.k ≠ 0) : d ≤ 8 ∧ 1 ≤ a.w ∧ a.w ≤ 1048576 ∧ 1 ≤ a.k ∧ a.k ≤ 4 ∧ a.c = 0 ∧ a.s = 0 ∧ ks.length ≤ 64 ∧ (d = 0 ∨ 0 < ks.length) ∧ ∀ x ∈ ks, shape x (d + 1) = true := by
  have hh := h
  simp only [shape, Bool.and_eq_true] at h
  have h1 := h.1
  unfold soundB at h1
  split at h1
  · cases h1
  · rename_i h2
    simp only [Tr.a_mk] at h2
    rw [if_neg (by simpa using hk)] at h1
    have h1 := of_decide_eq_true h1
    simp only [Tr.a_mk, Tr.ks_mk] at h1
    obtain ⟨h3, h4, h5, h6, h7, h8⟩ := h1
    exact ⟨by omega, by omega, by omega, h3, h4, h5, h6, h7, h8, fun x hx => shape_kid hh hx⟩
theorem shape_splitI9 {a : D} {ks : List Con} {d : Nat} (h1 : d ≤ 8) (h2 : 1 ≤ a.w) (h3 : a.w ≤ 1048576) (h4 : 1 ≤ a.k) (h5 : a.k ≤ 4) (h6 : a.c = 0) (h7 : a.s = 0) (h8 : ks.length ≤ 64) (h9 : d = 0 ∨ 0 < ks.length) (h : ∀ x ∈ ks, shape x (d + 1) = true) : shape (.mk a ks) d = true := by
  simp only [shape, Bool.and_eq_true]
  refine ⟨?_, shapeL_of h⟩
  unfold soundB
  rw [if_neg (by simp only [Tr.a_mk]; omega), if_neg (by simp only [Tr.a_mk]; omega)]
  exact decide_eq_true ⟨h4, h5, h6, h7, h8, h9⟩
theorem shape_up9 : ∀ (x : Con) (d : Nat), shape x (d + 1) = true → 0 < d → shape x d = true := by
  intro x
  induction x using Tr.ind with
  | h a ks ih =>
    intro d h hd
    by_cases hk : a.k = 0
    · obtain ⟨p1, p2, p3, p4, p5, p6⟩ := leaf_shape h hk
      have hl := shape_leaf h hk
      simp only [Tr.ks_mk, Tr.a_mk] at *
      subst hl
      have e : (Tr.mk a [] : Con) = .mk ⟨0, a.w, a.c, a.s⟩ [] := by rw [← hk]
      rw [e]
      exact shape_leafI (by omega) hd p3 p4 p5 p6
    · obtain ⟨p1, p2, p3, p4, p5, p6, p7, p8, p9, p10⟩ := split_shape9 h hk
      exact shape_splitI9 (by omega) p2 p3 p4 p5 p6 p7 p8 (.inr (by omega)) fun y hy => ih y hy (d + 1) (p10 y hy) (by omega)
theorem shape_one : ∀ (d : Nat) (y : Con), shape y (d + 1) = true → shape y 1 = true
  | 0, _, h => h
  | d + 1, y, h => shape_one d y (shape_up9 y (d + 1) h (by omega))
end Go.Proofs.Ytjeabkcbaielhaa.Co
end
