/- The document's less. The document's Remove. Small containers; what the code's calls tell, as it reads. Plain: what a tree is when a container in it becomes another: its leaves, its shape, how many containers. Plain: two clients swapped: a tree, and back again. The document's Turn, Touch. The document's Wrap. The document's Find, and where its way lies. The document's Swap. -/
import Derived.Test.YtjeabkcbaielhaaCpZ
import Derived.Test.YtjeabkcbaielhaaCpF
import Derived.Test.YtjeabkcbaielhaaCpM
import Derived.Test.YtjeabkcbaielhaaCpY
import Derived.Test.YtjeabkcbaielhaaCpX
section
namespace Go.Proofs.Ytjeabkcbaielhaa.Co
open Go.RowKit Go.Shelf Go.Maps
theorem KV.st5 {w : World} {Z Z' : Nat → Prop} {ks : List Con} {v : Value} {g : Nat} (h : KV w Z ks v) (hg : ∀ b, Z b → b ≠ g) (hz : ∀ b, Z b → Z' b) (v0 v1 v2 v3 v4 : Value) : KV (st5 w g v0 v1 v2 v3 v4) Z' ks v :=
  h.same hz (by simp [Co.st5, World.setCell]) fun b hb _ => far_st5 w g v0 v1 v2 v3 v4 b (hg b hb)
end Go.Proofs.Ytjeabkcbaielhaa.Co
end
section
namespace Go.Proofs.Ytjeabkcbaielhaa.Co
open Go.RowKit Go.Shelf Go.Maps
/-- What the document's call tells: an error, or a container. -/
def DocR (Z : Nat → Prop) (r : Con × Int) (w : World) (e : Ending) (w' : World) : Prop :=
  Below w.heap.size w w' ∧ ∃ (y : Con) (s : Value), e = .returned (.tuple #[conV y.a s, .int .i64 r.2]) ∧ KV w' (fun b => Z b ∨ w.heap.size ≤ b) y.ks s ∧ y = if r.2 = 0 then r.1 else zeroT
theorem removeD_asked (x : Con) (c : Int) : removeD x c = if askedI x c = 0 then (.mk x.a (lessL c x.ks), 0) else (zeroT, askedI x c) := by
  unfold removeD askedI
  cases treeB x <;> cases hasB x c <;> rfl
end Go.Proofs.Ytjeabkcbaielhaa.Co
end
section
namespace Go.Proofs.Ytjeabkcbaielhaa.Co
open Go.RowKit Go.Shelf
theorem pre_bounds : ∀ (x : Con) (w : List Nat), (all x).length ≤ (pre x w).length ∧ ht x + 1 ≤ (pre x w).length ∧ wd x + 1 ≤ (pre x w).length := by
  intro x
  induction x using Tr.ind with
  | h a ks ih =>
    intro w
    have hL : ∀ (l : List Con) (i : Nat), (∀ x ∈ l, x ∈ ks) → (allL l).length ≤ (preL l w i).length ∧ htL l ≤ (preL l w i).length ∧ wdL l ≤ (preL l w i).length ∧ l.length ≤ (preL l w i).length := by
      intro l
      induction l with
      | nil => intro i _; simp [allL, htL, wdL]
      | cons y r ihr =>
        intro i hm
        obtain ⟨h1, h2, h3⟩ := ih y (hm y (by simp)) (w ++ [i])
        obtain ⟨h4, h5, h6, h7⟩ := ihr (i + 1) fun z hz => hm z (by simp [hz])
        simp only [allL, htL, wdL, preL, List.length_append, List.length_cons]
        omega
    obtain ⟨h1, h2, h3, h4⟩ := hL ks 0 fun _ h => h
    simp only [pre, ht, wd, List.length_cons, all]
    refine ⟨?_, by omega, by omega⟩
    split
    · simp
    · omega
/-- A container that the laws look at. -/
structure Small (x : Con) : Prop where
  n5 : (pre x []).length ≤ 900
  f : fine x
theorem Small.ht {x : Con} (h : Small x) : ht x ≤ 1000000 := by have := (pre_bounds x []).2.1; have := h.n5; omega
theorem Small.wd {x : Con} (h : Small x) : wd x ≤ 100000 := by have := (pre_bounds x []).2.2; have := h.n5; omega
theorem Small.al {x : Con} (h : Small x) : (all x).length ≤ 1000000 := by have := (pre_bounds x []).1; have := h.n5; omega
theorem Small.wide {x : Con} (h : Small x) : x.a.wide := (h.f [] x rfl).1
theorem Small.of {x : Con} {w : World} {Z : Nat → Prop} {v : Value} (hK : KV w Z x.ks v) (hw : x.a.wide) (hn : nodesC x 0 ≤ 500) : Small x := by
  have h1 := pre_len x [] 0 hn
  have h2 : (pre x []).length ≤ 900 := by omega
  have h3 := (pre_bounds x []).2.2
  exact ⟨h2, hK.fine hw (by omega)⟩
theorem kv_told {N : Nat} {w : World} {t : ATr} {y : Con} (ho : Own w t) (hb : ∀ b ∈ blks t, N ≤ b) (he : era t = y) (hf : fine y) : KV w (fun b => N ≤ b) y.ks (slA t) := by
  subst he
  refine ho.reads hb fun u x hx => ?_
  have := hf u (era x) (by rw [era_get, hx]; rfl)
  rw [era_a, era_ks, List.length_map] at this
  exact ⟨this.1, by omega⟩
/-- What the code tells, as it reads. -/
theorem TellR.reads {N : Nat} {r : Con × Int} {e : Ending} {w : World} (h : TellR N r e w) (hf : r.2 = 0 → fine r.1) : ∃ (y : Con) (s : Value), e = .returned (.tuple #[conV y.a s, .int .i64 r.2]) ∧ KV w (fun b => N ≤ b) y.ks s ∧ y = if r.2 = 0 then r.1 else zeroT := by
  rcases h with ⟨h1, h2⟩ | ⟨h1, t, ho, _, hb, he, h2⟩
  · exact ⟨zeroT, .slice none 0 0, h2, KV.nil w _ none 0, by rw [if_neg h1]⟩
  · refine ⟨r.1, slA t, ?_, kv_told ho hb he (hf h1), by rw [if_pos h1]⟩
    rw [h2, ← he, era_a, h1]
end Go.Proofs.Ytjeabkcbaielhaa.Co
end
section
namespace Go.Proofs.Ytjeabkcbaielhaa.Co
open Go.RowKit Go.Shelf
/-- How many containers. -/
def cnt (x : Con) : Nat := (pre x []).length
theorem pre_same : ∀ (x : Con) (w v : List Nat), (pre x w).length = (pre x v).length := by
  intro x
  induction x using Tr.ind with
  | h a ks ih =>
    intro w v
    have hL : ∀ (l : List Con) (i j : Nat), (∀ x ∈ l, x ∈ ks) → (preL l w i).length = (preL l v j).length := by
      intro l
      induction l with
      | nil => intro i j _; rfl
      | cons y r ihr =>
        intro i j hm
        simp only [preL, List.length_append]
        rw [ih y (hm y (by simp)) (w ++ [i]) (v ++ [j]), ihr (i + 1) (j + 1) fun z hz => hm z (by simp [hz])]
    simp only [pre, List.length_cons]
    rw [hL ks 0 0 fun _ h => h]
def cntL : List Con → Nat
  | [] => 0
  | x :: r => cnt x + cntL r
theorem preL_cnt : ∀ (l : List Con) (w : List Nat) (i : Nat), (preL l w i).length = cntL l := by
  intro l
  induction l with
  | nil => intro _ _; rfl
  | cons x r ih =>
    intro w i
    simp only [preL, List.length_append, cntL]
    rw [ih, pre_same x (w ++ [i]) []]; rfl
theorem cnt_mk (a : D) (ks : List Con) : cnt (.mk a ks) = cntL ks + 1 := by
  unfold cnt; simp only [pre, List.length_cons]; rw [preL_cnt]
theorem cntL_append (a b : List Con) : cntL (a ++ b) = cntL a + cntL b := by
  induction a with
  | nil => simp [cntL]
  | cons x r ih => simp only [List.cons_append, cntL, ih]; omega
theorem split_at {α : Type} {l : List α} {i : Nat} {x : α} (h : l[i]? = some x) : l = l.take i ++ x :: l.drop (i + 1) ∧ ∀ y, l.set i y = l.take i ++ y :: l.drop (i + 1) := by
  obtain ⟨hl, rfl⟩ := List.getElem?_eq_some_iff.1 h
  refine ⟨?_, fun y => ?_⟩
  · rw [← List.drop_eq_getElem_cons hl, List.take_append_drop]
  · rw [List.set_eq_take_append_cons_drop, if_pos hl]
theorem cnt_put : ∀ {u : List Nat} {x s s' : Con}, get x u = some s → cnt (put x u s') + cnt s = cnt x + cnt s' := by
  intro u
  induction u with
  | nil => intro x s s' h; simp only [get] at h; have h := Option.some.inj h; subst h; simp only [put]; omega
  | cons i r ih =>
    intro x s s' h
    obtain ⟨a, ks⟩ := x
    obtain ⟨z, hz, hr⟩ := get_consP h
    obtain ⟨h1, h2⟩ := split_at hz
    have := ih (s' := s') hr
    rw [put_consI hz, cnt_mk, cnt_mk, h2, cntL_append]
    have e : cntL ks = cntL (ks.take i) + (cnt z + cntL (ks.drop (i + 1))) := by
      have := congrArg cntL h1
      rw [cntL_append] at this
      exact this
    rw [e]
    simp only [cntL]
    omega
theorem all_put : ∀ {u : List Nat} {x s : Con} {d : Nat}, shape x d = true → get x u = some s → ∃ l1 l2, all x = l1 ++ all s ++ l2 ∧ ∀ s', all (put x u s') = l1 ++ all s' ++ l2 := by
  intro u
  induction u with
  | nil => intro x s d _ h; simp only [get] at h; have h := Option.some.inj h; subst h; exact ⟨[], [], by simp, fun s' => by simp [put]⟩
  | cons i r ih =>
    intro x s d h hs
    obtain ⟨a, ks⟩ := x
    obtain ⟨z, hz, hr⟩ := get_consP hs
    have hk0 : a.k ≠ 0 := fun e => by have := shape_leaf h e; simp only [Tr.ks_mk] at this; rw [this] at hz; cases hz
    obtain ⟨l1, l2, h1, h2⟩ := ih (shape_kid h (List.mem_of_getElem? hz)) hr
    obtain ⟨e1, e2⟩ := split_at hz
    refine ⟨(ks.take i).flatMap all ++ l1, l2 ++ (ks.drop (i + 1)).flatMap all, ?_, fun s' => ?_⟩
    · rw [all_kid hk0]
      conv => lhs; rw [e1]
      rw [List.flatMap_append, List.flatMap_cons, h1]; simp [List.append_assoc]
    · rw [put_consI hz, all_kid hk0, e2, List.flatMap_append, List.flatMap_cons, h2]; simp [List.append_assoc]
theorem shapeL_of {ks : List Con} {d : Nat} (h : ∀ x ∈ ks, shape x d = true) : shapeL ks d = true := by
  induction ks with
  | nil => rfl
  | cons x r ih => simp only [shapeL, Bool.and_eq_true]; exact ⟨h x (by simp), ih fun y hy => h y (by simp [hy])⟩
/-- By itself, a container may be by its numbers and how many kids it has. -/
theorem sound_len {a : D} {ks ls : List Con} {d : Nat} (hl : ls.length = ks.length) : soundB (.mk a ls) d = soundB (.mk a ks) d := by
  by_cases c1 : 8 < d ∨ a.w < 1 ∨ 1048576 < a.w
  · simp [soundB, c1]
  · by_cases c2 : a.k = 0
    · simp [soundB, c1, c2, hl]
    · rw [Bool.eq_iff_iff]; simp [soundB, c1, c2, hl]; exact ⟨fun h => decide_eq_true h, fun h => of_decide_eq_true h⟩
theorem shape_put : ∀ {u : List Nat} {x s s' : Con} {d : Nat}, shape x d = true → get x u = some s → shape s' (d + u.length) = true → shape (put x u s') d = true := by
  intro u
  induction u with
  | nil => intro x s s' d _ _ h; simpa [put] using h
  | cons i r ih =>
    intro x s s' d h hs hs'
    obtain ⟨a, ks⟩ := x
    obtain ⟨z, hz, hr⟩ := get_consP hs
    have hh := h
    simp only [shape, Bool.and_eq_true] at h
    have h1 := ih (shape_kid hh (List.mem_of_getElem? hz)) hr (s' := s') (by rwa [show d + 1 + r.length = d + (i :: r).length by simp; omega])
    rw [put_consI hz]
    simp only [shape, Bool.and_eq_true]
    refine ⟨(sound_len (List.length_set ..)).trans h.1, shapeL_of fun y hy => ?_⟩
    rcases List.mem_or_eq_of_mem_set hy with hy | rfl
    · exact shapeL_mem h.2 y hy
    · exact h1
theorem clients_put {u : List Nat} {x s : Con} {d : Nat} (h : shape x d = true) (hs : get x u = some s) : ∃ l1 l2, clients x = l1 ++ clients s ++ l2 ∧ ∀ s', clients (put x u s') = l1 ++ clients s' ++ l2 := by
  obtain ⟨l1, l2, h1, h2⟩ := all_put h hs
  exact ⟨l1.map cl, l2.map cl, by unfold clients; rw [h1]; simp, fun s' => by unfold clients; rw [h2]; simp⟩
theorem clients_len (x : Con) : (clients x).length = (all x).length := by simp [clients]
theorem tree_of {x : Con} (h1 : shape x 0 = true) (h2 : (clients x).Nodup) (h3 : (all x).length ≤ 128) : treeB x = true := by
  unfold treeB; simp [h1, h2, h3]
theorem put_self {α : Type} : ∀ {u : List Nat} {x s : Tr α}, get x u = some s → put x u s = x := by
  intro u
  induction u with
  | nil => intro x s h; simp only [get] at h; have h := Option.some.inj h; subst h; rfl
  | cons i r ih =>
    intro x s h
    obtain ⟨a, ks⟩ := x
    obtain ⟨z, hz, hr⟩ := get_consP h
    rw [put_consI hz, ih hr, set_self hz]
theorem get_put_at {α : Type} : ∀ {u : List Nat} {x s s' : Tr α}, get x u = some s → get (put x u s') u = some s' := by
  intro u
  induction u with
  | nil => intro x s s' _; rfl
  | cons i r ih =>
    intro x s s' h
    obtain ⟨a, ks⟩ := x
    obtain ⟨z, hz, hr⟩ := get_consP h
    rw [put_consI hz, get_consI (List.getElem?_set_self (List.getElem?_eq_some_iff.1 hz).1)]
    exact ih hr
theorem put_put {α : Type} : ∀ {u : List Nat} {x s s' s2 : Tr α}, get x u = some s → put (put x u s') u s2 = put x u s2 := by
  intro u
  induction u with
  | nil => intro x s s' s2 _; rfl
  | cons i r ih =>
    intro x s s' s2 h
    obtain ⟨a, ks⟩ := x
    obtain ⟨z, hz, hr⟩ := get_consP h
    rw [put_consI hz, put_consI (List.getElem?_set_self (List.getElem?_eq_some_iff.1 hz).1), ih hr, List.set_set, put_consI hz]
/-- Another leaf stays where it is. -/
theorem get_put_other {α : Type} : ∀ {v w : List Nat} {x y z s' : Tr α}, get x v = some y → y.ks = [] → get x w = some z → z.ks = [] → v ≠ w → get (put x v s') w = some z := by
  intro v
  induction v with
  | nil =>
    intro w x y z s' hy hk hz _ hne
    simp only [get] at hy; have hy := Option.some.inj hy; subst hy
    cases w with
    | nil => exact absurd rfl hne
    | cons j t =>
      obtain ⟨a, ks⟩ := x
      obtain ⟨q, hq, _⟩ := get_consP hz
      simp only [Tr.ks_mk] at hk
      rw [hk] at hq; cases hq
  | cons i r ih =>
    intro w x y z s' hy hk hz hzk hne
    obtain ⟨a, ks⟩ := x
    obtain ⟨q, hq, hr⟩ := get_consP hy
    cases w with
    | nil =>
      simp only [get] at hz; have hz := Option.some.inj hz; subst hz
      simp only [Tr.ks_mk] at hzk
      rw [hzk] at hq; cases hq
    | cons j t =>
      obtain ⟨q2, hq2, hr2⟩ := get_consP hz
      rw [put_consI hq]
      by_cases e : i = j
      · subst e
        rw [hq] at hq2; have hq2 := Option.some.inj hq2; subst hq2
        rw [get_consI (List.getElem?_set_self (List.getElem?_eq_some_iff.1 hq).1)]
        exact ih hr hk hr2 hzk (fun e => hne (by rw [e]))
      · rw [get_consI (x := q2) (by rw [List.getElem?_set_ne e]; exact hq2)]
        exact hr2
end Go.Proofs.Ytjeabkcbaielhaa.Co
end
section
namespace Go.Proofs.Ytjeabkcbaielhaa.Co
open Go.RowKit Go.Shelf
theorem leaf_shape {y : Con} {d : Nat} (h : shape y d = true) (hk : y.a.k = 0) : d ≤ 8 ∧ 0 < d ∧ 1 ≤ y.a.w ∧ y.a.w ≤ 1048576 ∧ 1 ≤ y.a.c ∧ 0 ≤ y.a.s := by
  obtain ⟨a, ks⟩ := y
  simp only [shape, Bool.and_eq_true] at h
  have h1 := h.1
  simp only [Tr.a_mk] at hk ⊢
  unfold soundB at h1
  split at h1
  · cases h1
  · simp [hk] at h1
    rename_i h2
    simp only [Tr.a_mk] at h2
    omega
theorem shape_leafI {w c s : Int} {d : Nat} (h1 : d ≤ 8) (h2 : 0 < d) (h3 : 1 ≤ w) (h4 : w ≤ 1048576) (h5 : 1 ≤ c) (h6 : 0 ≤ s) : shape (.mk ⟨0, w, c, s⟩ []) d = true := by
  simp only [shape, shapeL, Bool.and_true]
  unfold soundB
  rw [if_neg (by simp only [Tr.a_mk]; omega)]
  simp; omega
theorem IsWay.leaf {x : Con} {c : Int} {u : List Nat} (h : treeB x = true) (hu : IsWay x c u) : ∃ y, get x u = some y ∧ y.a.k = 0 ∧ y.a.c = c ∧ y.ks = [] ∧ u ≠ [] ∧ shape y u.length = true := by
  obtain ⟨v, j, p, y, rfl, _, _, h1, h2, h3⟩ := hu
  have hs := shape_get (tree_parts h).1 h3
  rw [Nat.zero_add] at hs
  exact ⟨y, h3, h1, h2, shape_leaf hs h1, by simp, hs⟩
theorem isWay_of {x : Con} {c : Int} {u : List Nat} {y : Con} (hg : get x u = some y) (hk : y.a.k = 0) (hc : y.a.c = c) (hu : u ≠ []) : IsWay x c u := by
  rcases List.eq_nil_or_concat u with rfl | ⟨v, j, rfl⟩
  · exact absurd rfl hu
  · rw [List.concat_eq_append] at hg ⊢
    obtain ⟨p, h4, h5⟩ := get_prefix hg
    obtain ⟨a, ks⟩ := p
    obtain ⟨z, hz, hz2⟩ := get_consP h5
    simp only [get] at hz2
    have hz2 := Option.some.inj hz2
    subst hz2
    exact ⟨v, j, _, z, rfl, h4, hz, hk, hc, hg⟩
theorem clients_leaf {y : Con} (hk : y.a.k = 0) : clients y = [y.a.c] := by
  obtain ⟨a, ks⟩ := y
  simp only [Tr.a_mk] at hk
  simp [clients, all, hk, cl]
end Go.Proofs.Ytjeabkcbaielhaa.Co
end
section
namespace Go.Proofs.Ytjeabkcbaielhaa.Co
open Go.RowKit Go.Shelf Go.Maps
end Go.Proofs.Ytjeabkcbaielhaa.Co
end
section
namespace Go.Proofs.Ytjeabkcbaielhaa.Co
open Go.RowKit Go.Shelf Go.Maps
end Go.Proofs.Ytjeabkcbaielhaa.Co
end
section
namespace Go.Proofs.Ytjeabkcbaielhaa.Co
open Go.RowKit Go.Shelf Go.Maps
end Go.Proofs.Ytjeabkcbaielhaa.Co
end
section
namespace Go.Proofs.Ytjeabkcbaielhaa.Co
open Go.RowKit Go.Shelf Go.Maps
end Go.Proofs.Ytjeabkcbaielhaa.Co
end
