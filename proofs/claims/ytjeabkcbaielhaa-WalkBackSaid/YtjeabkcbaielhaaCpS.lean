/- Plain: a client's way in a tree, what is found of it, and that the document's removal is the code's. -/
import Derived.Test.YtjeabkcbaielhaaCpR
import Derived.Test.YtjeabkcbaielhaaCpI
import Derived.Test.YtjeabkcbaielhaaCpF
namespace Go.Proofs.Ytjeabkcbaielhaa.Co
open Go.RowKit Go.Shelf
/-- Of a container that may be, a leaf has no kids. -/
theorem shape_leaf {x : Con} {d : Nat} (h : shape x d = true) (hk : x.a.k = 0) : x.ks = [] := by
  obtain ⟨a, ks⟩ := x
  simp only [shape, Bool.and_eq_true] at h
  have h1 := h.1
  simp only [Tr.a_mk] at hk
  unfold soundB at h1
  split at h1
  · cases h1
  · simp [hk] at h1; exact h1.2.2.2
theorem shape_kid {a : D} {ks : List Con} {d : Nat} (h : shape (.mk a ks) d = true) {x : Con} (hx : x ∈ ks) : shape x (d + 1) = true := by
  simp only [shape, Bool.and_eq_true] at h
  exact shapeL_mem h.2 x hx
theorem get_consP {α : Type} {a : α} {ks : List (Tr α)} {i : Nat} {r : List Nat} {s : Tr α} (h : get (.mk a ks) (i :: r) = some s) : ∃ x, ks[i]? = some x ∧ get x r = some s := by
  simp only [get] at h
  cases hx : ks[i]? with
  | none => rw [hx] at h; cases h
  | some x => rw [hx] at h; exact ⟨x, rfl, h⟩
theorem get_consI {α : Type} {a : α} {ks : List (Tr α)} {i : Nat} {r : List Nat} {x : Tr α} (hx : ks[i]? = some x) : get (.mk a ks) (i :: r) = get x r := by
  simp only [get, hx]
theorem shape_get : ∀ {u : List Nat} {x y : Con} {d : Nat}, shape x d = true → get x u = some y → shape y (d + u.length) = true := by
  intro u
  induction u with
  | nil => intro x y d h hy; simp only [get] at hy; have hy := Option.some.inj hy; subst hy; exact h
  | cons i r ih =>
    intro x y d h hy
    obtain ⟨a, ks⟩ := x
    obtain ⟨z, hz, hr⟩ := get_consP hy
    have := ih (shape_kid h (List.mem_of_getElem? hz)) hr
    rwa [show d + 1 + r.length = d + (i :: r).length by simp; omega] at this
theorem all_kid {a : D} {ks : List Con} (hk : a.k ≠ 0) : all (.mk a ks) = ks.flatMap all := by simp only [all]; rw [if_neg hk, allL_eq]
theorem get_all : ∀ {u : List Nat} {x y : Con} {d : Nat}, shape x d = true → get x u = some y → y.a.k = 0 → y ∈ all x := by
  intro u
  induction u with
  | nil =>
    intro x y d _ hy hk
    simp only [get] at hy; have hy := Option.some.inj hy; subst hy
    obtain ⟨a, ks⟩ := x
    simp only [Tr.a_mk] at hk
    simp only [all]; rw [if_pos hk]; exact List.mem_singleton_self _
  | cons i r ih =>
    intro x y d h hy hk
    obtain ⟨a, ks⟩ := x
    obtain ⟨z, hz, hr⟩ := get_consP hy
    have hk0 : a.k ≠ 0 := fun e => by have := shape_leaf h e; simp only [Tr.ks_mk] at this; rw [this] at hz; cases hz
    rw [all_kid hk0, List.mem_flatMap]
    exact ⟨z, List.mem_of_getElem? hz, ih (shape_kid h (List.mem_of_getElem? hz)) hr hk⟩
theorem all_get : ∀ (x y : Con), y ∈ all x → ∃ u, get x u = some y ∧ y.a.k = 0 := by
  intro x
  induction x using Tr.ind with
  | h a ks ih =>
    intro y hy
    by_cases hk : a.k = 0
    · simp only [all] at hy; rw [if_pos hk, List.mem_singleton] at hy
      subst hy; exact ⟨[], rfl, hk⟩
    · rw [all_kid hk, List.mem_flatMap] at hy
      obtain ⟨z, hz, hy⟩ := hy
      obtain ⟨u, h1, h2⟩ := ih z hz y hy
      obtain ⟨i, hi⟩ := List.getElem?_of_mem hz
      exact ⟨i :: u, by rw [get_consI hi]; exact h1, h2⟩
theorem nodup_kids {l : List Con} {i j : Nat} {x z : Con} {c : Int} (hn : ((l.flatMap all).map cl).Nodup) (hx : l[i]? = some x) (hz : l[j]? = some z) (hc : c ∈ clients x) (hd : c ∈ clients z) : i = j := by
  have key : ∀ (i j : Nat) (x z : Con), l[i]? = some x → l[j]? = some z → c ∈ clients x → c ∈ clients z → i < j → False := by
    intro i j x z hx hz hc hd hij
    have e : l = l.take j ++ l.drop j := (List.take_append_drop j l).symm
    rw [e, List.flatMap_append, List.map_append, List.nodup_append] at hn
    refine hn.2.2 c ?_ c ?_ rfl
    · rw [List.mem_map]; unfold clients at hc; rw [List.mem_map] at hc
      obtain ⟨q, h1, h2⟩ := hc
      exact ⟨q, List.mem_flatMap.2 ⟨x, List.mem_of_getElem? (i := i) (by rw [List.getElem?_take_of_lt hij]; exact hx), h1⟩, h2⟩
    · rw [List.mem_map]; unfold clients at hd; rw [List.mem_map] at hd
      obtain ⟨q, h1, h2⟩ := hd
      exact ⟨q, List.mem_flatMap.2 ⟨z, List.mem_of_getElem? (i := 0) (by rw [List.getElem?_drop]; simpa using hz), h1⟩, h2⟩
  rcases Nat.lt_trichotomy i j with h | h | h
  · exact (key i j x z hx hz hc hd h).elim
  · exact h
  · exact (key j i z x hz hx hd hc h).elim
theorem nodup_kid' {a : D} {ks : List Con} {x : Con} (hk : a.k ≠ 0) (hn : (clients (.mk a ks)).Nodup) (hx : x ∈ ks) : (clients x).Nodup := by
  unfold clients at hn ⊢
  rw [all_kid hk] at hn
  refine hn.sublist (List.Sublist.map _ ?_)
  obtain ⟨l1, l2, rfl⟩ := List.append_of_mem hx
  rw [List.flatMap_append, List.flatMap_cons]
  exact (List.sublist_append_left _ _).trans (List.sublist_append_right _ _)
/-- A client has one leaf. -/
theorem way_unique : ∀ {u v : List Nat} {x y z : Con} {d : Nat}, shape x d = true → (clients x).Nodup → get x u = some y → get x v = some z → y.a.k = 0 → z.a.k = 0 → y.a.c = z.a.c → u = v := by
  intro u
  induction u with
  | nil =>
    intro v x y z d h _ hy hz hk _ _
    simp only [get] at hy; have hy := Option.some.inj hy; subst hy
    cases v with
    | nil => rfl
    | cons j s =>
      obtain ⟨a, ks⟩ := x
      have := shape_leaf h hk
      obtain ⟨q, hq, _⟩ := get_consP hz
      simp only [Tr.ks_mk] at this; rw [this] at hq; cases hq
  | cons i r ih =>
    intro v x y z d h hn hy hz hk hk2 hc
    obtain ⟨a, ks⟩ := x
    obtain ⟨p, hp, hr⟩ := get_consP hy
    have hk0 : a.k ≠ 0 := fun e => by have := shape_leaf h e; simp only [Tr.ks_mk] at this; rw [this] at hp; cases hp
    cases v with
    | nil => simp only [get] at hz; have hz := Option.some.inj hz; subst hz; exact absurd hk2 hk0
    | cons j s =>
      obtain ⟨q, hq, hs⟩ := get_consP hz
      have h1 := shape_kid h (List.mem_of_getElem? hp)
      have h2 := shape_kid h (List.mem_of_getElem? hq)
      have hij : i = j := by
        have hn' := hn
        unfold clients at hn'; rw [all_kid hk0] at hn'
        refine nodup_kids (c := y.a.c) hn' hp hq (List.mem_map.2 ⟨y, get_all h1 hr hk, rfl⟩) (List.mem_map.2 ⟨z, get_all h2 hs hk2, hc.symm⟩)
      subst hij
      rw [hp] at hq; have hq := Option.some.inj hq; subst hq
      rw [ih h1 (nodup_kid' hk0 hn (List.mem_of_getElem? hp)) hr hs hk hk2 hc]
theorem tree_parts {x : Con} (h : treeB x = true) : shape x 0 = true ∧ (clients x).Nodup ∧ (all x).length ≤ 128 := by
  unfold treeB at h
  simp only [Bool.and_eq_true, decide_eq_true_eq] at h
  exact ⟨h.1.1, h.1.2, h.2⟩
/-- The leaves that a run meets are the clients. -/
theorem pre_clients : ∀ (x : Con) (w : List Nat) (d : Nat), shape x d = true → ((pre x w).filter fun t => t.1.a.k == 0).map (fun t => t.1.a.c) = clients x := by
  intro x
  induction x using Tr.ind with
  | h a ks ih =>
    intro w d h
    have hL : ∀ (l : List Con) (i : Nat), (∀ y ∈ l, y ∈ ks) → ((preL l w i).filter fun t => t.1.a.k == 0).map (fun t => t.1.a.c) = (l.flatMap all).map cl := by
      intro l
      induction l with
      | nil => intro i _; rfl
      | cons y r ihr =>
        intro i hm
        have h1 := ih y (hm y (by simp)) (w ++ [i]) (d + 1) (shape_kid h (hm y (by simp)))
        have h2 := ihr (i + 1) (fun z hz => hm z (by simp [hz]))
        simp only [preL, List.filter_append, List.map_append, List.flatMap_cons, h1, h2]
        rfl
    by_cases hk : a.k = 0
    · have := shape_leaf h hk
      simp only [Tr.ks_mk] at this
      subst this
      simp [pre, preL, hk, clients, all, cl]
    · have e : (a.k == 0) = false := by simpa using hk
      simp only [pre, List.filter_cons, Tr.a_mk, e, Bool.false_eq_true, if_false]
      rw [hL ks 0 (fun _ h => h)]
      unfold clients
      rw [all_kid hk]
/-- How many ways are missing. -/
def gaps (l : List (Option (List Nat))) : Nat := l.countP Option.isNone
theorem gaps_set {l : List (Option (List Nat))} {i : Nat} {u : List Nat} (h : l[i]? = some none) : gaps (l.set i (some u)) + 1 = gaps l := by
  induction l generalizing i with
  | nil => simp at h
  | cons x r ih =>
    cases i with
    | zero => simp at h; subst h; simp [gaps]
    | succ i =>
      have := ih (i := i) (by simpa using h)
      unfold gaps at this ⊢
      simp only [List.set_cons_succ, List.countP_cons]; omega
theorem gaps_pos {l : List (Option (List Nat))} {i : Nat} (h : l[i]? = some none) : 0 < gaps l := by
  unfold gaps
  rw [List.countP_pos_iff]
  exact ⟨none, List.mem_of_getElem? h, rfl⟩
theorem gaps_le (l : List (Option (List Nat))) : gaps l ≤ l.length := List.countP_le_length
/-- A leaf held against the clients, whose ways are missing. -/
theorem hitN_spec {cs : List Int} {c : Int} {way : List Nat} {s : Ways} (hl : s.1.length = cs.length) (hg : s.2 = (gaps s.1 : Int)) (h8 : cs.length ≤ 8) (hm : ∀ i : Nat, cs[i]? = some c → s.1[i]? = some none) : ∀ n : Nat, n ≤ cs.length →
    (hitN cs c way n s).1.length = cs.length ∧ (hitN cs c way n s).2 = (gaps (hitN cs c way n s).1 : Int) ∧ ∀ i : Nat, (hitN cs c way n s).1[i]? = if i < n ∧ cs[i]? = some c then some (some way) else s.1[i]? := by
  intro n
  induction n with
  | zero => intro _; exact ⟨hl, hg, fun i => by rw [if_neg (by omega)]; rfl⟩
  | succ n ih =>
    intro hn
    obtain ⟨h1, h2, h3⟩ := ih (by omega)
    simp only [hitN]
    by_cases hc : cs[n]? = some c
    · rw [if_pos hc]
      have hz : (hitN cs c way n s).1[n]? = some none := by rw [h3, if_neg (by omega)]; exact hm n hc
      have hgs := gaps_set (u := way) hz
      have hp := gaps_pos hz
      have hle := gaps_le (hitN cs c way n s).1
      refine ⟨by rw [List.length_set]; exact h1, ?_, fun i => ?_⟩
      · show wrap64 _ = ((gaps ((hitN cs c way n s).1.set n (some way)) : Nat) : Int)
        rw [h2]; unfold wrap64; omega
      · rw [List.getElem?_set]
        by_cases e : n = i
        · subst e; rw [if_pos rfl, if_pos (by rw [h1]; omega), if_pos ⟨by omega, hc⟩]
        · rw [if_neg e, h3]
          by_cases hi : i < n ∧ cs[i]? = some c
          · rw [if_pos hi, if_pos ⟨by omega, hi.2⟩]
          · rw [if_neg hi, if_neg (fun h => hi ⟨by omega, h.2⟩)]
    · rw [if_neg hc]
      refine ⟨h1, h2, fun i => ?_⟩
      rw [h3]
      by_cases hi : i < n ∧ cs[i]? = some c
      · rw [if_pos hi, if_pos ⟨by omega, hi.2⟩]
      · rw [if_neg hi, if_neg]
        rintro ⟨h4, h5⟩
        by_cases e : i = n
        · subst e; exact hc h5
        · exact hi ⟨by omega, h5⟩
/-- What is missing at the end had no leaf. -/
theorem run_miss {cs : List Int} (h8 : cs.length ≤ 8) : ∀ (l : List (Con × List Nat)) (s : Ways), s.1.length = cs.length → s.2 = (gaps s.1 : Int) → ((l.filter fun t => t.1.a.k == 0).map (fun t => t.1.a.c)).Nodup →
    (∀ t ∈ l, t.1.a.k = 0 → ∀ i : Nat, cs[i]? = some t.1.a.c → s.1[i]? = some none) →
    ∀ (i : Nat) (c : Int), cs[i]? = some c → (run (fnd cs) s l).1.1[i]? = some none → ∀ t ∈ l, t.1.a.k = 0 → t.1.a.c ≠ c := by
  intro l
  induction l with
  | nil => intro s _ _ _ _ i c _ _ t ht; cases ht
  | cons y r ih =>
    obtain ⟨x, v⟩ := y
    intro s hl hg hn hm i c hc hr t ht hk
    simp only [run] at hr
    by_cases hx : x.a.k = 0
    · have e : fnd cs s x v = (hitN cs x.a.c v cs.length s, decide ((hitN cs x.a.c v cs.length s).2 = 0)) := by unfold fnd; rw [if_neg (by simpa using hx)]
      obtain ⟨h1, h2, h3⟩ := hitN_spec (c := x.a.c) (way := v) hl hg h8 (hm (x, v) (by simp) hx) cs.length (Nat.le_refl _)
      rw [e] at hr
      have hxe : (x.a.k == 0) = true := by simpa using hx
      rw [List.filter_cons, if_pos (by exact hxe), List.map_cons, List.nodup_cons] at hn
      have hnx : ∀ t ∈ r, t.1.a.k = 0 → t.1.a.c ≠ x.a.c := fun t ht hk e => hn.1 (List.mem_map.2 ⟨t, List.mem_filter.2 ⟨ht, by simpa using hk⟩, e⟩)
      split at hr
      · next hz =>
        have hz := of_decide_eq_true hz
        rw [h2] at hz
        have := gaps_pos hr
        simp only at this
        omega
      · have hrest := ih _ h1 h2 hn.2 (fun t ht hk i hi => by
          rw [h3, if_neg]
          · exact hm t (by simp [ht]) hk i hi
          · rintro ⟨_, h5⟩
            rw [hi] at h5
            exact hnx t ht hk (Option.some.inj h5)) i c hc hr
        rcases List.mem_cons.1 ht with e | ht
        · subst e
          intro e
          simp only at e
          subst e
          have hlen := (List.getElem?_eq_some_iff.1 hc).1
          have : ∀ (l : List (Con × List Nat)) (s : Ways), s.1[i]? = some (some v) → (∀ t ∈ l, t.1.a.k = 0 → t.1.a.c ≠ x.a.c) → (run (fnd cs) s l).1.1[i]? = some (some v) := by
            intro l
            induction l with
            | nil => intro s hs _; exact hs
            | cons y q ihq =>
              obtain ⟨x2, v2⟩ := y
              intro s hs hq
              have hst : (fnd cs s x2 v2).1.1[i]? = some (some v) := by
                unfold fnd
                split
                · exact hs
                · next hk2 =>
                  have hne := hq (x2, v2) (by simp) (by simpa using hk2)
                  simp only at hne
                  have : ∀ n, (hitN cs x2.a.c v2 n s).1[i]? = some (some v) := by
                    intro n
                    induction n with
                    | zero => exact hs
                    | succ n ihn =>
                      simp only [hitN]
                      split
                      · next hcn =>
                        simp only [List.getElem?_set]
                        rw [if_neg]
                        · exact ihn
                        · rintro rfl
                          rw [hc] at hcn
                          exact hne (Option.some.inj hcn).symm
                      · exact ihn
                  exact this _
              simp only [run]
              split
              · exact hst
              · exact ihq _ hst fun t ht => hq t (by simp [ht])
          rw [this r _ (by rw [h3, if_pos ⟨hlen, hc⟩]) hnx] at hr
          cases hr
        · exact hrest t ht hk
    · have e : fnd cs s x v = (s, false) := by unfold fnd; rw [if_pos (by simpa using hx)]
      rw [e] at hr
      simp only [Bool.false_eq_true, if_false] at hr
      have hxe : ¬ ((x.a.k == 0) = true) := by simpa using hx
      rw [List.filter_cons, if_neg (by exact hxe)] at hn
      rcases List.mem_cons.1 ht with e2 | ht
      · subst e2; exact absurd hk hx
      · exact ih s hl hg hn (fun t ht => hm t (by simp [ht])) i c hc hr t ht hk
theorem hasB_iff {x : Con} {c : Int} : hasB x c = true ↔ c ∈ clients x := by
  unfold hasB clients
  rw [List.any_eq_true, List.mem_map]
  constructor
  · rintro ⟨y, h1, h2⟩; exact ⟨y, h1, by simpa [cl] using h2⟩
  · rintro ⟨y, h1, h2⟩; exact ⟨y, h1, by simpa [cl] using h2⟩
/-- Of a tree, a way is missing just where the client has no leaf. -/
theorem ways_none {x : Con} (h : treeB x = true) {cs : List Int} (h8 : cs.length ≤ 8) {i : Nat} {c : Int} (hc : cs[i]? = some c) (hr : (waysOf x cs)[i]? = some none) : hasB x c = false := by
  obtain ⟨h1, h2, _⟩ := tree_parts h
  have hm := run_miss h8 (pre x []) (List.replicate cs.length none, (cs.length : Int)) (by simp) (by simp [gaps, List.countP_replicate]) (by rw [pre_clients x [] 0 h1]; exact h2)
    (fun t _ _ i hi => by have := (List.getElem?_eq_some_iff.1 hi).1; simp [this]) i c hc hr
  rw [← Bool.not_eq_true, hasB_iff, ← pre_clients x [] 0 h1, List.mem_map]
  rintro ⟨t, ht, e⟩
  rw [List.mem_filter] at ht
  exact hm t ht.1 (by simpa using ht.2) e
/-- The way to a client's leaf, in a tree. -/
def IsWay (x : Con) (c : Int) (u : List Nat) : Prop := ∃ v j p y, u = v ++ [j] ∧ get x v = some p ∧ p.ks[j]? = some y ∧ y.a.k = 0 ∧ y.a.c = c ∧ get x u = some y
theorem IsWay.has {x : Con} {c : Int} {u : List Nat} (h : treeB x = true) (hu : IsWay x c u) : hasB x c = true := by
  obtain ⟨v, j, p, y, _, _, _, h1, h2, h3⟩ := hu
  exact hasB_iff.2 (List.mem_map.2 ⟨y, get_all (tree_parts h).1 h3 h1, h2⟩)
theorem IsWay.unique {x : Con} {c : Int} {u v : List Nat} (h : treeB x = true) (hu : IsWay x c u) (hv : IsWay x c v) : u = v := by
  obtain ⟨_, _, _, y, _, _, _, h1, h2, h3⟩ := hu
  obtain ⟨_, _, _, z, _, _, _, h4, h5, h6⟩ := hv
  exact way_unique (tree_parts h).1 (tree_parts h).2.1 h3 h6 h1 h4 (h2.trans h5.symm)
/-- What is found of a client: none, or its way. -/
theorem ways_spec {x : Con} (h : treeB x = true) {cs : List Int} (h8 : cs.length ≤ 8) {i : Nat} {c : Int} (hc : cs[i]? = some c) :
    (hasB x c = false ∧ (waysOf x cs)[i]? = some none) ∨ (hasB x c = true ∧ ∃ u, IsWay x c u ∧ (waysOf x cs)[i]? = some (some u)) := by
  obtain ⟨o, ho⟩ : ∃ o, (waysOf x cs)[i]? = some o := ⟨_, List.getElem?_eq_getElem (by rw [waysOf_len]; exact (List.getElem?_eq_some_iff.1 hc).1)⟩
  cases o with
  | none => exact .inl ⟨ways_none h h8 hc ho, ho⟩
  | some u =>
    have hw : IsWay x c u := waysOf_get h ho hc
    exact .inr ⟨hw.has h, u, hw, ho⟩
theorem findI_spec {x : Con} {c : Int} (h : treeB x = true) : (hasB x c = false ∧ findI x c = none) ∨ (hasB x c = true ∧ ∃ u, IsWay x c u ∧ findI x c = some u) := by
  unfold findI
  rw [if_pos h]
  rcases ways_spec h (cs := [c]) (i := 0) (by simp) rfl with ⟨h1, h2⟩ | ⟨h1, u, h2, h3⟩
  · exact .inl ⟨h1, by rw [h2]; rfl⟩
  · exact .inr ⟨h1, u, h2, by rw [h3]; rfl⟩
theorem findI_of {x : Con} {c : Int} {u : List Nat} (h : treeB x = true) (hu : IsWay x c u) : findI x c = some u := by
  rcases findI_spec (c := c) h with ⟨h1, _⟩ | ⟨_, v, h2, h3⟩
  · rw [hu.has h] at h1; cases h1
  · rw [h3, hu.unique h h2]
theorem chgI_none {x : Con} {c : Int} {F : Con → List Nat → Con × Int} (h : treeB x = true) (hc : hasB x c = false) : chgI x c F = (zeroT, 6) := by
  unfold chgI
  rw [if_neg (by rw [h]; simp)]
  rcases ways_spec h (cs := [c]) (i := 0) (by simp) rfl with ⟨_, h2⟩ | ⟨h1, _⟩
  · rw [h2]
  · rw [hc] at h1; cases h1
theorem chgI_some {x : Con} {c : Int} {F : Con → List Nat → Con × Int} {u : List Nat} (h : treeB x = true) (hu : IsWay x c u) : chgI x c F = F x u := by
  unfold chgI
  rw [if_neg (by rw [h]; simp)]
  rcases ways_spec h (cs := [c]) (i := 0) (by simp) rfl with ⟨h1, _⟩ | ⟨_, v, h2, h3⟩
  · rw [hu.has h] at h1; cases h1
  · rw [h3, hu.unique h h2]
theorem put_consI {α : Type} {a : α} {ks : List (Tr α)} {i : Nat} {r : List Nat} {x y : Tr α} (hx : ks[i]? = some x) : put (.mk a ks) (i :: r) y = .mk a (ks.set i (put x r y)) := by
  simp only [put, hx]
/-- A split's kids behind a removal: gone, or one that takes its place. -/
def packT (a : D) (l : List Con) : Option Con :=
  if l.length = 0 then none else if l.length = 1 then (l[0]?).map fun z => .mk { z.a with w := a.w } z.ks else some (.mk a l)
mutual
/-- The document's less: a container without a client, tidied. -/
def lessT (c : Int) : Con → Option Con
  | .mk a ks => if a.k = 0 then (if a.c = c then none else some (.mk a ks)) else if hasB (.mk a ks) c = false then some (.mk a ks) else packT a (lessL c ks)
def lessL (c : Int) : List Con → List Con
  | [] => []
  | x :: r => (lessT c x).toList ++ lessL c r
end
theorem lessL_append (c : Int) (a b : List Con) : lessL c (a ++ b) = lessL c a ++ lessL c b := by
  induction a with
  | nil => rfl
  | cons x r ih => simp only [List.cons_append, lessL, ih, List.append_assoc]
theorem lessL_snoc {c : Int} {ks : List Con} {i : Nat} {x : Con} (h : ks[i]? = some x) : lessL c (ks.take (i + 1)) = lessL c (ks.take i) ++ (lessT c x).toList := by
  obtain ⟨hl, rfl⟩ := List.getElem?_eq_some_iff.1 h
  rw [List.take_succ_eq_append_getElem hl, lessL_append]
  simp [lessL]
theorem lessL_len (c : Int) (ks : List Con) : (lessL c ks).length ≤ ks.length := by
  induction ks with
  | nil => simp [lessL]
  | cons x r ih =>
    simp only [lessL, List.length_append, List.length_cons]
    have : (lessT c x).toList.length ≤ 1 := by cases lessT c x <;> simp
    omega
theorem lessT_same {c : Int} {x : Con} (h : hasB x c = false) : lessT c x = some x := by
  obtain ⟨a, ks⟩ := x
  simp only [lessT]
  by_cases hk : a.k = 0
  · rw [if_pos hk, if_neg]
    intro e
    unfold hasB at h
    simp [all, hk, e] at h
  · rw [if_neg hk, if_pos h]
theorem lessL_same {c : Int} {ks : List Con} (h : ∀ x ∈ ks, hasB x c = false) : lessL c ks = ks := by
  induction ks with
  | nil => rfl
  | cons x r ih =>
    simp only [lessL, lessT_same (h x (by simp)), ih fun y hy => h y (by simp [hy])]
    rfl
/-- The rest of a tree, as the code comes to it. -/
def remT : List Nat → Con → Con
  | [], x => x
  | i :: r, .mk a ks => if r = [] then .mk a (ks.eraseIdx i) else match ks[i]? with
    | some y => tidyK (.mk a (ks.set i (remT r y))) [] i
    | none => .mk a ks
theorem delK_cons {a : D} {ks : List Con} {i : Nat} {v : List Nat} {y p : Con} {k : Nat} (hy : ks[i]? = some y) (hp : get y v = some p) : delK (.mk a ks) (i :: v) k = .mk a (ks.set i (delK y v k)) := by
  unfold delK
  rw [get_consI hy, hp]
  simp only
  rw [put_consI hy]
theorem set_self {α : Type} {l : List α} {i : Nat} {x : α} (h : l[i]? = some x) : l.set i x = l := by
  obtain ⟨hl, rfl⟩ := List.getElem?_eq_some_iff.1 h
  simp
theorem tidyK_cons {a : D} {ks : List Con} {i : Nat} {v : List Nat} {y : Con} {k : Nat} (hy : ks[i]? = some y) : tidyK (.mk a ks) (i :: v) k = .mk a (ks.set i (tidyK y v k)) := by
  have hs := set_self hy
  unfold tidyK
  rw [List.cons_append, get_consI hy]
  cases hg : get y (v ++ [k]) with
  | none => simp only; rw [hs]
  | some q =>
    obtain ⟨p, hp, _⟩ := get_prefix hg
    simp only
    split
    · exact delK_cons hy hp
    · split
      · split
        · rw [put_consI hy]
        · rw [hs]
      · rw [hs]
theorem tds_cons {a : D} {ks : List Con} {i : Nat} {r : List Nat} {y : Con} (hy : ks[i]? = some y) : ∀ m, m + 1 ≤ r.length → tds (i :: r) m (.mk a ks) = .mk a (ks.set i (tds r m y)) := by
  intro m
  induction m with
  | zero => intro _; simp only [tds]; rw [set_self hy]
  | succ m ih =>
    intro hm
    simp only [tds]
    rw [ih (by omega)]
    have hl := (List.getElem?_eq_some_iff.1 hy).1
    obtain ⟨d, hd⟩ : ∃ d, r.length - 1 - m - 1 = d := ⟨_, rfl⟩
    have e : (i :: r).length - 1 - m - 1 = d + 1 := by simp only [List.length_cons]; omega
    rw [e, hd]
    simp only [List.take_succ_cons, List.getElem?_cons_succ]
    rw [tidyK_cons (y := tds r m y) (by rw [List.getElem?_set_self hl])]
    rw [List.set_set]
theorem removeF_cons : ∀ (u : List Nat) (x p : Con) (j : Nat), get x u = some p → removeF x (u ++ [j]) = (remT (u ++ [j]) x, 0) := by
  intro u
  induction u with
  | nil =>
    intro x p j hp
    obtain ⟨a, ks⟩ := x
    simp [removeF, tds, delK, get, put, remT]
  | cons i r ih =>
    intro x p j hp
    obtain ⟨a, ks⟩ := x
    obtain ⟨y, hy, hr⟩ := get_consP hp
    have h := ih y p j hr
    have hl := (List.getElem?_eq_some_iff.1 hy).1
    unfold removeF at h ⊢
    have h1 := congrArg Prod.fst h
    simp only at h1
    have e1 : (r ++ [j]).dropLast = r := by simp
    have e2 : (i :: r ++ [j]).dropLast = i :: r := by rw [List.cons_append, List.dropLast_cons_of_ne_nil (by simp), e1]
    have e3 : (r ++ [j]).length - 1 = r.length := by simp
    have e4 : (i :: r ++ [j]).length - 1 = r.length + 1 := by simp
    have e5 : (r ++ [j])[r.length]? = some j := by simp
    have e6 : (i :: r ++ [j])[r.length + 1]? = some j := by simp
    rw [e1, e3, e5] at h1
    rw [e2, e4, e6]
    simp only [Option.getD_some] at h1 ⊢
    rw [delK_cons hy hr]
    simp only [tds]
    rw [List.cons_append, tds_cons (y := delK y r j) (by rw [List.getElem?_set_self hl]) _ (by simp), h1, List.set_set]
    have e7 : (i :: (r ++ [j])).length - 1 - r.length - 1 = 0 := by simp
    rw [e7]
    simp only [List.take_zero, List.getElem?_cons_zero, Option.getD_some, remT]
    rw [if_neg (by simp), hy]
theorem lessL_one {c : Int} {ks : List Con} {i : Nat} {y : Con} (hy : ks[i]? = some y) (ho : ∀ k z, ks[k]? = some z → k ≠ i → hasB z c = false) : lessL c ks = ks.take i ++ (lessT c y).toList ++ ks.drop (i + 1) := by
  obtain ⟨hl, rfl⟩ := List.getElem?_eq_some_iff.1 hy
  have e : ks = ks.take i ++ (ks[i] :: ks.drop (i + 1)) := by rw [← List.drop_eq_getElem_cons hl, List.take_append_drop]
  conv => lhs; rw [e]
  rw [lessL_append]
  simp only [lessL]
  rw [lessL_same (ks := ks.take i), lessL_same (ks := ks.drop (i + 1)), List.append_assoc]
  · intro x hx
    obtain ⟨k, hk⟩ := List.getElem?_of_mem hx
    rw [List.getElem?_drop] at hk
    exact ho _ x hk (by omega)
  · intro x hx
    obtain ⟨k, hk⟩ := List.getElem?_of_mem hx
    rw [List.getElem?_take] at hk
    split at hk
    · exact ho k x hk (by omega)
    · cases hk
theorem others_not {a : D} {ks : List Con} {c : Int} {i : Nat} {y : Con} (hk : a.k ≠ 0) (hn : (clients (.mk a ks)).Nodup) (hy : ks[i]? = some y) (hc : hasB y c = true) : ∀ (k : Nat) (z : Con), ks[k]? = some z → k ≠ i → hasB z c = false := fun k z hz hne => by
  rw [← Bool.not_eq_true]
  intro h
  unfold clients at hn
  rw [all_kid hk] at hn
  exact hne (nodup_kids (c := c) hn hz hy (hasB_iff.1 h) (hasB_iff.1 hc))
theorem tidyK_at {a : D} {ks : List Con} {i : Nat} {y : Con} (hy : ks[i]? = some y) : tidyK (.mk a ks) [] i = if y.ks.length = 0 then .mk a (ks.eraseIdx i) else if y.ks.length = 1 then (match y.ks[0]? with
    | some z => .mk a (ks.set i (.mk { z.a with w := y.a.w } z.ks))
    | none => .mk a ks) else .mk a ks := by
  have hg : get (.mk a ks) [i] = some y := by rw [get_consI hy]; rfl
  unfold tidyK
  rw [List.nil_append, hg]
  simp only
  split
  · simp only [delK, get, put, Tr.a_mk, Tr.ks_mk]
  · split
    · cases hq : y.ks[0]? with
      | none => rfl
      | some z => simp only; rw [put_consI hy]; simp only [put]
    · rfl
/-- The document's Remove is the code's. -/
theorem remT_less : ∀ (u : List Nat) (x y : Con) (c : Int) (d : Nat), shape x d = true → (clients x).Nodup → u ≠ [] → get x u = some y → y.a.k = 0 → y.a.c = c → remT u x = .mk x.a (lessL c x.ks) := by
  intro u
  induction u with
  | nil => intro x y c d _ _ h; exact absurd rfl h
  | cons i r ih =>
    intro x y c d h hn _ hy hk hc
    obtain ⟨a, ks⟩ := x
    obtain ⟨z, hz, hr⟩ := get_consP hy
    have hl := (List.getElem?_eq_some_iff.1 hz).1
    have hk0 : a.k ≠ 0 := fun e => by have := shape_leaf h e; simp only [Tr.ks_mk] at this; rw [this] at hz; cases hz
    have hsz := shape_kid h (List.mem_of_getElem? hz)
    have hcz : hasB z c = true := hasB_iff.2 (List.mem_map.2 ⟨y, get_all hsz hr hk, hc⟩)
    have ho := others_not hk0 hn hz hcz
    simp only [Tr.a_mk, Tr.ks_mk, remT]
    rw [lessL_one hz ho]
    by_cases hr0 : r = []
    · subst hr0
      simp only [get] at hr
      have hr := Option.some.inj hr
      subst hr
      have e : lessT c z = none := by
        obtain ⟨b, l⟩ := z
        simp only [Tr.a_mk] at hk hc
        simp only [lessT]; rw [if_pos hk, if_pos hc]
      rw [if_pos rfl, e, List.eraseIdx_eq_take_drop_succ]
      simp
    · rw [if_neg hr0, hz]
      simp only
      have hi := ih z y c (d + 1) hsz (nodup_kid' hk0 hn (List.mem_of_getElem? hz)) hr0 hr hk hc
      rw [hi]
      obtain ⟨b, l⟩ := z
      have hbk : b.k ≠ 0 := fun e => by
        have := shape_leaf hsz e
        simp only [Tr.ks_mk] at this
        subst this
        cases r with
        | nil => exact hr0 rfl
        | cons q s => obtain ⟨_, h2, _⟩ := get_consP hr; cases h2
      have e : lessT c (.mk b l) = packT b (lessL c l) := by
        simp only [lessT]; rw [if_neg hbk, if_neg (by rw [hcz]; simp)]
      rw [e]
      simp only [Tr.a_mk, Tr.ks_mk]
      rw [tidyK_at (List.getElem?_set_self hl)]
      simp only [Tr.ks_mk, Tr.a_mk]
      unfold packT
      by_cases h0 : (lessL c l).length = 0
      · simp only [h0, if_true]
        rw [List.eraseIdx_set_eq, List.eraseIdx_eq_take_drop_succ]; simp
      · simp only [h0, if_false]
        by_cases h1 : (lessL c l).length = 1
        · simp only [h1, if_true]
          obtain ⟨q, hq⟩ : ∃ q, (lessL c l)[0]? = some q := ⟨_, List.getElem?_eq_getElem (by omega)⟩
          rw [hq]
          simp only [Option.map_some, Option.toList_some, List.set_set]
          rw [List.set_eq_take_append_cons_drop, if_pos hl]
          simp
        · simp only [h1, if_false]
          rw [List.set_eq_take_append_cons_drop, if_pos hl]
          simp
/-- The document's Remove. -/
def removeD (x : Con) (c : Int) : Con × Int := if treeB x = false then (zeroT, 110) else if hasB x c = false then (zeroT, 6) else (.mk x.a (lessL c x.ks), 0)
theorem removeD_eq (x : Con) (c : Int) : chgI x c removeF = removeD x c := by
  unfold removeD
  by_cases h : treeB x = true
  · rw [if_neg (by rw [h]; simp)]
    rcases findI_spec (c := c) h with ⟨h1, _⟩ | ⟨h1, u, h2, _⟩
    · rw [chgI_none h h1, if_pos h1]
    · rw [chgI_some h h2, if_neg (by rw [h1]; simp)]
      obtain ⟨v, j, p, y, rfl, h3, _, h4, h5, h6⟩ := h2
      rw [removeF_cons v x p j h3, remT_less _ x y c 0 (tree_parts h).1 (tree_parts h).2.1 (by simp) h6 h4 h5]
  · have h : treeB x = false := by simpa using h
    unfold chgI
    rw [if_pos h, if_pos h]
end Go.Proofs.Ytjeabkcbaielhaa.Co
