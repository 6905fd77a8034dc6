/- Plain mathematics of containers: trees with a list of kids, ways, leaves, what is a tree, and what each call of layer 11 makes of one. It imports nothing of the program. -/
namespace Go.Proofs.Ytjeabkcbaielhaa.Co

inductive Tr (α : Type) where
  | mk (a : α) (ks : List (Tr α))

variable {α β σ : Type}
def Tr.a : Tr α → α | .mk a _ => a
def Tr.ks : Tr α → List (Tr α) | .mk _ ks => ks
@[simp] theorem Tr.a_mk (a : α) (ks) : (Tr.mk a ks).a = a := rfl
@[simp] theorem Tr.ks_mk (a : α) (ks) : (Tr.mk a ks).ks = ks := rfl
theorem Tr.eta (t : Tr α) : Tr.mk t.a t.ks = t := by cases t; rfl

mutual
theorem Tr.ind {P : Tr α → Prop} (h : ∀ a ks, (∀ x ∈ ks, P x) → P (.mk a ks)) : ∀ t, P t
  | .mk a ks => h a ks (Tr.indL h ks)
theorem Tr.indL {P : Tr α → Prop} (h : ∀ a ks, (∀ x ∈ ks, P x) → P (.mk a ks)) : ∀ (ks : List (Tr α)), ∀ x ∈ ks, P x
  | [], x, hx => by cases hx
  | y :: r, x, hx => by
    rcases List.mem_cons.1 hx with e | hx
    · exact e ▸ Tr.ind h y
    · exact Tr.indL h r x hx
end

/-- The container at a way's end. -/
def get : Tr α → List Nat → Option (Tr α)
  | t, [] => some t
  | .mk _ ks, i :: r => match ks[i]? with
    | some x => get x r
    | none => none
/-- A tree with another container at a way's end. -/
def put : Tr α → List Nat → Tr α → Tr α
  | _, [], x => x
  | .mk a ks, i :: r, x => match ks[i]? with
    | some y => .mk a (ks.set i (put y r x))
    | none => .mk a ks

mutual
/-- All containers with their ways, a split ahead of its kids. -/
def pre : Tr α → List Nat → List (Tr α × List Nat)
  | .mk a ks, w => (.mk a ks, w) :: preL ks w 0
def preL : List (Tr α) → List Nat → Nat → List (Tr α × List Nat)
  | [], _, _ => []
  | x :: r, w, i => pre x (w ++ [i]) ++ preL r w (i + 1)
end

/-- A step at each, till one says that it is enough. -/
def run (f : σ → Tr α → List Nat → σ × Bool) : σ → List (Tr α × List Nat) → σ × Bool
  | s, [] => (s, false)
  | s, (c, w) :: r => if (f s c w).2 = true then ((f s c w).1, true) else run f (f s c w).1 r
theorem run_append (f : σ → Tr α → List Nat → σ × Bool) (s : σ) (a b : List (Tr α × List Nat)) :
    run f s (a ++ b) = if (run f s a).2 = true then run f s a else run f (run f s a).1 b := by
  induction a generalizing s with
  | nil => simp [run]
  | cons x r ih =>
    obtain ⟨c, w⟩ := x
    simp only [List.cons_append, run]
    by_cases h : (f s c w).2 = true
    · simp [h]
    · simp [h, ih]
theorem preL_append (a b : List (Tr α)) (w : List Nat) (i : Nat) : preL (a ++ b) w i = preL a w i ++ preL b w (i + a.length) := by
  induction a generalizing i with
  | nil => simp [preL]
  | cons x r ih => simp only [List.cons_append, preL, ih, List.append_assoc, List.length_cons]; rw [show i + 1 + r.length = i + (r.length + 1) by omega]
theorem preL_take {ks : List (Tr α)} {i : Nat} {x : Tr α} (h : ks[i]? = some x) (w : List Nat) : preL (ks.take (i + 1)) w 0 = preL (ks.take i) w 0 ++ pre x (w ++ [i]) := by
  obtain ⟨hl, hx⟩ := List.getElem?_eq_some_iff.1 h
  rw [List.take_succ_eq_append_getElem hl, preL_append, hx]
  simp [preL, Nat.min_eq_left (Nat.le_of_lt hl)]
/-- What a round of kids leaves, so far. -/
theorem run_take {f : σ → Tr α → List Nat → σ × Bool} {ks : List (Tr α)} {i : Nat} {x : Tr α} (h : ks[i]? = some x) (w : List Nat) (s : σ) (hn : (run f s (preL (ks.take i) w 0)).2 = false) :
    run f s (preL (ks.take (i + 1)) w 0) = run f (run f s (preL (ks.take i) w 0)).1 (pre x (w ++ [i])) := by
  rw [preL_take h, run_append, if_neg (by simp [hn])]
theorem run_stop {f : σ → Tr α → List Nat → σ × Bool} {ks : List (Tr α)} (i : Nat) (w : List Nat) (s : σ) (hn : (run f s (preL (ks.take i) w 0)).2 = true) :
    run f s (preL ks w 0) = run f s (preL (ks.take i) w 0) := by
  conv => lhs; rw [← List.take_append_drop i ks, preL_append, run_append, if_pos hn]

/-- A container's own numbers. -/
structure D where
  k : Int
  w : Int
  c : Int
  s : Int
abbrev Con := Tr D
def leafB (t : Con) : Bool := t.a.k == 0
/-- May a container, so deep below the root, be: by itself. -/
def soundB (t : Con) (deep : Nat) : Bool :=
  if 8 < deep ∨ t.a.w < 1 ∨ 1048576 < t.a.w then false
  else if t.a.k = 0 then decide (0 < deep ∧ 1 ≤ t.a.c ∧ 0 ≤ t.a.s ∧ t.ks.length = 0)
  else decide (1 ≤ t.a.k ∧ t.a.k ≤ 4 ∧ t.a.c = 0 ∧ t.a.s = 0 ∧ t.ks.length ≤ 64 ∧ (deep = 0 ∨ 0 < t.ks.length))
mutual
/-- The leaves, as they stand. -/
def all : Con → List Con
  | .mk a ks => if a.k = 0 then [.mk a ks] else allL ks
def allL : List Con → List Con
  | [] => []
  | x :: r => all x ++ allL r
end
mutual
/-- May containers be, but for their clients. -/
def shape : Con → Nat → Bool
  | .mk a ks, deep => soundB (.mk a ks) deep && shapeL ks (deep + 1)
def shapeL : List Con → Nat → Bool
  | [], _ => true
  | x :: r, deep => shape x deep && shapeL r deep
end
def cl (t : Con) : Int := t.a.c
def clients (t : Con) : List Int := (all t).map cl
/-- A tree. -/
def treeB (t : Con) : Bool := shape t 0 && decide ((clients t).Nodup) && decide ((all t).length ≤ 128)

/-- Check's step: the clients that were met so far. -/
def chk (s : List Int) (t : Con) (w : List Nat) : List Int × Bool :=
  if soundB t w.length = false then (s, true)
  else if t.a.k ≠ 0 then (s, false)
  else if t.a.c ∈ s then (s, true)
  else (s ++ [t.a.c], decide (128 < s.length + 1))

theorem shapeL_mem {ks : List Con} {d : Nat} (h : shapeL ks d = true) : ∀ x ∈ ks, shape x d = true := by
  induction ks with
  | nil => intro x hx; cases hx
  | cons y r ih =>
    simp only [shapeL, Bool.and_eq_true] at h
    intro x hx
    rcases List.mem_cons.1 hx with e | hx
    · exact e ▸ h.1
    · exact ih h.2 x hx
theorem allL_eq (ks : List Con) : allL ks = ks.flatMap all := by
  induction ks with
  | nil => rfl
  | cons x r ih => simp [allL, ih]
theorem preL_len (w : List Nat) : ∀ (ks : List Con) (i : Nat), preL ks w i = preL ks w i := fun _ _ => rfl

/-- What Check's steps do where all is sound: from clients s on, ts are the leaves to come. -/
def goes (s : List Int) : List Con → List Int × Bool
  | [] => (s, false)
  | t :: r => if t.a.c ∈ s then (s, true) else if 128 < s.length + 1 then (s ++ [t.a.c], true) else goes (s ++ [t.a.c]) r
theorem goes_append (s : List Int) (a b : List Con) : goes s (a ++ b) = if (goes s a).2 = true then goes s a else goes (goes s a).1 b := by
  induction a generalizing s with
  | nil => simp [goes]
  | cons t r ih =>
    simp only [List.cons_append, goes]
    split
    · simp
    · split
      · simp
      · exact ih _
/-- Where a container's shape is wrong, a run over it stops; where it is right, the run is that over the leaves. -/
theorem run_chk : ∀ (t : Con) (w : List Nat) (s : List Int), (shape t w.length = true → run chk s (pre t w) = goes s (all t)) ∧ (shape t w.length = false → (run chk s (pre t w)).2 = true) := by
  intro t
  induction t using Tr.ind with
  | h a ks ih =>
    intro w s
    have hL : ∀ (l : List Con), (∀ x ∈ l, x ∈ ks) → ∀ (i : Nat) (s : List Int), (shapeL l (w.length + 1) = true → run chk s (preL l w i) = goes s (allL l)) ∧ (shapeL l (w.length + 1) = false → (run chk s (preL l w i)).2 = true) := by
      intro l
      induction l with
      | nil => intro _ i s; exact ⟨fun _ => rfl, fun h => by simp [shapeL] at h⟩
      | cons x r ihr =>
        intro hm i s
        have hx := ih x (hm x (by simp)) (w ++ [i])
        rw [List.length_append, List.length_singleton] at hx
        have hr := ihr (fun y hy => hm y (by simp [hy])) (i + 1)
        refine ⟨fun h => ?_, fun h => ?_⟩
        · simp only [shapeL, Bool.and_eq_true] at h
          simp only [preL, allL, run_append, goes_append, (hx s).1 h.1]
          split
          · rfl
          · exact (hr _).1 h.2
        · simp only [shapeL] at h
          simp only [preL, run_append]
          cases h1 : shape x (w.length + 1)
          · have := (hx s).2 h1
            simp [this]
          · rw [h1, Bool.true_and] at h
            split
            · rename_i h2; exact h2
            · exact (hr _).2 h
    have hL0 := hL ks (fun _ h => h) 0
    refine ⟨fun h => ?_, fun h => ?_⟩
    · simp only [shape, Bool.and_eq_true] at h
      obtain ⟨h1, h2⟩ := h
      by_cases hk : a.k = 0
      · have hks : ks = [] := by
          unfold soundB at h1
          split at h1
          · cases h1
          · simp [hk] at h1; exact h1.2.2.2
        subst hks
        by_cases hc : a.c ∈ s
        · have e : chk s (Tr.mk a []) w = (s, true) := by unfold chk; simp [h1, hk, hc]
          simp only [pre, run, e, all, hk, if_true, goes, Tr.a_mk, hc]
        · by_cases h8 : 128 < s.length + 1
          · have e : chk s (Tr.mk a []) w = (s ++ [a.c], true) := by unfold chk; simp [h1, hk, hc, h8]
            simp only [pre, run, e, all, hk, if_true, goes, Tr.a_mk, hc, h8, if_false]
          · have e : chk s (Tr.mk a []) w = (s ++ [a.c], false) := by unfold chk; simp [h1, hk, hc, h8]
            simp only [pre, preL, run, e, all, hk, if_true, goes, Tr.a_mk, hc, h8, if_false, Bool.false_eq_true]
      · have e : chk s (Tr.mk a ks) w = (s, false) := by unfold chk; simp [h1, hk]
        simp only [pre, run, e, all, hk, if_false, Bool.false_eq_true]
        exact (hL0 s).1 h2
    · simp only [shape] at h
      cases h1 : soundB (Tr.mk a ks) w.length
      · have e : chk s (Tr.mk a ks) w = (s, true) := by unfold chk; simp [h1]
        simp only [pre, run, e, if_true]
      · rw [h1, Bool.true_and] at h
        have hk : ¬ a.k = 0 := by
          intro hk
          have hks : ks = [] := by
            unfold soundB at h1
            split at h1
            · cases h1
            · simp [hk] at h1; exact h1.2.2.2
          rw [hks] at h; simp [shapeL] at h
        have e : chk s (Tr.mk a ks) w = (s, false) := by unfold chk; simp [h1, hk]
        simp only [pre, run, e, if_false, Bool.false_eq_true]
        exact (hL0 s).2 h
theorem goes_ok (s : List Int) (l : List Con) (hs : s.Nodup) (hl : s.length ≤ 128) : (goes s l).2 = !decide ((s ++ l.map cl).Nodup ∧ s.length + l.length ≤ 128) := by
  induction l generalizing s with
  | nil => simp [goes, hs, hl]
  | cons t r ih =>
    simp only [goes]
    by_cases hc : t.a.c ∈ s
    · rw [if_pos hc]
      have : ¬ (s ++ (t :: r).map cl).Nodup := by
        intro h
        rw [List.nodup_append] at h
        exact h.2.2 _ hc (t.a.c) (by simp [cl]) rfl
      rw [decide_eq_false fun h => this h.1]; rfl
    · rw [if_neg hc]
      by_cases h8 : 128 < s.length + 1
      · rw [if_pos h8]
        have : ¬ (s.length + (t :: r).length ≤ 128) := by simp; omega
        rw [decide_eq_false fun h => this h.2]; rfl
      · rw [if_neg h8, ih (s ++ [t.a.c]) (by rw [List.nodup_append]; exact ⟨hs, by simp, fun a ha b hb => by simp at hb; subst hb; intro e; exact hc (e ▸ ha)⟩) (by simp; omega)]
        have e1 : (s ++ [t.a.c]) ++ r.map cl = s ++ (t :: r).map cl := by simp [cl]
        have e2 : (s ++ [t.a.c]).length + r.length = s.length + (t :: r).length := by simp; omega
        rw [e1, e2]
/-- Check's steps stop just where there is no tree. -/
theorem chk_tree (t : Con) : (run chk [] (pre t [])).2 = !treeB t := by
  have h := run_chk t [] []
  unfold treeB
  cases hs : shape t 0
  · simpa using h.2 hs
  · have e : decide (([] ++ (all t).map cl).Nodup ∧ ([] : List Int).length + (all t).length ≤ 128) = (decide (clients t).Nodup && decide ((all t).length ≤ 128)) := by
      rw [Bool.eq_iff_iff, Bool.and_eq_true, decide_eq_true_iff, decide_eq_true_iff, decide_eq_true_iff]; simp [clients]
    rw [h.1 hs, goes_ok [] _ (by simp) (by simp), e, Bool.true_and]
end Go.Proofs.Ytjeabkcbaielhaa.Co
