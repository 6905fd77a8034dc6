/- The reference's rows and bands, without a program. -/
import Derived.Test.YtfabknabkcfpjaaRjC
import Derived.Test.YtfabknabkcfpjaaRhR
namespace Go.Proofs.Ytfabknabkcfpjaa
/-- Runs as numbers, one behind the other. -/
def flatP (rs : List (Int × Int)) : List Int := rs.flatMap fun p => [p.1, p.2]
theorem flatP_append (a b : List (Int × Int)) : flatP (a ++ b) = flatP a ++ flatP b := by unfold flatP; rw [List.flatMap_append]
theorem flatP_len (rs : List (Int × Int)) : (flatP rs).length = 2 * rs.length := by
  unfold flatP
  induction rs with
  | nil => rfl
  | cons p t ih => rw [List.flatMap_cons, List.length_append, ih, List.length_cons]; simp; omega
theorem flatP_get : ∀ (rs : List (Int × Int)) (j : Nat) (p : Int × Int), rs[j]? = some p → (flatP rs)[2 * j]? = some p.1 ∧ (flatP rs)[2 * j + 1]? = some p.2
  | [], j, p, h => by simp at h
  | q :: t, 0, p, h => by
    simp only [List.getElem?_cons_zero, Option.some.injEq] at h
    subst h
    exact ⟨rfl, rfl⟩
  | q :: t, j + 1, p, h => by
    have ih := flatP_get t j p (by simpa using h)
    have e : flatP (q :: t) = [q.1, q.2] ++ flatP t := rfl
    rw [e, show 2 * (j + 1) = 2 * j + 2 by omega, List.getElem?_append_right (by simp), List.getElem?_append_right (by simp)]
    exact ⟨by simpa using ih.1, by rw [show 2 * j + 2 + 1 - [q.1, q.2].length = 2 * j + 1 by simp]; exact ih.2⟩
theorem flatP_inj : ∀ {a b : List (Int × Int)}, flatP a = flatP b → a = b
  | [], [], _ => rfl
  | [], _ :: _, h => by simp [flatP] at h
  | _ :: _, [], h => by simp [flatP] at h
  | (p, q) :: a, (r, s) :: b, h => by
    have e : ∀ (x y : Int) (t : List (Int × Int)), flatP ((x, y) :: t) = x :: y :: flatP t := fun _ _ _ => rfl
    rw [e, e, List.cons.injEq, List.cons.injEq] at h
    rw [h.1, h.2.1, flatP_inj h.2.2]
/-- The cells of a row up to the j-th. -/
def cellsN (inq : Int → Bool) (xs : List Int) (j : Nat) : List (Int × Int) := ((List.zip xs xs.tail).take j).foldl (Rg.cellStep inq) []
theorem zip_get {xs : List Int} {j : Nat} {a b : Int} (h1 : xs[j]? = some a) (h2 : xs[j + 1]? = some b) : (List.zip xs xs.tail)[j]? = some (a, b) :=
  List.getElem?_zip_eq_some.2 ⟨h1, by rw [List.getElem?_tail]; exact h2⟩
theorem cells_next {inq : Int → Bool} {xs : List Int} {j : Nat} {a b : Int} (h1 : xs[j]? = some a) (h2 : xs[j + 1]? = some b) : cellsN inq xs (j + 1) = Rg.cellStep inq (cellsN inq xs j) (a, b) := by
  unfold cellsN
  rw [take_snoc_get (zip_get h1 h2), List.foldl_append]; rfl
/-- The last run touches, or it does not. -/
theorem ext_two {rs : List (Int × Int)} {l h : Int} (hb : ∀ r ∈ rs, r.1 < l ∧ r.2 ≤ l) (hlh : l < h) :
    (∃ init a, rs = init ++ [(a, l)] ∧ Rg.ext rs l h = init ++ [(a, h)]) ∨ ((∀ init p, rs = init ++ [p] → p.2 ≠ l) ∧ Rg.ext rs l h = rs ++ [(l, h)]) := by
  unfold Rg.ext
  rw [if_neg (by omega)]
  rcases List.eq_nil_or_concat rs with rfl | ⟨init, p, rfl⟩
  · exact .inr ⟨fun init p h => by simp at h, rfl⟩
  · rw [List.concat_eq_append] at hb ⊢
    have hp := hb p (List.mem_append_right _ (List.mem_singleton.2 rfl))
    rw [List.getLast?_append]
    simp only [List.getLast?_singleton, Option.some_or, List.dropLast_concat]
    by_cases hl : p.2 = l
    · refine .inl ⟨init, p.1, by rw [← hl], ?_⟩
      rw [if_neg (by omega)]
      rw [show min p.1 l = p.1 by omega, show max p.2 h = h by omega]
    · refine .inr ⟨fun init' p' h' => ?_, by rw [if_pos (by omega)]⟩
      have := List.append_inj_right' h' rfl
      simp only [List.cons.injEq, and_true] at this
      rw [← this]; exact hl
theorem ext_in {rs : List (Int × Int)} {l h lo : Int} (hb : ∀ r ∈ rs, lo ≤ r.1 ∧ r.1 < r.2 ∧ r.1 < l ∧ r.2 ≤ l) (hlo : lo ≤ l) (hlh : l < h) : ∀ r ∈ Rg.ext rs l h, lo ≤ r.1 ∧ r.1 < r.2 ∧ r.1 < h ∧ r.2 ≤ h := by
  intro r hr
  rcases ext_two (fun r hr => ⟨(hb r hr).2.2.1, (hb r hr).2.2.2⟩) hlh with ⟨init, a, rfl, e⟩ | ⟨_, e⟩
  · rw [e] at hr
    rcases List.mem_append.1 hr with k | k
    · have := hb r (List.mem_append_left _ k); omega
    · have := hb (a, l) (List.mem_append_right _ (List.mem_singleton.2 rfl))
      rw [List.mem_singleton.1 k]; dsimp only at this ⊢; omega
  · rw [e] at hr
    rcases List.mem_append.1 hr with k | k
    · have := hb r k; omega
    · rw [List.mem_singleton.1 k]; dsimp only; omega
theorem up_lt {xs : List Int} (hs : xs.Pairwise (· < ·)) {j : Nat} {a b : Int} (h1 : xs[j]? = some a) (h2 : xs[j + 1]? = some b) : a < b := by
  obtain ⟨k1, rfl⟩ := List.getElem?_eq_some_iff.1 h1
  obtain ⟨k2, rfl⟩ := List.getElem?_eq_some_iff.1 h2
  exact (List.pairwise_iff_getElem.1 hs) j (j + 1) k1 k2 (by omega)
theorem cells_in {inq : Int → Bool} {xs : List Int} {lo : Int} (hs : xs.Pairwise (· < ·)) (hlo : ∀ x ∈ xs, lo ≤ x) : ∀ (j : Nat) (a : Int), xs[j]? = some a → ∀ r ∈ cellsN inq xs j, lo ≤ r.1 ∧ r.1 < r.2 ∧ r.1 < a ∧ r.2 ≤ a
  | 0, a, _, r, hr => by simp [cellsN] at hr
  | j + 1, b, hb, r, hr => by
    obtain ⟨a, ha⟩ : ∃ a, xs[j]? = some a := ⟨_, List.getElem?_eq_getElem (by have := (List.getElem?_eq_some_iff.1 hb).1; omega)⟩
    have ih := cells_in (inq := inq) hs hlo j a ha
    have hab := up_lt hs ha hb
    rw [cells_next ha hb] at hr
    unfold Rg.cellStep at hr
    split at hr
    · exact ext_in ih (hlo a (List.mem_of_getElem? ha)) hab r hr
    · have := ih r hr; omega
theorem cells_len {inq : Int → Bool} {xs : List Int} : ∀ j, (cellsN inq xs j).length ≤ j
  | 0 => by simp [cellsN]
  | j + 1 => by
    have ih := cells_len (inq := inq) (xs := xs) j
    cases h : (List.zip xs xs.tail)[j]? with
    | none =>
      have e : cellsN inq xs (j + 1) = cellsN inq xs j := by
        unfold cellsN
        have := List.getElem?_eq_none_iff.1 h
        rw [List.take_of_length_le (by omega), List.take_of_length_le (by omega)]
      rw [e]; omega
    | some p =>
      have e : cellsN inq xs (j + 1) = Rg.cellStep inq (cellsN inq xs j) p := by
        unfold cellsN
        rw [take_snoc_get h, List.foldl_append]; rfl
      rw [e]
      unfold Rg.cellStep
      split
      · unfold Rg.ext
        split
        · omega
        · split
          · simp
          · split
            · simp; omega
            · simp; omega
      · omega
/-- A row, whole. -/
def rowC (inq : Int → Bool) (xs : List Int) : List (Int × Int) := cellsN inq xs (xs.length - 1)
theorem rowC_all (inq : Int → Bool) (x : Int) (t : List Int) : rowC inq (x :: t) = (List.zip (x :: t) t).foldl (Rg.cellStep inq) [] := by
  unfold rowC cellsN
  rw [List.tail_cons, List.take_of_length_le (by rw [List.length_zip]; simp)]
theorem rowC_in {inq : Int → Bool} {xs : List Int} {lo hi : Int} (hs : xs.Pairwise (· < ·)) (hx : ∀ x ∈ xs, lo ≤ x ∧ x ≤ hi) : ∀ r ∈ rowC inq xs, lo ≤ r.1 ∧ r.1 < r.2 ∧ r.2 ≤ hi := by
  intro r hr
  unfold rowC at hr
  cases hl : xs[xs.length - 1]? with
  | none =>
    have h0 := List.getElem?_eq_none_iff.1 hl
    have : xs = [] := List.eq_nil_of_length_eq_zero (by omega)
    subst this
    simp [cellsN] at hr
  | some a =>
    have := cells_in hs (fun x h => (hx x h).1) _ a hl r hr
    have := (hx a (List.mem_of_getElem? hl)).2
    omega
/-- The reference's form behind j rows. -/
def setF (now : Int → List (Int × Int)) (ys : List Int) : Nat → Fr
  | 0 => ⟨[], 0⟩
  | j + 1 =>
    match ys[j]?, ys[j + 1]? with
    | some a, some b => ⟨layR (setF now ys j).rs (setF now ys j).last ((now a).map (prR a b)), layL (setF now ys j).rs (setF now ys j).last ((now a).map (prR a b))⟩
    | _, _ => setF now ys j
def curF (now : Int → List (Int × Int)) (ys : List Int) : Nat → List (Int × Int)
  | 0 => []
  | j + 1 => match ys[j]? with
    | some a => now a
    | none => []
theorem setF_next {now : Int → List (Int × Int)} {ys : List Int} {j : Nat} {a b : Int} (h1 : ys[j]? = some a) (h2 : ys[j + 1]? = some b) :
    setF now ys (j + 1) = ⟨layR (setF now ys j).rs (setF now ys j).last ((now a).map (prR a b)), layL (setF now ys j).rs (setF now ys j).last ((now a).map (prR a b))⟩ := by
  show (match ys[j]?, ys[j + 1]? with | some a, some b => _ | _, _ => _) = _
  rw [h1, h2]
theorem curF_next {now : Int → List (Int × Int)} {ys : List Int} {j : Nat} {a : Int} (h1 : ys[j]? = some a) : curF now ys (j + 1) = now a := by
  show (match ys[j]? with | some a => _ | none => _) = _
  rw [h1]
def layF (now : Int → List (Int × Int)) (y : Int) (ys : List Int) (j : Nat) : Rg.Lay := ((List.zip (y :: ys) ys).take j).foldl (fun s p => Rg.layStep s (now p.1, p.1, p.2)) ⟨[], [], y, y⟩
theorem set_lay (now : Int → List (Int × Int)) (y : Int) (ys : List Int) (hm : ∀ v ∈ y :: ys, -32768 ≤ v ∧ v ≤ 32768) : ∀ j a, (y :: ys)[j]? = some a →
    LayIs (setF now (y :: ys) j) (layF now y ys j) ∧ (layF now y ys j).bottom = a ∧ (layF now y ys j).cur = curF now (y :: ys) j ∧ -32768 ≤ (layF now y ys j).top ∧ (layF now y ys j).top ≤ 32768
  | 0, a, h => by
    have hy := hm y (List.mem_cons_self ..)
    simp only [List.getElem?_cons_zero, Option.some.injEq] at h
    exact ⟨⟨Nat.le_refl _, rfl, rfl⟩, h, rfl, hy⟩
  | j + 1, b, h => by
    obtain ⟨a, ha⟩ : ∃ a, (y :: ys)[j]? = some a := ⟨_, List.getElem?_eq_getElem (by have := (List.getElem?_eq_some_iff.1 h).1; omega)⟩
    obtain ⟨h1, h2, h3, h4⟩ := set_lay now y ys hm j a ha
    have e : layF now y ys (j + 1) = Rg.layStep (layF now y ys j) (now a, a, b) := by
      unfold layF
      have hz : (List.zip (y :: ys) ys)[j]? = some (a, b) := zip_get ha h
      rw [take_snoc_get hz, List.foldl_append]; rfl
    have hs := h1.step (now a) b
    rw [h2] at hs
    have hma := hm a (List.mem_of_getElem? ha)
    rw [e, setF_next ha h, curF_next ha]
    refine ⟨hs, layStep_bottom _ _, ?_, ?_⟩
    · unfold Rg.layStep; split
      · next hc => exact hc.symm
      · rfl
    · unfold Rg.layStep; split
      · exact h4
      · exact hma
/-- What a round finds: the last band, from t down to a. -/
def Rnd (F : Fr) (C : List (Int × Int)) (a : Int) : Prop := F.last ≤ F.rs.length ∧ ∃ t, -32768 ≤ t ∧ t ≤ 32768 ∧ F.rs.drop F.last = C.map (prR t a)
theorem set_rnd (now : Int → List (Int × Int)) {ys : List Int} (hm : ∀ v ∈ ys, -32768 ≤ v ∧ v ≤ 32768) {j : Nat} {a : Int} (h : ys[j]? = some a) : Rnd (setF now ys j) (curF now ys j) a := by
  cases ys with
  | nil => simp at h
  | cons y ys =>
    obtain ⟨h1, h2, h3, h4, h5⟩ := set_lay now y ys hm j a h
    exact ⟨h1.le, _, h4, h5, by rw [h1.cur, h2, h3]⟩
theorem Rnd.len {F : Fr} {C : List (Int × Int)} {a : Int} (h : Rnd F C a) : F.rs.length = F.last + C.length := by
  obtain ⟨h1, t, _, _, h2⟩ := h
  have := congrArg List.length h2
  rw [List.length_drop, List.length_map] at this
  omega
theorem Rnd.up {F : Fr} {C : List (Int × Int)} {a : Int} (h : Rnd F C a) (b : Int) : layR F.rs F.last (C.map (prR a b)) = hUp F.rs F.last (C.map (prR a b)) C.length := by
  obtain ⟨h1, t, _, _, h2⟩ := h
  unfold layR
  rw [h2, eqR_pr, if_pos (by simp), List.length_map]
theorem Rnd.more {F : Fr} {C q : List (Int × Int)} {a : Int} (h : Rnd F C a) (b : Int) (hq : q ≠ C ∨ q = []) : layR F.rs F.last (q.map (prR a b)) = F.rs ++ q.map (prR a b) := by
  obtain ⟨h1, t, _, _, h2⟩ := h
  unfold layR
  rw [h2, eqR_pr]
  by_cases hc : C = q
  · rcases hq with hq | rfl
    · exact absurd hc.symm hq
    · rw [if_pos (by simpa using hc)]; simp [hUp]
  · rw [if_neg (by simpa using hc)]
theorem Rnd.at_ {F : Fr} {C : List (Int × Int)} {a : Int} (h : Rnd F C a) (b : Int) {i : Nat} (hi : i < C.length) :
    ∃ r : Rc, (hUp F.rs F.last (C.map (prR a b)) i)[F.last + i]? = some r ∧ -32768 ≤ r.y ∧ r.y ≤ 32768 ∧ hUp F.rs F.last (C.map (prR a b)) (i + 1) = (hUp F.rs F.last (C.map (prR a b)) i).set (F.last + i) ⟨r.x, r.y, r.w, b - r.y⟩ := by
  obtain ⟨h1, t, ht1, ht2, h2⟩ := h
  obtain ⟨p, hp⟩ : ∃ p, C[i]? = some p := ⟨_, List.getElem?_eq_getElem hi⟩
  have e1 : F.rs[F.last + i]? = some (prR t a p) := by
    rw [← List.getElem?_drop, h2, List.getElem?_map, hp]; rfl
  have e2 : (C.map (prR a b))[i]? = some (prR a b p) := by rw [List.getElem?_map, hp]; rfl
  refine ⟨prR t a p, by rw [hUp_get i i (Nat.le_refl _), e1], ht1, ht2, ?_⟩
  rw [hUp_next e1 e2]
  congr 1
  unfold upR prR
  simp only [Rc.mk.injEq, true_and]
  omega
theorem hUp_zero (rs : List Rc) (last : Nat) (runs : List Rc) : hUp rs last runs 0 = rs := rfl
/-- What the reference lays is the one form. -/
theorem ref_form (rl : Bool → Bool → Bool) (hr : rl false false = false) (la lb : List Rc) (ha : ∀ r ∈ la, badR r = false) (hb : ∀ r ∈ lb, badR r = false) :
    Rg.Form (takes rl la lb) ((setF (fun y => rowC (fun x => rl (inS la x y) (inS lb x y)) (edgL false (edgL false [] la) lb)) (edgL true (edgL true [] la) lb) ((edgL true (edgL true [] la) lb).length - 1)).rs.map tp) := by
  have hup : ∀ d, (edgL d (edgL d [] la) lb).Pairwise (· < ·) := fun d => edgL_up _ _ _ (edgL_up _ _ _ List.Pairwise.nil)
  have hmem : ∀ d y, y ∈ edgL d (edgL d [] la) lb ↔ ∃ r ∈ la ++ lb, emptyB r.x r.y r.w r.h = false ∧ (if d = true then y = r.y ∨ y = r.y + r.h else y = r.x ∨ y = r.x + r.w) := by
    intro d y
    rw [edgL_mem, edgL_mem]
    constructor
    · rintro ((h | ⟨r, h1, h2⟩) | ⟨r, h1, h2⟩)
      · cases h
      · exact ⟨r, List.mem_append_left _ h1, h2⟩
      · exact ⟨r, List.mem_append_right _ h1, h2⟩
    · rintro ⟨r, h1, h2⟩
      rcases List.mem_append.1 h1 with h1 | h1
      · exact .inl (.inr ⟨r, h1, h2⟩)
      · exact .inr ⟨r, h1, h2⟩
  have hbad : ∀ r ∈ la ++ lb, badR r = false := fun r h => by
    rcases List.mem_append.1 h with h | h
    · exact ha r h
    · exact hb r h
  have hpl : ∀ r ∈ la.map tp ++ lb.map tp, Rg.placed r = true → ∃ q ∈ la ++ lb, r = tp q ∧ emptyB q.x q.y q.w q.h = false := by
    intro r h hp
    rw [← List.map_append] at h
    obtain ⟨q, hq, rfl⟩ := List.mem_map.1 h
    refine ⟨q, hq, rfl, ?_⟩
    have := placed_iff (hbad q hq)
    rw [this] at hp
    simpa using hp
  have hrng : ∀ v ∈ edgL true (edgL true [] la) lb, -32768 ≤ v ∧ v ≤ 32768 := by
    intro v hv
    obtain ⟨r, h1, h2, h3⟩ := (hmem true v).1 hv
    rw [emptyB_iff] at h2
    simp only [if_true] at h3
    omega
  have hnow : ∀ y x, rl (inS la x y) (inS lb x y) = rl (Rg.inRect (la.map tp) x y) (Rg.inRect (lb.map tp) x y) := fun y x => by rw [inS_rect ha, inS_rect hb]
  have hny : ∀ r ∈ la.map tp ++ lb.map tp, Rg.placed r = true → r.2.1 ∈ edgL true (edgL true [] la) lb ∧ r.2.1 + r.2.2.2 ∈ edgL true (edgL true [] la) lb := by
    intro r h hp
    obtain ⟨q, hq, rfl, he⟩ := hpl r h hp
    exact ⟨(hmem true _).2 ⟨q, hq, he, by rw [if_pos rfl]; exact .inl rfl⟩, (hmem true _).2 ⟨q, hq, he, by rw [if_pos rfl]; exact .inr rfl⟩⟩
  have hnx : ∀ r ∈ la.map tp ++ lb.map tp, Rg.placed r = true → r.1 ∈ edgL false (edgL false [] la) lb ∧ r.1 + r.2.2.1 ∈ edgL false (edgL false [] la) lb := by
    intro r h hp
    obtain ⟨q, hq, rfl, he⟩ := hpl r h hp
    exact ⟨(hmem false _).2 ⟨q, hq, he, by rw [if_neg (by decide)]; exact .inl rfl⟩, (hmem false _).2 ⟨q, hq, he, by rw [if_neg (by decide)]; exact .inr rfl⟩⟩
  simp only [hnow]
  have hux := hup false
  have huy := hup true
  generalize edgL false (edgL false [] la) lb = xs at hux hnx ⊢
  generalize edgL true (edgL true [] la) lb = ys at huy hny hrng ⊢
  have hno : (∀ r ∈ la.map tp ++ lb.map tp, Rg.placed r = false) → ∀ x v, takes rl la lb x v → False := by
    intro hn x v ht
    have key : ∀ l : List Rg.Rc, (∀ r ∈ l, Rg.placed r = false) → Rg.inRect l x v = false := by
      intro l hl
      cases hc : Rg.inRect l x v with
      | false => rfl
      | true =>
        exfalso
        unfold Rg.inRect at hc
        rw [Rg.inAny_iff] at hc
        obtain ⟨r, hr', _⟩ := hc
        obtain ⟨q, hq, _⟩ := List.mem_map.1 hr'
        obtain ⟨hq1, hq2⟩ := List.mem_filter.1 hq
        rw [hl q hq1] at hq2; simp at hq2
    unfold takes at ht
    rw [key _ (fun r h => hn r (List.mem_append_left _ h)), key _ (fun r h => hn r (List.mem_append_right _ h)), hr] at ht
    cases ht
  have hnp : ∀ {l : List Int}, l = [] → (∀ r ∈ la.map tp ++ lb.map tp, Rg.placed r = true → r.1 ∈ l ∨ r.2.1 ∈ l) → ∀ r ∈ la.map tp ++ lb.map tp, Rg.placed r = false := by
    rintro l rfl h r hr'
    cases hp : Rg.placed r with
    | false => rfl
    | true => rcases h r hr' hp with h | h <;> cases h
  cases ys with
  | nil => exact ⟨[], trivial, rfl, fun x v => ⟨fun h => absurd h (Rg.not_inBands_nil _ _), fun h => (hno (hnp rfl fun r h hp => .inr (hny r h hp).1) x v h).elim⟩⟩
  | cons y ys =>
    obtain ⟨h1, _⟩ := set_lay (fun y => rowC (fun x => rl (Rg.inRect (la.map tp) x y) (Rg.inRect (lb.map tp) x y)) xs) y ys hrng ys.length _ (List.getElem?_eq_getElem (by simp))
    rw [show (y :: ys).length - 1 = ys.length by simp, h1.all]
    cases xs with
    | nil =>
      have hn := hnp rfl fun r h hp => .inl (hnx r h hp).1
      refine form_congr (P := fun x v => rl (Rg.inRect [] x v) (Rg.inRect [] x v) = true) ?_ (fun x v => ⟨fun h => ?_, fun h => (hno hn x v h).elim⟩)
      · have := Rg.form_ref rl hr [] [] y ys huy (fun r h => by cases h) 0 [] (by simp) (fun r h => by cases h)
        have e : layF (fun y => rowC (fun x => rl (Rg.inRect (la.map tp) x y) (Rg.inRect (lb.map tp) x y)) []) y ys ys.length = ((List.zip (y :: ys) ys).foldl (fun s p => Rg.layStep s ((List.zip [0] []).foldl (Rg.cellStep fun t => rl (Rg.inRect [] t p.1) (Rg.inRect [] t p.1)) [], p.1, p.2)) ⟨[], [], y, y⟩) := by
          unfold layF
          rw [List.take_of_length_le (by rw [List.length_zip]; simp)]
          rfl
        rw [e]; exact this
      · exfalso
        have : Rg.inRect [] x v = false := rfl
        rw [this, hr] at h; cases h
    | cons x xs =>
      have := Rg.form_ref rl hr (la.map tp) (lb.map tp) y ys huy hny x xs hux hnx
      have e : layF (fun y => rowC (fun x => rl (Rg.inRect (la.map tp) x y) (Rg.inRect (lb.map tp) x y)) (x :: xs)) y ys ys.length = ((List.zip (y :: ys) ys).foldl (fun s p => Rg.layStep s ((List.zip (x :: xs) xs).foldl (Rg.cellStep fun t => rl (Rg.inRect (la.map tp) t p.1) (Rg.inRect (lb.map tp) t p.1)) [], p.1, p.2)) ⟨[], [], y, y⟩) := by
        unfold layF
        rw [List.take_of_length_le (by rw [List.length_zip]; simp)]
        simp only [rowC_all]
      rw [e]; exact this
end Go.Proofs.Ytfabknabkcfpjaa
