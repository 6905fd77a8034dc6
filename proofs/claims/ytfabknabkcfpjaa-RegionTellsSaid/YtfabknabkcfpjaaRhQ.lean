/- combine lays the one form: the code's rounds are the mathematics'. -/
import Derived.Test.YtfabknabkcfpjaaRhM
import Derived.Test.YtfabknabkcfpjaaRgG
namespace Go.Proofs.Ytfabknabkcfpjaa
/-- A rectangle as four numbers. -/
abbrev tp (r : Rc) : Rg.Rc := (r.x, r.y, r.w, r.h)
theorem tp_inj {a b : Rc} (h : tp a = tp b) : a = b := by
  obtain ⟨x, y, w, h1⟩ := a
  obtain ⟨x', y', w', h1'⟩ := b
  simp only [tp, Prod.mk.injEq] at h
  obtain ⟨rfl, rfl, rfl, rfl⟩ := h
  rfl
theorem tps_inj : ∀ {a b : List Rc}, a.map tp = b.map tp → a = b
  | [], [], _ => rfl
  | [], _ :: _, h => by simp at h
  | _ :: _, [], h => by simp at h
  | r :: a, s :: b, h => by
    simp only [List.map_cons, List.cons.injEq] at h
    rw [tp_inj h.1, tps_inj h.2]
/-- A run of the rows from t up to ahead of b. -/
def prR (t b : Int) (r : Int × Int) : Rc := ⟨r.1, t, r.2 - r.1, b - t⟩
/-- A run that is on the plane. -/
def inP (r : Int × Int) : Prop := -32768 ≤ r.1 ∧ r.1 < r.2 ∧ r.2 ≤ 32768
theorem ext_inP {rs : List (Int × Int)} {l h : Int} (hs : ∀ r ∈ rs, inP r) (hl : -32768 ≤ l) (hh : h ≤ 32768) : ∀ r ∈ Rg.ext rs l h, inP r := by
  unfold Rg.ext
  split
  · exact hs
  · next hlt =>
    have hn : inP (l, h) := ⟨hl, by dsimp only; omega, hh⟩
    split
    · intro r hr; rw [List.mem_singleton.1 hr]; exact hn
    · next a ha =>
      have hA := hs a (List.mem_of_getLast? ha)
      unfold inP at hA
      split
      · intro r hr
        rcases List.mem_append.1 hr with k | k
        · exact hs r k
        · rw [List.mem_singleton.1 k]; exact hn
      · intro r hr
        rcases List.mem_append.1 hr with k | k
        · exact hs r (List.dropLast_subset _ k)
        · rw [List.mem_singleton.1 k]; unfold inP; dsimp only; omega
theorem empty_pr {t b : Int} (ht : -32768 ≤ t) (htb : t < b) (hb : b ≤ 32768) {r : Int × Int} (hr : inP r) : emptyB r.1 t (r.2 - r.1) (b - t) = false := by
  unfold inP at hr
  rw [emptyB_iff]; omega
theorem between_pr {t b l h : Int} (ht : -32768 ≤ t) (htb : t < b) (hb : b ≤ 32768) (hl : -32768 ≤ l) (hh : h ≤ 32768) (hlh : l < h) : betweenR l t h b = prR t b (l, h) := by
  unfold betweenR prR
  rw [if_pos (by omega)]
theorem hull_pr {t b : Int} (ht : -32768 ≤ t) (htb : t < b) (hb : b ≤ 32768) {a n : Int × Int} (ha : inP a) (hn : inP n) : hullOf (prR t b a) (prR t b n) = prR t b (min a.1 n.1, max a.2 n.2) := by
  unfold hullOf hullR
  have e1 := empty_pr ht htb hb ha
  have e2 := empty_pr ht htb hb hn
  unfold inP at ha hn
  simp only [prR, e1, e2]
  simp only [Bool.false_eq_true, if_false]
  unfold betweenR
  rw [if_pos (by omega)]
  have e3 : min t t = t := by omega
  have e4 : max (t + (b - t)) (t + (b - t)) = b := by omega
  have e5 : max (a.1 + (a.2 - a.1)) (n.1 + (n.2 - n.1)) = max a.2 n.2 := by omega
  rw [e3, e4, e5]
theorem ext_pr {t b l h : Int} (ht : -32768 ≤ t) (htb : t < b) (hb : b ≤ 32768) (hl : -32768 ≤ l) (hh : h ≤ 32768) {rs : List (Int × Int)} (hs : ∀ r ∈ rs, inP r) :
    extR (rs.map (prR t b)) (betweenR l t h b) = (Rg.ext rs l h).map (prR t b) := by
  unfold extR Rg.ext
  by_cases h0 : h ≤ l
  · rw [if_pos h0]
    have e : betweenR l t h b = zeroR := by unfold betweenR; rw [if_neg (by omega)]
    rw [e, if_pos (by decide)]
  · rw [if_neg h0, between_pr ht htb hb hl hh (by omega)]
    have hn : inP (l, h) := ⟨hl, by dsimp only; omega, hh⟩
    have e := empty_pr ht htb hb hn
    dsimp only at e
    have e1 : emptyB (prR t b (l, h)).x (prR t b (l, h)).y (prR t b (l, h)).w (prR t b (l, h)).h = false := e
    rw [e1, if_neg (by decide), List.getLast?_map]
    cases ha : rs.getLast? with
    | none => rfl
    | some a =>
      have hA := hs a (List.mem_of_getLast? ha)
      show (if a.1 + (a.2 - a.1) < l then rs.map (prR t b) ++ [prR t b (l, h)] else (rs.map (prR t b)).dropLast ++ [hullOf (prR t b a) (prR t b (l, h))]) = List.map (prR t b) (if a.2 < l then rs ++ [(l, h)] else rs.dropLast ++ [(min a.1 l, max a.2 h)])
      by_cases hc : a.2 < l
      · rw [if_pos hc, if_pos (by omega), List.map_append]; rfl
      · rw [if_neg hc, if_neg (by omega), List.map_append, hull_pr ht htb hb hA hn, List.map_dropLast]; rfl
/-- A side as the row sees it. -/
def evS (d : Sd) : Rg.Ev := (d.x, d.s, d.k)
def onS (t : Int) (ds : List Sd) : List Rg.Ev := (ds.filter fun d => decide ¬ offS t d).map evS
theorem fold_pr (rl : Bool → Bool → Bool) {t b : Int} (ht : -32768 ≤ t) (htb : t < b) (hb : b ≤ 32768) : ∀ (ds : List Sd) (s : Rg.Row), (∀ d ∈ ds, -32768 ≤ d.x ∧ d.x ≤ 32768) → (∀ r ∈ s.runs, inP r) → -32768 ≤ s.x →
    (ds.foldl (bandStep rl t b) ⟨s.runs.map (prR t b), s.d0, s.d1, s.x⟩).runs = ((onS t ds).foldl (Rg.rowStep rl) s).runs.map (prR t b)
  | [], s, _, _, _ => rfl
  | d :: ds, s, hd, hr, hx => by
    have hd0 := hd d (List.mem_cons_self ..)
    have ih := fold_pr rl ht htb hb ds
    rw [List.foldl_cons]
    by_cases ho : offS t d
    · have e : bandStep rl t b ⟨s.runs.map (prR t b), s.d0, s.d1, s.x⟩ d = ⟨s.runs.map (prR t b), s.d0, s.d1, s.x⟩ := by unfold bandStep; rw [if_pos ho]
      rw [e, ih s (fun d' hd' => hd d' (List.mem_cons_of_mem _ hd')) hr hx]
      simp [onS, ho]
    · have hn : onS t (d :: ds) = evS d :: onS t ds := by simp [onS, ho]
      rw [hn, List.foldl_cons]
      have e : bandStep rl t b ⟨s.runs.map (prR t b), s.d0, s.d1, s.x⟩ d = ⟨(Rg.rowStep rl s (evS d)).runs.map (prR t b), (Rg.rowStep rl s (evS d)).d0, (Rg.rowStep rl s (evS d)).d1, (Rg.rowStep rl s (evS d)).x⟩ := by
        unfold bandStep Rg.rowStep
        rw [if_neg ho]
        simp only [evS, gt_iff_lt]
        rw [ext_pr ht htb hb hx hd0.2 hr]
        congr 1
        split <;> rfl
      rw [e]
      refine ih _ (fun d' hd' => hd d' (List.mem_cons_of_mem _ hd')) ?_ hd0.1
      unfold Rg.rowStep
      dsimp only
      split
      · exact ext_inP hr hx hd0.2
      · exact hr
theorem band_pr (rl : Bool → Bool → Bool) {t b : Int} (ht : -32768 ≤ t) (htb : t < b) (hb : b ≤ 32768) (ds : List Sd) (hd : ∀ d ∈ ds, -32768 ≤ d.x ∧ d.x ≤ 32768) :
    (bandOf rl t b ds).runs = (Rg.rowOf rl (onS t ds)).runs.map (prR t b) :=
  fold_pr rl ht htb hb ds ⟨[], 0, 0, 0⟩ hd (fun r hr => by cases hr) (by decide)
/-- Alike runs are the same ones. -/
theorem eqR_pr (t b t' b' : Int) : ∀ (p q : List (Int × Int)), eqR (p.map (prR t b)) (q.map (prR t' b')) = decide (p = q)
  | [], [] => by simp [eqR]
  | [], _ :: _ => by simp [eqR]
  | _ :: _, [] => by simp [eqR]
  | x :: p, y :: q => by
    have ih := eqR_pr t b t' b' p q
    rw [List.map_cons, List.map_cons]
    unfold eqR
    rw [ih]
    unfold alk prR
    obtain ⟨x1, x2⟩ := x
    obtain ⟨y1, y2⟩ := y
    simp only [List.cons.injEq, Prod.mk.injEq]
    rw [← Bool.decide_and, ← Bool.decide_and, decide_eq_decide]
    constructor
    · rintro ⟨⟨h1, h2⟩, h3⟩; exact ⟨⟨h1, by omega⟩, h3⟩
    · rintro ⟨⟨h1, h2⟩, h3⟩; exact ⟨⟨h1, by omega⟩, h3⟩
/-- The last band made higher, all of it. -/
theorem hUp_take {rs : List Rc} {last : Nat} {runs : List Rc} : ∀ (i : Nat), (hUp rs last runs i).take last = rs.take last
  | 0 => rfl
  | i + 1 => by
    have ih := hUp_take (rs := rs) (last := last) (runs := runs) i
    unfold hUp
    split
    · rw [List.take_set_of_le (by omega), ih]
    · exact ih
theorem hUp_at {rs : List Rc} {last : Nat} {runs : List Rc} : ∀ (i j : Nat) (a b : Rc), j < i → rs[last + j]? = some a → runs[j]? = some b → (hUp rs last runs i)[last + j]? = some (upR a b.h)
  | 0, _, _, _, h, _, _ => by omega
  | i + 1, j, a, b, h, h1, h2 => by
    by_cases hj : j = i
    · subst hj
      rw [hUp_next h1 h2, List.getElem?_set_self]
      rw [hUp_len]; exact (List.getElem?_eq_some_iff.1 h1).1
    · have ih := hUp_at i j a b (by omega) h1 h2
      unfold hUp
      split
      · rw [List.getElem?_set_ne (by omega), ih]
      · exact ih
theorem hUp_drop {rs : List Rc} {last : Nat} {t b t' b' : Int} {q : List (Int × Int)} (hd : rs.drop last = q.map (prR t b)) (hb : t' = b) :
    (hUp rs last (q.map (prR t' b')) (q.map (prR t' b')).length).drop last = q.map (prR t b') := by
  apply List.ext_getElem?
  intro j
  rw [List.getElem?_drop]
  have h1 : rs[last + j]? = (q[j]?).map (prR t b) := by rw [← List.getElem?_drop, hd, List.getElem?_map]
  rw [List.getElem?_map]
  cases hq : q[j]? with
  | none =>
    rw [hq] at h1
    have : rs.length ≤ last + j := List.getElem?_eq_none_iff.1 h1
    rw [List.getElem?_eq_none (by rw [hUp_len]; exact this)]
    rfl
  | some r =>
    rw [hq] at h1
    have hj : j < q.length := (List.getElem?_eq_some_iff.1 hq).1
    rw [hUp_at _ j (prR t b r) (prR t' b' r) (by rw [List.length_map]; exact hj) h1 (by rw [List.getElem?_map, hq]; rfl)]
    subst hb
    simp only [Option.map_some, upR, prR, Option.some.injEq, Rc.mk.injEq]
    exact ⟨trivial, trivial, trivial, by omega⟩
/-- What lies in memory is what is laid. -/
structure LayIs (f : Fr) (s : Rg.Lay) : Prop where
  le : f.last ≤ f.rs.length
  done : (f.rs.take f.last).map tp = Rg.rectsOf s.done
  cur : f.rs.drop f.last = s.cur.map (prR s.top s.bottom)
theorem tp_pr (t b : Int) (q : List (Int × Int)) : (q.map (prR t b)).map tp = (⟨t, b, q⟩ : Rg.Band).rects := by
  rw [List.map_map]; rfl
theorem LayIs.all {f : Fr} {s : Rg.Lay} (h : LayIs f s) : f.rs.map tp = Rg.rectsOf s.all := by
  rw [← List.take_append_drop f.last f.rs, List.map_append, h.done, h.cur]
  unfold Rg.Lay.all
  split
  · next hc => rw [hc]; simp
  · rw [tp_pr]; unfold Rg.rectsOf; rw [List.flatMap_append]; simp
theorem LayIs.step {f : Fr} {s : Rg.Lay} (h : LayIs f s) (q : List (Int × Int)) (b : Int) :
    LayIs ⟨layR f.rs f.last (q.map (prR s.bottom b)), layL f.rs f.last (q.map (prR s.bottom b))⟩ (Rg.layStep s (q, s.bottom, b)) := by
  unfold layR layL Rg.layStep
  rw [h.cur, eqR_pr]
  by_cases hq : q = s.cur
  · subst hq
    simp only [decide_true, if_true]
    exact ⟨by dsimp only; rw [hUp_len]; exact h.le, by dsimp only; rw [hUp_take]; exact h.done, hUp_drop h.cur rfl⟩
  · rw [if_neg hq]
    have hq' : ¬ s.cur = q := fun e => hq e.symm
    simp only [decide_eq_true_eq, if_neg hq']
    refine ⟨by dsimp only; rw [List.length_append]; omega, ?_, ?_⟩
    · dsimp only; rw [List.take_left]; exact h.all
    · dsimp only; rw [List.drop_left]
theorem layStep_bottom (s : Rg.Lay) (n : List (Int × Int) × Int × Int) : (Rg.layStep s n).bottom = n.2.2 := by
  unfold Rg.layStep; split <;> rfl
/-- combine's rounds are layStep's. -/
theorem cmb_lay (rl : Bool → Bool → Bool) (ds : List Sd) (hd : ∀ d ∈ ds, -32768 ≤ d.x ∧ d.x ≤ 32768) (y : Int) (ys : List Int) (hp : (y :: ys).Pairwise (· < ·)) (hm : ∀ v ∈ y :: ys, -32768 ≤ v ∧ v ≤ 32768) : ∀ j, j ≤ ys.length →
    LayIs (cmbF rl ds (y :: ys) j) (((List.zip (y :: ys) ys).take j).foldl (fun s p => Rg.layStep s ((Rg.rowOf rl (onS p.1 ds)).runs, p.1, p.2)) ⟨[], [], y, y⟩) ∧
    (((List.zip (y :: ys) ys).take j).foldl (fun s p => Rg.layStep s ((Rg.rowOf rl (onS p.1 ds)).runs, p.1, p.2)) ⟨[], [], y, y⟩).bottom = (y :: ys).getD j 0
  | 0, _ => ⟨⟨Nat.le_refl _, rfl, rfl⟩, rfl⟩
  | j + 1, hj => by
    obtain ⟨ih, hbot⟩ := cmb_lay rl ds hd y ys hp hm j (by omega)
    have hj1 : j < (y :: ys).length := by rw [List.length_cons]; omega
    have hj2 : j + 1 < (y :: ys).length := by rw [List.length_cons]; omega
    have ea : (y :: ys)[j]? = some (y :: ys)[j] := List.getElem?_eq_getElem hj1
    have eb : (y :: ys)[j + 1]? = some (y :: ys)[j + 1] := List.getElem?_eq_getElem hj2
    have hlt : (y :: ys)[j] < (y :: ys)[j + 1] := (List.pairwise_iff_getElem.1 hp) j (j + 1) hj1 hj2 (by omega)
    have hma := hm _ (List.getElem_mem hj1)
    have hmb := hm _ (List.getElem_mem hj2)
    have hz : (List.zip (y :: ys) ys)[j]? = some ((y :: ys)[j], (y :: ys)[j + 1]) := by
      rw [List.getElem?_zip_eq_some]; exact ⟨ea, by rw [← eb]; rfl⟩
    have hg : (y :: ys).getD j 0 = (y :: ys)[j] := by rw [List.getD_eq_getElem?_getD, ea]; rfl
    rw [hg] at hbot
    rw [take_snoc_get hz, List.foldl_append]
    generalize (((List.zip (y :: ys) ys).take j).foldl (fun s p => Rg.layStep s ((Rg.rowOf rl (onS p.1 ds)).runs, p.1, p.2)) ⟨[], [], y, y⟩) = s at ih hbot ⊢
    simp only [List.foldl_cons, List.foldl_nil]
    refine ⟨?_, ?_⟩
    · unfold cmbF
      rw [bandAt_some ea eb, band_pr rl hma.1 hlt hmb.2 ds hd, ← hbot]
      exact ih.step _ _
    · rw [layStep_bottom, List.getD_eq_getElem?_getD, eb]; rfl
/-- The sides that a row meets are those of the rectangles that have it. -/
theorem off_iff {t : Int} {r : Rc} (x s : Int) (k : Nat) : offS t ⟨x, s, k, r⟩ ↔ ¬ (r.y ≤ t ∧ t < r.y + r.h) := by
  unfold offS; dsimp only; omega
theorem placed_iff {r : Rc} (h : badR r = false) : Rg.placed (tp r) = !emptyB r.x r.y r.w r.h := by
  unfold badR at h
  simp only [Bool.not_eq_false'] at h
  have hr := (rightB_iff ..).1 h
  cases he : emptyB r.x r.y r.w r.h with
  | false =>
    rw [emptyB_iff] at he
    simp only [Rg.placed, Bool.not_false, Bool.and_eq_true, decide_eq_true_eq]; omega
  | true =>
    simp only [Bool.not_true]
    cases hp : Rg.placed (tp r) with
    | false => rfl
    | true =>
      exfalso
      simp only [Rg.placed, Bool.and_eq_true, decide_eq_true_eq] at hp
      have : emptyB r.x r.y r.w r.h = false := by rw [emptyB_iff]; omega
      rw [this] at he; cases he
theorem on_sides (t : Int) (k : Nat) : ∀ (la : List Rc), (∀ r ∈ la, badR r = false) → onS t (sidesK k la) = (Rg.actv (la.map tp) t).flatMap (Rg.evsOf k)
  | [], _ => rfl
  | r :: la, h => by
    have ih := on_sides t k la fun r' hr' => h r' (List.mem_cons_of_mem _ hr')
    have hp := placed_iff (h r (List.mem_cons_self ..))
    have e : onS t (sidesK k (r :: la)) = onS t (sidesR k r) ++ onS t (sidesK k la) := by
      unfold sidesK onS; rw [List.flatMap_cons, List.filter_append, List.map_append]
    rw [e, ih]
    unfold Rg.actv
    rw [List.map_cons, List.filter_cons]
    unfold sidesR
    cases he : emptyB r.x r.y r.w r.h with
    | true =>
      rw [he] at hp
      rw [hp]
      simp [onS]
    | false =>
      rw [he] at hp
      rw [hp]
      simp only [Bool.false_eq_true, if_false, Bool.not_false, Bool.true_and]
      by_cases ht : r.y ≤ t ∧ t < r.y + r.h
      · rw [if_pos (by simp only [Bool.and_eq_true, decide_eq_true_eq]; exact ht)]
        simp [onS, off_iff, ht, evS, Rg.evsOf, tp]
      · rw [if_neg (by simp only [Bool.and_eq_true, decide_eq_true_eq]; exact ht)]
        simp only [onS]
        simp
        exact ⟨(off_iff ..).2 ht, (off_iff ..).2 ht⟩
theorem sides_x {k : Nat} {la : List Rc} (h : ∀ r ∈ la, badR r = false) : ∀ d ∈ sidesK k la, -32768 ≤ d.x ∧ d.x ≤ 32768 := by
  intro d hd
  unfold sidesK at hd
  obtain ⟨r, hr, hdr⟩ := List.mem_flatMap.1 hd
  have hb := h r hr
  unfold badR rightB planeB at hb
  simp only [Bool.not_eq_false', Bool.and_eq_true, decide_eq_true_eq] at hb
  unfold sidesR at hdr
  split at hdr
  · simp at hdr
  · simp only [List.mem_cons, List.not_mem_nil, or_false] at hdr
    rcases hdr with rfl | rfl <;> dsimp only <;> omega
theorem sides_cut {k : Nat} {la : List Rc} (h : ∀ r ∈ la, badR r = false) {r : Rc} (hr : r ∈ la) (hp : Rg.placed (tp r) = true) : r.y ∈ cutsL (sidesK k la) ∧ r.y + r.h ∈ cutsL (sidesK k la) := by
  have he : emptyB r.x r.y r.w r.h = false := by
    have := placed_iff (h r hr)
    rw [hp] at this
    cases hx : emptyB r.x r.y r.w r.h
    · rfl
    · rw [hx] at this; cases this
  have hm : (⟨r.x, 1, k, r⟩ : Sd) ∈ sidesK k la := List.mem_flatMap.2 ⟨r, hr, by unfold sidesR; rw [he]; simp⟩
  exact ⟨List.mem_flatMap.2 ⟨_, hm, by simp⟩, List.mem_flatMap.2 ⟨_, hm, by simp⟩⟩
theorem sides_rows {k : Nat} {la : List Rc} (h : ∀ r ∈ la, badR r = false) : ∀ d ∈ sidesK k la, -32768 ≤ d.r.y ∧ d.r.y ≤ 32768 ∧ -32768 ≤ d.r.y + d.r.h ∧ d.r.y + d.r.h ≤ 32768 := by
  intro d hd
  unfold sidesK at hd
  obtain ⟨r, hr, hdr⟩ := List.mem_flatMap.1 hd
  have hb := h r hr
  unfold badR rightB planeB at hb
  simp only [Bool.not_eq_false', Bool.and_eq_true, decide_eq_true_eq] at hb
  unfold sidesR at hdr
  split at hdr
  · simp at hdr
  · simp only [List.mem_cons, List.not_mem_nil, or_false] at hdr
    rcases hdr with rfl | rfl <;> dsimp only <;> omega
/-- The places that a rule takes of two sets. -/
def takes (rl : Bool → Bool → Bool) (la lb : List Rc) (x v : Int) : Prop := rl (Rg.inRect (la.map tp) x v) (Rg.inRect (lb.map tp) x v) = true
/-- What combine lays is the one form. -/
theorem cmb_form (rl : Bool → Bool → Bool) (hr : rl false false = false) (la lb : List Rc) (ha : ∀ r ∈ la, badR r = false) (hb : ∀ r ∈ lb, badR r = false) (ds : List Sd) (ys : List Int)
    (hds : ds.Perm (sidesK 0 la ++ sidesK 1 lb)) (hsx : ds.Pairwise (fun a b => a.x ≤ b.x)) (hys : ys.Pairwise (· < ·)) (hym : ∀ y, y ∈ ys ↔ y ∈ cutsL ds) :
    Rg.Form (takes rl la lb) ((cmbF rl ds ys (ys.length - 1)).rs.map tp) := by
  have hdx : ∀ d ∈ ds, -32768 ≤ d.x ∧ d.x ≤ 32768 := fun d hd => by
    rcases List.mem_append.1 (hds.mem_iff.1 hd) with k | k
    · exact sides_x ha d k
    · exact sides_x hb d k
  have hdr : ∀ d ∈ ds, -32768 ≤ d.r.y ∧ d.r.y ≤ 32768 ∧ -32768 ≤ d.r.y + d.r.h ∧ d.r.y + d.r.h ≤ 32768 := fun d hd => by
    rcases List.mem_append.1 (hds.mem_iff.1 hd) with k | k
    · exact sides_rows ha d k
    · exact sides_rows hb d k
  have hmem : ∀ {k : Nat} {l : List Rc}, (∀ d ∈ sidesK k l, d ∈ ds) → ∀ y, y ∈ cutsL (sidesK k l) → y ∈ ys := fun hsub y hy => by
    rw [hym]
    obtain ⟨d, hd, hy⟩ := List.mem_flatMap.1 hy
    exact List.mem_flatMap.2 ⟨d, hsub d hd, hy⟩
  have hin : ∀ r ∈ la.map tp ++ lb.map tp, Rg.placed r = true → r.2.1 ∈ ys ∧ r.2.1 + r.2.2.2 ∈ ys := by
    intro r hr' hp
    rcases List.mem_append.1 hr' with k | k
    · obtain ⟨q, hq, rfl⟩ := List.mem_map.1 k
      have hc := sides_cut (k := 0) ha hq hp
      have hsub : ∀ d ∈ sidesK 0 la, d ∈ ds := fun d hd => hds.mem_iff.2 (List.mem_append_left _ hd)
      exact ⟨hmem hsub _ hc.1, hmem hsub _ hc.2⟩
    · obtain ⟨q, hq, rfl⟩ := List.mem_map.1 k
      have hc := sides_cut (k := 1) hb hq hp
      have hsub : ∀ d ∈ sidesK 1 lb, d ∈ ds := fun d hd => hds.mem_iff.2 (List.mem_append_right _ hd)
      exact ⟨hmem hsub _ hc.1, hmem hsub _ hc.2⟩
  cases ys with
  | nil =>
    refine ⟨[], trivial, rfl, fun x v => ⟨fun h => absurd h (Rg.not_inBands_nil _ _), fun h => ?_⟩⟩
    exfalso
    have key : ∀ l : List Rc, (∀ r ∈ l, r ∈ la ∨ r ∈ lb) → Rg.inRect (l.map tp) x v = false := by
      intro l hl
      cases hc : Rg.inRect (l.map tp) x v with
      | false => rfl
      | true =>
        exfalso
        unfold Rg.inRect at hc
        rw [Rg.inAny_iff] at hc
        obtain ⟨r, hr', _⟩ := hc
        obtain ⟨q, hq, _⟩ := List.mem_map.1 hr'
        obtain ⟨hq1, hq2⟩ := List.mem_filter.1 hq
        rw [Bool.and_eq_true] at hq2
        obtain ⟨q', hq', rfl⟩ := List.mem_map.1 hq1
        have := hin (tp q') (by rcases hl q' hq' with k | k; exact List.mem_append_left _ (List.mem_map.2 ⟨_, k, rfl⟩); exact List.mem_append_right _ (List.mem_map.2 ⟨_, k, rfl⟩)) hq2.1
        exact absurd this.1 (by simp)
    unfold takes at h
    rw [key la (fun r hr' => .inl hr'), key lb (fun r hr' => .inr hr'), hr] at h
    cases h
  | cons y ys =>
    have hm : ∀ v ∈ y :: ys, -32768 ≤ v ∧ v ≤ 32768 := by
      intro v hv
      rw [hym] at hv
      obtain ⟨d, hd, hv⟩ := List.mem_flatMap.1 hv
      have := hdr d hd
      simp only [List.mem_cons, List.not_mem_nil, or_false] at hv
      rcases hv with rfl | rfl <;> omega
    have hl := (cmb_lay rl ds hdx y ys hys hm ys.length (Nat.le_refl _)).1
    have hall := hl.all
    rw [show (y :: ys).length - 1 = ys.length by simp, hall]
    rw [List.take_of_length_le (by rw [List.length_zip, List.length_cons]; omega)]
    refine Rg.form_of rl hr (la.map tp) (lb.map tp) y ys hys hin (fun t b => (Rg.rowOf rl (onS t ds)).runs) fun t b => ⟨onS t ds, ?_, ?_, rfl⟩
    · rw [← on_sides t 0 la ha, ← on_sides t 1 lb hb]
      have : onS t (sidesK 0 la) ++ onS t (sidesK 1 lb) = onS t (sidesK 0 la ++ sidesK 1 lb) := by
        unfold onS; rw [List.filter_append, List.map_append]
      rw [this]
      exact (hds.filter _).map _
    · unfold onS
      rw [List.pairwise_map]
      exact hsx.filter _
end Go.Proofs.Ytfabknabkcfpjaa
