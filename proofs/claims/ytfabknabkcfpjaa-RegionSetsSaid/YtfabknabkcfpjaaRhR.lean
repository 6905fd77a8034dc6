/- What is answered of sets, told of the places alone. No walk. -/
import Derived.Test.YtfabknabkcfpjaaRhQ
import Derived.Test.YtfabknabkcfpjaaRhB
namespace Go.Proofs.Ytfabknabkcfpjaa
/-- What is answered of two sets: the error, and the rectangles. -/
def Told (rl : Bool → Bool → Bool) (la lb : List Rc) (k : Int) (L : List Rc) : Prop :=
  (faultI la lb ≠ 0 ∧ k = faultI la lb ∧ L = []) ∨
  (faultI la lb = 0 ∧ ∃ F : List Rc, Rg.Form (takes rl la lb) (F.map tp) ∧ ((256 < F.length ∧ k = 2 ∧ L = []) ∨ (F.length ≤ 256 ∧ k = 0 ∧ L = F)))
theorem form_one {P : Int → Int → Prop} {F G : List Rc} (h1 : Rg.Form P (F.map tp)) (h2 : Rg.Form P (G.map tp)) : F = G := tps_inj (Rg.form_unique h1 h2)
theorem form_congr {P Q : Int → Int → Prop} {l : List Rg.Rc} (h : Rg.Form P l) (hpq : ∀ x v, P x v ↔ Q x v) : Rg.Form Q l := by
  obtain ⟨bs, h1, h2, h3⟩ := h
  exact ⟨bs, h1, h2, fun x v => (h3 x v).trans (hpq x v)⟩
theorem Told.one {rl : Bool → Bool → Bool} {la lb : List Rc} {k k' : Int} {L L' : List Rc} (h1 : Told rl la lb k L) (h2 : Told rl la lb k' L') : k = k' ∧ L = L' := by
  rcases h1 with ⟨a1, a2, a3⟩ | ⟨a1, F, hF, a2⟩ <;> rcases h2 with ⟨b1, b2, b3⟩ | ⟨b1, G, hG, b2⟩
  · exact ⟨a2.trans b2.symm, a3.trans b3.symm⟩
  · exact absurd b1 a1
  · exact absurd a1 b1
  · obtain rfl := form_one hF hG
    rcases a2 with ⟨a2, a3, a4⟩ | ⟨a2, a3, a4⟩ <;> rcases b2 with ⟨b2, b3, b4⟩ | ⟨b2, b3, b4⟩
    · exact ⟨a3.trans b3.symm, a4.trans b4.symm⟩
    · omega
    · omega
    · exact ⟨a3.trans b3.symm, a4.trans b4.symm⟩
theorem Told.num {rl : Bool → Bool → Bool} {la lb : List Rc} {k : Int} {L : List Rc} (h : Told rl la lb k L) : k = 0 ∨ k = 2 ∨ k = 10 := by
  rcases h with ⟨a1, a2, _⟩ | ⟨_, F, _, ⟨_, a, _⟩ | ⟨_, a, _⟩⟩
  · subst a2
    unfold faultI at *
    split
    · exact .inr (.inl rfl)
    · split
      · exact .inr (.inr rfl)
      · exact .inl rfl
  · exact .inr (.inl a)
  · exact .inl a
theorem Told.len {rl : Bool → Bool → Bool} {la lb : List Rc} {k : Int} {L : List Rc} (h : Told rl la lb k L) : L.length ≤ 256 := by
  rcases h with ⟨_, _, rfl⟩ | ⟨_, F, _, ⟨_, _, rfl⟩ | ⟨a, _, rfl⟩⟩
  · simp
  · simp
  · exact a
/-- Sets that are answered of: not too many, all right. -/
def Ok (l : List Rc) : Prop := l.length ≤ 256 ∧ ∀ r ∈ l, badR r = false
theorem fault_iff (la lb : List Rc) : faultI la lb = 0 ↔ Ok la ∧ Ok lb := by
  unfold faultI Ok
  split
  · next h => exact ⟨fun e => (by cases e), fun h' => by omega⟩
  · next h =>
    split
    · next h2 =>
      refine ⟨fun e => (by cases e), fun h' => ?_⟩
      rw [List.any_eq_true, List.any_eq_true] at h2
      rcases h2 with ⟨r, h3, h4⟩ | ⟨r, h3, h4⟩
      · rw [h'.1.2 r h3] at h4; cases h4
      · rw [h'.2.2 r h3] at h4; cases h4
    · next h2 =>
      refine ⟨fun _ => ⟨⟨by omega, fun r hr => ?_⟩, ⟨by omega, fun r hr => ?_⟩⟩, fun _ => rfl⟩
      · cases hb : badR r with
        | false => rfl
        | true => exact absurd (.inl (List.any_eq_true.2 ⟨r, hr, hb⟩)) h2
      · cases hb : badR r with
        | false => rfl
        | true => exact absurd (.inr (List.any_eq_true.2 ⟨r, hr, hb⟩)) h2
theorem Told.zero {rl : Bool → Bool → Bool} {la lb : List Rc} {L : List Rc} (h : Told rl la lb 0 L) : Ok la ∧ Ok lb ∧ Rg.Form (takes rl la lb) (L.map tp) ∧ L.length ≤ 256 := by
  rcases h with ⟨a1, a2, _⟩ | ⟨a1, F, hF, ⟨_, a, _⟩ | ⟨a, _, rfl⟩⟩
  · exact absurd a2.symm a1
  · cases a
  · have := (fault_iff la lb).1 a1
    exact ⟨this.1, this.2, hF, a⟩
/-- Where the form is known, so is the answer. -/
theorem Told.known {rl : Bool → Bool → Bool} {la lb : List Rc} {k : Int} {L F : List Rc} (h : Told rl la lb k L) (ha : Ok la) (hb : Ok lb) (hF : Rg.Form (takes rl la lb) (F.map tp)) (hn : F.length ≤ 256) : k = 0 ∧ L = F :=
  h.one (.inr ⟨(fault_iff la lb).2 ⟨ha, hb⟩, F, hF, .inr ⟨hn, rfl, rfl⟩⟩)
/-- Whether a place is in a set. -/
def inS (l : List Rc) (x v : Int) : Bool := l.any (hasP x v)
theorem inS_rect {l : List Rc} (h : ∀ r ∈ l, badR r = false) (x v : Int) : Rg.inRect (l.map tp) x v = inS l x v := by
  rw [Bool.eq_iff_iff, Rg.inRect_iff]
  unfold inS
  rw [List.any_eq_true]
  constructor
  · rintro ⟨r, hr, h1, h2, h3, h4⟩
    obtain ⟨q, hq, rfl⟩ := List.mem_map.1 hr
    have hb := h q hq
    unfold badR at hb
    rw [Bool.not_eq_false', rightB_iff] at hb
    refine ⟨q, hq, ?_⟩
    unfold hasP hasB
    have he : emptyB q.x q.y q.w q.h = false := by rw [emptyB_iff]; dsimp only at h1 h2 h3 h4; omega
    rw [he, Bool.not_false, Bool.true_and, decide_eq_true_eq]
    exact ⟨h1, h2, h3, h4⟩
  · rintro ⟨q, hq, hh⟩
    unfold hasP hasB at hh
    rw [Bool.and_eq_true, decide_eq_true_eq] at hh
    exact ⟨tp q, List.mem_map.2 ⟨q, hq, rfl⟩, hh.2⟩
theorem takes_iff {rl : Bool → Bool → Bool} {la lb : List Rc} (ha : Ok la) (hb : Ok lb) (x v : Int) : takes rl la lb x v ↔ rl (inS la x v) (inS lb x v) = true := by
  unfold takes; rw [inS_rect ha.2, inS_rect hb.2]
/-- A place in a right rectangle is on the plane. -/
theorem inS_plane {l : List Rc} {x v : Int} (h : inS l x v = true) : -32768 ≤ x ∧ x ≤ 32767 ∧ -32768 ≤ v ∧ v ≤ 32767 := by
  unfold inS at h
  obtain ⟨q, _, hh⟩ := List.any_eq_true.1 h
  unfold hasP hasB at hh
  rw [Bool.and_eq_true, decide_eq_true_eq, Bool.not_eq_true', emptyB_iff] at hh
  omega
/-- What is in the one form, of what is on the plane. -/
theorem form_ok {P : Int → Int → Prop} {F : List Rc} (h : Rg.Form P (F.map tp)) (hP : ∀ x v, P x v → -32768 ≤ x ∧ x ≤ 32767 ∧ -32768 ≤ v ∧ v ≤ 32767) : ∀ r ∈ F, emptyB r.x r.y r.w r.h = false := by
  intro r hr
  have hpl : Rg.placed (tp r) = true := by
    obtain ⟨bs, h1, h2, _⟩ := h
    exact Rg.rects_pos h1 (tp r) (h2 ▸ List.mem_map.2 ⟨r, hr, rfl⟩)
  simp only [Rg.placed, Bool.and_eq_true, decide_eq_true_eq] at hpl
  have hin : ∀ x v, Rg.hasR (tp r) x v → P x v := fun x v hh => (h.has x v).1 ⟨tp r, List.mem_map.2 ⟨r, hr, rfl⟩, hh⟩
  have h1 := hP _ _ (hin r.x r.y ⟨Int.le_refl _, by dsimp only; omega, Int.le_refl _, by dsimp only; omega⟩)
  have h2 := hP _ _ (hin (r.x + r.w - 1) (r.y + r.h - 1) ⟨by dsimp only; omega, by dsimp only; omega, by dsimp only; omega, by dsimp only; omega⟩)
  rw [emptyB_iff]; omega
theorem bad_of_empty {r : Rc} (h : emptyB r.x r.y r.w r.h = false) : badR r = false := by
  unfold emptyB at h
  unfold badR
  cases hb : rightB r.x r.y r.w r.h with
  | true => rfl
  | false => rw [hb] at h; simp at h
theorem inS_nil (x v : Int) : inS [] x v = false := rfl
theorem inS_append (a b : List Rc) (x v : Int) : inS (a ++ b) x v = (inS a x v || inS b x v) := by unfold inS; rw [List.any_append]
theorem Ok.nil : Ok [] := ⟨by simp, fun r hr => by cases hr⟩
/-- What an answer without fault says: its rectangles have places, and these are the ones asked for. -/
structure Made (rl : Bool → Bool → Bool) (la lb F : List Rc) : Prop where
  a : Ok la
  b : Ok lb
  ok : Ok F
  full : ∀ r ∈ F, emptyB r.x r.y r.w r.h = false
  form : Rg.Form (fun x v => inS F x v = true) (F.map tp)
  has : ∀ x v, inS F x v = rl (inS la x v) (inS lb x v)
theorem Told.made {rl : Bool → Bool → Bool} (hr : rl false false = false) {la lb F : List Rc} (h : Told rl la lb 0 F) : Made rl la lb F := by
  obtain ⟨ha, hb, hF, hn⟩ := h.zero
  have hpl : ∀ x v, takes rl la lb x v → -32768 ≤ x ∧ x ≤ 32767 ∧ -32768 ≤ v ∧ v ≤ 32767 := by
    intro x v ht
    rw [takes_iff ha hb] at ht
    cases h1 : inS la x v with
    | true => exact inS_plane h1
    | false =>
      cases h2 : inS lb x v with
      | true => exact inS_plane h2
      | false => rw [h1, h2, hr] at ht; cases ht
  have hfull := form_ok hF hpl
  have hbad : ∀ r ∈ F, badR r = false := fun r hr' => bad_of_empty (hfull r hr')
  have hhas : ∀ x v, inS F x v = rl (inS la x v) (inS lb x v) := by
    intro x v
    rw [Bool.eq_iff_iff, ← inS_rect hbad, Rg.inRect_iff, hF.has, takes_iff ha hb]
  exact ⟨ha, hb, ⟨hn, hbad⟩, hfull, form_congr hF fun x v => by rw [takes_iff ha hb, hhas], hhas⟩
/-- The answer is told of the places alone. -/
theorem Told.same {rl rl' : Bool → Bool → Bool} {la lb la' lb' F : List Rc} {k : Int} {L : List Rc} (h : Told rl la lb k L) (ha : Ok la) (hb : Ok lb) (hF : Made rl' la' lb' F) (hs : ∀ x v, rl (inS la x v) (inS lb x v) = inS F x v) : k = 0 ∧ L = F :=
  h.known ha hb (form_congr hF.form fun x v => by rw [takes_iff ha hb, hs]) hF.ok.1
theorem Told.none {rl : Bool → Bool → Bool} {la lb : List Rc} {k : Int} {L : List Rc} (h : Told rl la lb k L) (ha : Ok la) (hb : Ok lb) (hs : ∀ x v, rl (inS la x v) (inS lb x v) = false) : k = 0 ∧ L = [] :=
  h.known ha hb ⟨[], trivial, rfl, fun x v => ⟨fun h' => absurd h' (Rg.not_inBands_nil _ _), fun h' => by rw [takes_iff ha hb, hs] at h'; cases h'⟩⟩ (by simp)
def rlU (a b : Bool) : Bool := a || b
def rlI (a b : Bool) : Bool := a && b
def rlS (a b : Bool) : Bool := a && !b
/-- Of the rectangles of a form no place is in two. -/
theorem Made.apart {rl : Bool → Bool → Bool} {la lb F : List Rc} (h : Made rl la lb F) {i : Nat} {r : Rc} (hr : F[i]? = some r) (x v : Int) : rlI (inS [r] x v) (inS (F.take i) x v) = false := by
  obtain ⟨bs, h1, h2, _⟩ := h.form
  have hd := Rg.rects_disjoint h1
  rw [← h2] at hd
  cases hc : rlI (inS [r] x v) (inS (F.take i) x v) with
  | false => rfl
  | true =>
    exfalso
    unfold rlI at hc
    rw [Bool.and_eq_true] at hc
    obtain ⟨c1, c2⟩ := hc
    unfold inS at c1 c2
    obtain ⟨q, hq, hq2⟩ := List.any_eq_true.1 c2
    rw [List.any_cons, List.any_nil, Bool.or_false] at c1
    obtain ⟨j, hj, rfl⟩ := List.getElem_of_mem hq
    rw [List.length_take] at hj
    rw [List.getElem_take] at hq2
    have hi := (List.getElem?_eq_some_iff.1 hr)
    obtain ⟨hi1, hi2⟩ := hi
    rw [List.pairwise_map] at hd
    have := (List.pairwise_iff_getElem.1 hd) j i (by omega) hi1 (by omega)
    rw [hi2] at this
    unfold hasP hasB at c1 hq2
    rw [Bool.and_eq_true, decide_eq_true_eq] at c1 hq2
    exact this x v ⟨hq2.2, c1.2⟩
/-- How many places a form has. -/
def areaL (l : List Rc) : Int := l.foldl (fun n r => n + areaI r.x r.y r.w r.h) 0
theorem areaL_from (l : List Rc) : ∀ n : Int, l.foldl (fun n r => n + areaI r.x r.y r.w r.h) n = n + areaL l := by
  induction l with
  | nil => intro n; simp [areaL]
  | cons r t ih => intro n; unfold areaL; rw [List.foldl_cons, List.foldl_cons, ih, ih (0 + _)]; omega
theorem areaL_sum {l : List Rc} (h : ∀ r ∈ l, emptyB r.x r.y r.w r.h = false) : areaL l = Rg.sumArea (l.map tp) := by
  induction l with
  | nil => rfl
  | cons r t ih =>
    have e : areaL (r :: t) = areaI r.x r.y r.w r.h + areaL t := by unfold areaL; rw [List.foldl_cons, areaL_from]; unfold areaL; omega
    rw [e, ih fun r' hr' => h r' (List.mem_cons_of_mem _ hr')]
    unfold Rg.sumArea areaI
    rw [h r (List.mem_cons_self ..), if_neg (by decide)]
    rfl
theorem Made.count {rl : Bool → Bool → Bool} {la lb F : List Rc} (h : Made rl la lb F) : areaL F = Rg.cnt (-32768) 65536 (inS F) := by
  rw [areaL_sum h.full]
  obtain ⟨bs, h1, h2, _⟩ := h.form
  have hpos : ∀ r ∈ F.map tp, Rg.placed r = true := fun r hr => Rg.rects_pos h1 r (h2 ▸ hr)
  rw [Rg.area_cnt (lo := -32768) (n := 65536) (F.map tp) (h2 ▸ Rg.rects_disjoint h1) hpos fun r hr => ?_]
  · refine Rg.cnt_congr fun x v => ?_
    rw [Bool.eq_iff_iff, Rg.inList_iff, ← inS_rect h.ok.2, Rg.inRect_iff]
  · obtain ⟨q, hq, rfl⟩ := List.mem_map.1 hr
    have := h.full q hq
    rw [emptyB_iff] at this
    unfold Rg.inBox
    dsimp only
    omega
theorem Made.counts {a b F la lb G H : List Rc} {rl : Bool → Bool → Bool} (hF : Made rlU a b F) (hG : Made rl la lb G) (hg : ∀ x v, inS G x v = inS a x v) (hH : Made rlS b a H) : areaL F = areaL G + areaL H := by
  rw [hF.count, hG.count, hH.count, ← Rg.cnt_or]
  · refine Rg.cnt_congr fun x v => ?_
    rw [hF.has, hg, hH.has]
    unfold rlU rlS
    cases inS a x v <;> cases inS b x v <;> rfl
  · intro x v
    rw [hg, hH.has]
    unfold rlS
    cases inS a x v <;> simp
theorem area_le {r : Rc} : 0 ≤ areaI r.x r.y r.w r.h ∧ areaI r.x r.y r.w r.h ≤ 4294967296 := by
  unfold areaI
  split
  · decide
  · next h =>
    have he : emptyB r.x r.y r.w r.h = false := by
      cases hx : emptyB r.x r.y r.w r.h
      · rfl
      · exact absurd hx h
    rw [emptyB_iff] at he
    have h1 : r.w ≤ 65536 := by omega
    have h2 : r.h ≤ 65536 := by omega
    refine ⟨Int.mul_nonneg (by omega) (by omega), ?_⟩
    calc r.w * r.h ≤ 65536 * 65536 := Int.mul_le_mul h1 h2 (by omega) (by decide)
      _ = 4294967296 := by decide
theorem areaL_snoc {rs : List Rc} {k : Nat} {r : Rc} (h : rs[k]? = some r) : areaL (rs.take (k + 1)) = areaL (rs.take k) + areaI r.x r.y r.w r.h := by
  rw [take_snoc_get h]; unfold areaL; rw [List.foldl_append]; rfl
theorem areaL_le (rs : List Rc) : ∀ k, 0 ≤ areaL (rs.take k) ∧ areaL (rs.take k) ≤ (k : Int) * 4294967296
  | 0 => by simp [areaL]
  | k + 1 => by
    obtain ⟨h1, h2⟩ := areaL_le rs k
    cases hk : rs[k]? with
    | none =>
      have := List.getElem?_eq_none_iff.1 hk
      rw [List.take_of_length_le (by omega)] at h1 h2
      rw [List.take_of_length_le (by omega)]
      push_cast; omega
    | some r =>
      rw [areaL_snoc hk]
      have := area_le (r := r)
      push_cast; omega
end Go.Proofs.Ytfabknabkcfpjaa
