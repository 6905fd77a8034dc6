/- What every display keeps (pure). -/
import Derived.Test.YtfdgpbdppenhmaaGreatSrC
namespace Go.Proofs.YtfdgpbdppenhmaaGreat
open Go.RowKit Go.Shelf Go.Maps
def inL (L : List Win) (i : Int) : Prop := ∃ v ∈ L, v.id = i
def inM (M : List Md) (i : Int) : Prop := ∃ m ∈ M, m.win = i
/-- But for the focus. -/
structure V0 (X : Xs) (k : Nat) : Prop where
  s : Sane X.R X.L k
  up : X.M.Pairwise (fun a b => a.win < b.win)
  same : ∀ i, inL X.L i ↔ inM X.M i
  own : ∀ m ∈ X.M, 0 ≤ m.own ∧ m.own ≤ 9223372036854775807 ∧ (m.sav = true → m.own ≠ 0)
  ev : X.E.length ≤ 4096
  h : Pp.HOk X.H
  hl : X.H.length ≤ k
  f64 : I64 X.F
structure V (X : Xs) (k : Nat) : Prop extends V0 X k where
  foc : X.F = 0 ∨ viewL X.R X.L X.F = true
theorem isL_iff (L : List Win) (i : Int) : isL L i = true ↔ i = 0 ∨ inL L i := by
  unfold isL
  rw [Bool.or_eq_true, beq_iff_eq]
  refine or_congr_right ?_
  constructor
  · intro h
    obtain ⟨j, hj⟩ := Option.isSome_iff_exists.1 h
    obtain ⟨v, h1, h2, _⟩ := placeN_get L j hj
    exact ⟨v, List.mem_of_getElem? h1, h2⟩
  · rintro ⟨v, hv, rfl⟩
    cases hp : placeN v.id L with
    | some j => rfl
    | none => exact absurd rfl (placeN_none L hp v hv)
theorem there_iff (R : RT) (L : List Win) (i : Int) : thereL R L i = true ↔ i = 0 ∨ inL L i := by rw [← isL_there, isL_iff]
theorem ask_iff (L : List Win) (i : Int) : askL L i = 0 ↔ i ≠ 0 ∧ inL L i := by
  unfold askL
  cases hi : isL L i with
  | false =>
    rw [if_pos rfl]
    have h : ¬ (i = 0 ∨ inL L i) := fun h => by rw [(isL_iff L i).2 h] at hi; cases hi
    constructor
    · intro e; omega
    · rintro ⟨-, h2⟩; exact absurd (.inr h2) h
  | true =>
    rw [if_neg (by simp)]
    have h := (isL_iff L i).1 hi
    by_cases h0 : i = 0
    · rw [if_pos h0]
      constructor
      · intro e; omega
      · rintro ⟨h1, -⟩; exact absurd h0 h1
    · rw [if_neg h0]
      rcases h with h | h
      · exact absurd h h0
      · exact ⟨fun _ => ⟨h0, h⟩, fun _ => rfl⟩
/-! ### who made a window -/
theorem mfind_in {M : List Md} (hu : M.Pairwise (fun a b => a.win < b.win)) {m : Md} (hm : m ∈ M) : findM m.win M = some m := by
  unfold findM
  induction M with
  | nil => cases hm
  | cons a t ih =>
    rw [List.pairwise_cons] at hu
    rw [List.find?_cons]
    rcases List.mem_cons.1 hm with rfl | hm
    · simp
    · have := hu.1 m hm
      rw [show decide (a.win = m.win) = false by simp; omega]
      exact ih hu.2 hm
theorem mfind_mem {M : List Md} {i : Int} {m : Md} (h : findM i M = some m) : m ∈ M ∧ m.win = i := by
  unfold findM at h
  exact ⟨List.mem_of_find?_eq_some h, by simpa using List.find?_some h⟩
theorem mfind_none {M : List Md} {i : Int} : findM i M = none ↔ ¬ inM M i := by
  unfold findM inM
  rw [List.find?_eq_none]
  constructor
  · rintro h ⟨m, hm, e⟩
    exact h m hm (by simpa using e)
  · intro h m hm e
    exact h ⟨m, hm, by simpa using e⟩
theorem mfind_some {M : List Md} {i : Int} (h : inM M i) : ∃ m, findM i M = some m ∧ m ∈ M ∧ m.win = i := by
  cases hf : findM i M with
  | none => exact absurd h (mfind_none.1 hf)
  | some m => exact ⟨m, rfl, mfind_mem hf⟩
theorem mfind_drop {M : List Md} (i j : Int) : findM j (dropM i M) = if j = i then none else findM j M := by
  split
  · next e =>
    subst e
    rw [mfind_none]
    rintro ⟨m, hm, e⟩
    unfold dropM at hm
    simp at hm
    exact hm.2 e
  · next hne =>
    unfold findM dropM
    induction M with
    | nil => rfl
    | cons a t ih =>
      rw [List.filter_cons, List.find?_cons]
      by_cases h1 : a.win = i
      · rw [if_neg (by simp [h1]), ih]
        have : ¬ a.win = j := fun e => hne (by omega)
        simp [this]
      · rw [if_pos (by simp [h1]), List.find?_cons]
        by_cases h2 : a.win = j
        · simp [h2]
        · simp only [h2, decide_false]; exact ih
theorem mfind_sav {M : List Md} (i j : Int) (on : Bool) : findM j (setSav i on M) = (findM j M).map (fun m => if m.win = i then ⟨m.win, m.own, on⟩ else m) := by
  unfold findM setSav
  rw [List.find?_map]
  have : ((fun m : Md => decide (m.win = j)) ∘ fun m : Md => if m.win = i then (⟨m.win, m.own, on⟩ : Md) else m) = fun m => decide (m.win = j) := by
    funext m
    simp only [Function.comp]
    split <;> rfl
  rw [this]
theorem mfind_snoc {M : List Md} (m : Md) (hn : ¬ inM M m.win) (j : Int) : findM j (M ++ [m]) = if j = m.win then some m else findM j M := by
  unfold findM
  rw [List.find?_append]
  split
  · next e =>
    subst e
    rw [show List.find? (fun m_1 : Md => decide (m_1.win = m.win)) M = none from mfind_none.2 hn]
    simp
  · next hne =>
    have : List.find? (fun m : Md => decide (m.win = j)) [m] = none := by
      rw [List.find?_cons]
      rw [show decide (m.win = j) = false by simp; omega]
      rfl
    rw [this]; simp
theorem own_none {M : List Md} {i : Int} (h : ¬ inM M i) : ownM i M = -1 := by unfold ownM; rw [mfind_none.2 h]
theorem own_of {M : List Md} {i : Int} {m : Md} (h : findM i M = some m) : ownM i M = m.own := by unfold ownM; rw [h]
theorem dropM_mem {M : List Md} {i : Int} {m : Md} : m ∈ dropM i M ↔ m ∈ M ∧ m.win ≠ i := by unfold dropM; simp
theorem sav_mem {M : List Md} {i : Int} {on : Bool} {m : Md} (h : m ∈ setSav i on M) : ∃ m0 ∈ M, m0.win = m.win ∧ m0.own = m.own ∧ (m.sav = m0.sav ∨ (m0.win = i ∧ m.sav = on)) := by
  unfold setSav at h
  obtain ⟨m0, h0, rfl⟩ := List.mem_map.1 h
  refine ⟨m0, h0, ?_⟩
  split
  · next e => exact ⟨rfl, rfl, .inr ⟨e, rfl⟩⟩
  · exact ⟨rfl, rfl, .inl rfl⟩
theorem inM_sav {M : List Md} (i : Int) (on : Bool) (j : Int) : inM (setSav i on M) j ↔ inM M j := by
  unfold inM setSav
  constructor
  · rintro ⟨m, hm, rfl⟩
    obtain ⟨m0, h0, rfl⟩ := List.mem_map.1 hm
    refine ⟨m0, h0, ?_⟩
    split <;> rfl
  · rintro ⟨m, hm, rfl⟩
    refine ⟨_, List.mem_map.2 ⟨m, hm, rfl⟩, ?_⟩
    split <;> rfl
theorem up_sav {M : List Md} (h : M.Pairwise (fun a b => a.win < b.win)) (i : Int) (on : Bool) : (setSav i on M).Pairwise (fun a b => a.win < b.win) := by
  unfold setSav
  rw [List.pairwise_map]
  refine h.imp fun {a b} hab => ?_
  split <;> split <;> exact hab
/-! ### the windows' numbers behind each call -/
theorem inL_put {f : Win → Win} (hf : ∀ v, (f v).id = v.id) (i : Int) (L : List Win) (j : Int) : inL (putW f i L) j ↔ inL L j := by
  unfold putW
  split
  · rfl
  · next q hq =>
    split
    · rfl
    · next v hv =>
      have hm : (L.set q (f v)).map (·.id) = L.map (·.id) := by
        rw [List.map_set, hf]
        obtain ⟨hl, he⟩ := List.getElem?_eq_some_iff.1 hv
        have : (L.map (·.id))[q]'(by simpa using hl) = v.id := by simp [he]
        rw [← this]
        exact List.set_getElem_self _
      have e : ∀ K : List Win, inL K j ↔ j ∈ K.map (·.id) := fun K => by unfold inL; rw [List.mem_map]
      rw [e, e, hm]
theorem find_id {i : Int} {L : List Win} {v : Win} (h : findL i L = some v) : v ∈ L ∧ v.id = i := by
  unfold findL at h
  cases hp : placeN i L with
  | none => rw [hp] at h; cases h
  | some k =>
    rw [hp] at h
    obtain ⟨u, h1, h2, _⟩ := placeN_get L k hp
    rw [show L[k]? = some v from h] at h1
    injection h1 with h1
    subst h1
    exact ⟨List.mem_of_getElem? h, h2⟩
theorem inL_drop (i : Int) (L : List Win) (j : Int) : inL (dropL i L) j ↔ inL L j ∧ j ≠ i := by
  unfold inL
  constructor
  · rintro ⟨v, hv, rfl⟩
    exact ⟨⟨v, (drop_mem.1 hv).1, rfl⟩, (drop_mem.1 hv).2⟩
  · rintro ⟨⟨v, hv, rfl⟩, hn⟩
    exact ⟨v, drop_mem.2 ⟨hv, hn⟩, rfl⟩
theorem inL_app (A B : List Win) (j : Int) : inL (A ++ B) j ↔ inL A j ∨ inL B j := by
  unfold inL
  constructor
  · rintro ⟨v, hv, e⟩
    rcases List.mem_append.1 hv with h | h
    · exact .inl ⟨v, h, e⟩
    · exact .inr ⟨v, h, e⟩
  · rintro (⟨v, hv, e⟩ | ⟨v, hv, e⟩)
    · exact ⟨v, List.mem_append_left _ hv, e⟩
    · exact ⟨v, List.mem_append_right _ hv, e⟩
theorem inL_one (v : Win) (j : Int) : inL [v] j ↔ j = v.id := by
  unfold inL
  constructor
  · rintro ⟨u, hu, rfl⟩; rw [List.mem_singleton.1 hu]
  · rintro rfl; exact ⟨v, List.mem_singleton.2 rfl, rfl⟩
theorem inL_map (on : Bool) (i : Int) (L : List Win) (j : Int) : inL (tMap on i L).1 j ↔ inL L j := by
  unfold tMap; split
  · rfl
  · exact inL_put (f := fun v => ⟨v.id, v.par, v.x, v.y, v.w, v.h, on⟩) (fun _ => rfl) i L j
theorem inL_conf (i x y a e : Int) (L : List Win) (j : Int) : inL (tConf i x y a e L).1 j ↔ inL L j := by
  unfold tConf; split
  · rfl
  · split
    · rfl
    · exact inL_put (f := fun v => ⟨v.id, v.par, x, y, a, e, v.on⟩) (fun _ => rfl) i L j
theorem back_in {i : Int} {L : List Win} {v : Win} (h : findL i L = some v) (j : Int) : (inL (dropL i L) j ∨ j = i) ↔ inL L j := by
  rw [inL_drop]
  obtain ⟨h1, h2⟩ := find_id h
  constructor
  · rintro (h | h)
    · exact h.1
    · rw [h]; exact ⟨v, h1, h2⟩
  · intro h
    by_cases e : j = i
    · exact .inr e
    · exact .inl ⟨h, e⟩
theorem inL_raise (i : Int) (L : List Win) (j : Int) : inL (tRaise i L).1 j ↔ inL L j := by
  unfold tRaise; split
  · rfl
  · dsimp only
    split
    · rfl
    · next v hv => rw [inL_app, inL_one, (find_id hv).2, back_in hv]
theorem inL_lower (i : Int) (L : List Win) (j : Int) : inL (tLower i L).1 j ↔ inL L j := by
  unfold tLower; split
  · rfl
  · dsimp only
    split
    · rfl
    · next v hv => rw [show v :: dropL i L = [v] ++ dropL i L from rfl, inL_app, inL_one, (find_id hv).2, Or.comm, back_in hv]
theorem inL_repar (R : RT) (i q x y : Int) (L : List Win) (j : Int) : inL (tRepar R i q x y L).1 j ↔ inL L j := by
  unfold tRepar
  split
  · rfl
  · split
    · rfl
    · split
      · rfl
      · split
        · rfl
        · next v hv =>
          split
          · rfl
          · dsimp only
            rw [inL_app, inL_one, back_in hv]
theorem inL_dropAll (gs : List Int) (L : List Win) (j : Int) : inL (dropAll gs L) j ↔ inL L j ∧ j ∉ gs := by
  unfold inL
  constructor
  · rintro ⟨v, hv, rfl⟩
    exact ⟨⟨v, ((dropAll_mem gs).1 hv).1, rfl⟩, ((dropAll_mem gs).1 hv).2⟩
  · rintro ⟨⟨v, hv, rfl⟩, hn⟩
    exact ⟨v, (dropAll_mem gs).2 ⟨hv, hn⟩, rfl⟩
/-! ### each call keeps it -/
section
variable {X : Xs} {k : Nat}
theorem V0.le (h : V0 X k) {m : Nat} (hk : k ≤ m) (hm : m ≤ 1000) : V0 X m := ⟨h.s.le hk hm, h.up, h.same, h.own, h.ev, h.h, Nat.le_trans h.hl hk, h.f64⟩
theorem V.le (h : V X k) {m : Nat} (hk : k ≤ m) (hm : m ≤ 1000) : V X m := ⟨h.toV0.le hk hm, h.foc⟩
theorem i64_zero : I64 0 := ⟨by decide, by decide⟩
theorem V0.look (h : V0 X k) : V X.look k := by
  unfold Xs.look
  split
  · exact ⟨⟨h.s, h.up, h.same, h.own, h.ev, h.h, h.hl, i64_zero⟩, .inl rfl⟩
  · next hn =>
    refine ⟨h, ?_⟩
    by_cases h0 : X.F = 0
    · exact .inl h0
    · refine .inr ?_
      cases hv : viewL X.R X.L X.F with
      | true => rfl
      | false => exact absurd ⟨h0, hv⟩ hn
theorem V0.tell (h : V0 X k) (e : Ev) : V0 (X.tell e) k := by
  unfold Xs.tell
  split
  · next hh => exact ⟨h.s, h.up, h.same, h.own, by simp; omega, h.h, h.hl, h.f64⟩
  · exact h
/-- The tree turned, but for its numbers. -/
theorem V0.tree (h : V0 X k) {R' : RT} {L' : List Win} (hs : Sane R' L' k) (hi : ∀ j, inL L' j ↔ inL X.L j) : V0 { X with R := R', L := L' } k :=
  ⟨hs, h.up, fun i => (hi i).trans (h.same i), h.own, h.ev, h.h, h.hl, h.f64⟩
theorem V0.props (h : V0 X k) (i : Int) (p : Pp.Pr) (hk : k + 1 ≤ 1000) : V0 { X with H := Pp.sH X.H i p } (k + 1) :=
  ⟨h.s.le (Nat.le_succ k) hk, h.up, h.same, h.own, h.ev, h.h.set i p, by
    have h1 := Pp.setR_len X.H (Pp.msH X.H) (Pp.nsH X.H) i p
    have h2 := h.hl
    show (Pp.setR X.H (Pp.msH X.H) (Pp.nsH X.H) i p).length ≤ k + 1
    omega, h.f64⟩
theorem V0.focus (h : V0 X k) {i : Int} (hi : I64 i) : V0 { X with F := i } k := ⟨h.s, h.up, h.same, h.own, h.ev, h.h, h.hl, hi⟩
theorem V0.manage (h : V0 X k) (b : Bool) : V0 { X with G := b } k := ⟨h.s, h.up, h.same, h.own, h.ev, h.h, h.hl, h.f64⟩
theorem V0.events (h : V0 X k) : V0 { X with E := [] } k := ⟨h.s, h.up, h.same, h.own, by simp, h.h, h.hl, h.f64⟩
theorem V0.setsav (h : V0 X k) {i : Int} {on : Bool} (ho : on = true → ownM i X.M ≠ 0) : V0 { X with M := setSav i on X.M } k := by
  refine ⟨h.s, up_sav h.up i on, fun j => (h.same j).trans (inM_sav i on j).symm, fun m hm => ?_, h.ev, h.h, h.hl, h.f64⟩
  obtain ⟨m0, h0, e1, e2, e3⟩ := sav_mem hm
  obtain ⟨o1, o2, o3⟩ := h.own m0 h0
  rw [← e2]
  refine ⟨o1, o2, fun hs => ?_⟩
  rcases e3 with e3 | ⟨e3, e4⟩
  · exact o3 (e3 ▸ hs)
  · have := ho (e4 ▸ hs)
    rw [own_of (by rw [← e3]; exact mfind_in h.up h0)] at this
    exact this
theorem V0.created (h : V0 X k) {R' : RT} {L' : List Win} {id actor : Int} (hs : Sane R' L' (k + 1)) (hL : L' = X.L ++ [⟨id, 0, 0, 0, 0, 0, false⟩] ∨ ∃ q x y a e, L' = X.L ++ [⟨id, q, x, y, a, e, false⟩]) (hid : X.R.last < id) (ha : 0 ≤ actor ∧ actor ≤ 9223372036854775807) : V0 { X with R := R', L := L', M := X.M ++ [⟨id, actor, false⟩] } (k + 1) := by
  have hin : ∀ j, inL L' j ↔ inL X.L j ∨ j = id := fun j => by
    rcases hL with rfl | ⟨q, x, y, a, e, rfl⟩ <;> rw [inL_app, inL_one]
  have hlt : ∀ m ∈ X.M, m.win < id := fun m hm => by
    obtain ⟨v, hv, e⟩ := (h.same m.win).2 ⟨m, hm, rfl⟩
    have := (h.s.pos v hv).2
    omega
  refine ⟨hs, ?_, fun j => ?_, fun m hm => ?_, h.ev, h.h, by have := h.hl; show X.H.length ≤ k + 1; omega, h.f64⟩
  · rw [List.pairwise_append]
    exact ⟨h.up, List.pairwise_singleton _ _, fun a hm b hb => by rw [List.mem_singleton.1 hb]; exact hlt a hm⟩
  · rw [hin, h.same]
    unfold inM
    constructor
    · rintro (⟨m, hm, e⟩ | e)
      · exact ⟨m, List.mem_append_left _ hm, e⟩
      · exact ⟨_, List.mem_append_right _ (List.mem_singleton.2 rfl), e.symm⟩
    · rintro ⟨m, hm, e⟩
      rcases List.mem_append.1 hm with h1 | h1
      · exact .inl ⟨m, h1, e⟩
      · rw [List.mem_singleton.1 h1] at e
        exact .inr e.symm
  · rcases List.mem_append.1 hm with h1 | h1
    · exact h.own m h1
    · rw [List.mem_singleton.1 h1]
      exact ⟨ha.1, ha.2, fun e => by cases e⟩
end
end Go.Proofs.YtfdgpbdppenhmaaGreat
