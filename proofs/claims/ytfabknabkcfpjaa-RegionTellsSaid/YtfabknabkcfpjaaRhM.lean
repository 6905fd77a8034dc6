/- What combine keeps, without a program. -/
import Derived.Test.YtfabknabkcfpjaaRhI
import Derived.Test.YtfabknabkcfpjaaRhL
import Derived.Test.YtfabknabkcfpjaaRhH
namespace Go.Proofs.Ytfabknabkcfpjaa
open Go.RowKit Go.Shelf
/-- How high a run is. -/
def okH (r : Rc) : Prop := 0 ≤ r.h ∧ r.h ≤ 65536
theorem okH_between (a b c d : Int) : okH (betweenR a b c d) := by
  unfold betweenR okH
  split
  · dsimp only; omega
  · unfold zeroR; dsimp only; omega
theorem okH_hull {a r : Rc} (ha : okH a) (hr : okH r) : okH (hullOf a r) := by
  unfold hullOf hullR
  split
  · split
    · unfold zeroR okH; dsimp only; omega
    · exact hr
  · split
    · exact ha
    · exact okH_between _ _ _ _
theorem okH_ext {rs : List Rc} {x : Rc} (h : ∀ r ∈ rs, okH r) (hx : okH x) : ∀ r ∈ extR rs x, okH r := by
  unfold extR
  split
  · exact h
  · cases hl : rs.getLast? with
    | none => intro r hr; rw [List.mem_singleton.1 hr]; exact hx
    | some a =>
      have ha := h a (List.mem_of_getLast? hl)
      dsimp only
      split
      · intro r hr
        rcases List.mem_append.1 hr with k | k
        · exact h r k
        · rw [List.mem_singleton.1 k]; exact hx
      · intro r hr
        rcases List.mem_append.1 hr with k | k
        · exact h r (List.dropLast_subset _ k)
        · rw [List.mem_singleton.1 k]; exact okH_hull ha hx
theorem okH_fold {rl : Bool → Bool → Bool} {top bottom : Int} (ds : List Sd) : ∀ t : Bd, (∀ r ∈ t.runs, okH r) → ∀ r ∈ (ds.foldl (bandStep rl top bottom) t).runs, okH r := by
  induction ds with
  | nil => exact fun t h => h
  | cons d l ih =>
    intro t h
    rw [List.foldl_cons]
    refine ih _ ?_
    unfold bandStep
    split
    · exact h
    · dsimp only
      split
      · exact okH_ext h (okH_between _ _ _ _)
      · exact h
theorem okH_band (rl : Bool → Bool → Bool) (top bottom : Int) (ds : List Sd) : ∀ r ∈ (bandOf rl top bottom ds).runs, okH r := okH_fold ds _ (fun r hr => by simp at hr)
theorem band_len {rl : Bool → Bool → Bool} {top bottom : Int} {ds : List Sd} (hd : ∀ d ∈ ds, okS d) : (bandOf rl top bottom ds).runs.length ≤ ds.length := by
  have h := (ok_band (rl := rl) (top := top) (bottom := bottom) hd ds.length (Nat.le_refl _)).2.1
  rwa [List.take_length] at h
/-- A side is right, and ends in the plane. -/
theorem sides_ok {k : Nat} {la : List Rc} (hk : k ≤ 1) (h : ∀ r ∈ la, badR r = false) : ∀ d ∈ sidesK k la, okS d ∧ d.r.y + d.r.h ≤ 32768 := by
  intro d hd
  unfold sidesK at hd
  obtain ⟨r, hr, hdr⟩ := List.mem_flatMap.1 hd
  have hb := h r hr
  unfold badR rightB planeB at hb
  simp only [Bool.not_eq_false', Bool.and_eq_true, decide_eq_true_eq] at hb
  unfold sidesR at hdr
  split at hdr
  · simp at hdr
  · simp only [List.mem_cons, List.not_mem_nil, or_false] at hdr
    rcases hdr with rfl | rfl
    · refine ⟨⟨.inl rfl, hk, ?_, ?_⟩, ?_⟩ <;> dsimp only <;> omega
    · refine ⟨⟨.inr rfl, hk, ?_, ?_⟩, ?_⟩ <;> dsimp only <;> omega
theorem cuts_ok {ds : List Sd} (h : ∀ d ∈ ds, okS d ∧ d.r.y + d.r.h ≤ 32768) : ∀ y ∈ cutsL ds, -32768 ≤ y ∧ y ≤ 32768 := by
  intro y hy
  unfold cutsL at hy
  obtain ⟨d, hd, hy⟩ := List.mem_flatMap.1 hy
  obtain ⟨⟨_, _, h1, h2⟩, h3⟩ := h d hd
  simp only [List.mem_cons, List.not_mem_nil, or_false] at hy
  rcases hy with rfl | rfl <;> omega
theorem hUp_mem {rs : List Rc} {last : Nat} {runs : List Rc} : ∀ (i : Nat) (r : Rc), r ∈ hUp rs last runs i → r ∈ rs ∨ ∃ a ∈ rs, ∃ b ∈ runs, r = upR a b.h
  | 0, r, h => .inl h
  | i + 1, r, h => by
    unfold hUp at h
    split at h
    · next a b h1 h2 =>
      rcases List.mem_or_eq_of_mem_set h with h | h
      · exact hUp_mem i r h
      · exact .inr ⟨a, List.mem_of_getElem? h1, b, List.mem_of_getElem? h2, h⟩
    · exact hUp_mem i r h
/-- The form so far. -/
structure Fr where
  rs : List Rc
  last : Nat
def bandAt (rl : Bool → Bool → Bool) (ds : List Sd) (ys : List Int) (j : Nat) : List Rc :=
  match ys[j]?, ys[j + 1]? with
  | some a, some b => (bandOf rl a b ds).runs
  | _, _ => []
theorem bandAt_some {rl : Bool → Bool → Bool} {ds : List Sd} {ys : List Int} {j : Nat} {a b : Int} (h1 : ys[j]? = some a) (h2 : ys[j + 1]? = some b) : bandAt rl ds ys j = (bandOf rl a b ds).runs := by
  unfold bandAt; rw [h1, h2]
def cmbF (rl : Bool → Bool → Bool) (ds : List Sd) (ys : List Int) : Nat → Fr
  | 0 => ⟨[], 0⟩
  | j + 1 => ⟨layR (cmbF rl ds ys j).rs (cmbF rl ds ys j).last (bandAt rl ds ys j), layL (cmbF rl ds ys j).rs (cmbF rl ds ys j).last (bandAt rl ds ys j)⟩
theorem okH_at (rl : Bool → Bool → Bool) (ds : List Sd) (ys : List Int) (j : Nat) : ∀ r ∈ bandAt rl ds ys j, okH r := by
  unfold bandAt
  split
  · exact okH_band _ _ _ _
  · intro r hr; simp at hr
theorem lay_len (rs : List Rc) (last : Nat) (runs : List Rc) : rs.length ≤ (layR rs last runs).length := by
  unfold layR
  split
  · rw [hUp_len]; exact Nat.le_refl _
  · rw [List.length_append]; omega
theorem cmb_len (rl : Bool → Bool → Bool) (ds : List Sd) (ys : List Int) (j : Nat) : ∀ k, (cmbF rl ds ys j).rs.length ≤ (cmbF rl ds ys (j + k)).rs.length
  | 0 => Nat.le_refl _
  | k + 1 => Nat.le_trans (cmb_len rl ds ys j k) (lay_len _ _ _)
theorem cmb_high (rl : Bool → Bool → Bool) (ds : List Sd) (ys : List Int) : ∀ (j : Nat), ∀ r ∈ (cmbF rl ds ys j).rs, 0 ≤ r.h ∧ r.h ≤ (j + 1 : Int) * 65536
  | 0, r, h => by simp [cmbF] at h
  | j + 1, r, h => by
    have ih := cmb_high rl ds ys j
    have hb := okH_at rl ds ys j
    unfold cmbF layR at h
    dsimp only at h
    split at h
    · rcases hUp_mem _ r h with h | ⟨a, ha, b, hb', rfl⟩
      · have := ih r h; push_cast; omega
      · have h1 := ih a ha
        have h2 := hb b hb'
        unfold okH at h2
        unfold upR
        push_cast; omega
    · rcases List.mem_append.1 h with h | h
      · have := ih r h; push_cast; omega
      · have h2 := hb r h
        unfold okH at h2
        push_cast; omega
end Go.Proofs.Ytfabknabkcfpjaa
