/- All windows by going from parents to kids (pure). -/
import Derived.Test.YtphmlfklmleafaaJay
namespace Go.Proofs.Ytphmlfklmleafaa
open Go.RowKit Go.Shelf
theorem split_at {xs : List Int} {i : Nat} {y : Int} (h : xs[i]? = some y) : xs = xs.take i ++ y :: xs.drop (i + 1) := by
  obtain ⟨hi, rfl⟩ := List.getElem?_eq_some_iff.1 h
  rw [← List.drop_eq_getElem_cons hi, List.take_append_drop]
theorem take_one {xs : List Int} {i : Nat} {y : Int} (h : xs[i]? = some y) : xs.take (i + 1) = xs.take i ++ [y] := by
  rw [List.take_add_one, h]; rfl
theorem not_before {xs : List Int} (hn : xs.Nodup) {i : Nat} {y : Int} (h : xs[i]? = some y) : y ∉ xs.take i := fun hm => by
  rw [split_at h] at hn
  exact (List.nodup_append.1 hn).2.2 y hm y (List.mem_cons_self ..) rfl
section
variable {R : RT} {L : List Win} {k : Nat}
/-- What is met when i parents were asked, and j kids of y. -/
structure Met (R : RT) (L : List Win) (xs : List Int) (i : Nat) (y : Int) (j : Nat) : Prop where
  here : xs[i]? = some y
  form : xs = 0 :: ((xs.take i).flatMap (kidsL L) ++ (kidsL L y).take j)
  nodup : xs.Nodup
  there : ∀ x ∈ xs, ∃ d, ndL R L x = some d
structure Out (R : RT) (L : List Win) (xs : List Int) (i : Nat) : Prop where
  form : xs = 0 :: (xs.take i).flatMap (kidsL L)
  nodup : xs.Nodup
  there : ∀ x ∈ xs, ∃ d, ndL R L x = some d
theorem Out.start : Out R L [0] 0 := ⟨rfl, List.nodup_cons.2 ⟨List.not_mem_nil, List.nodup_nil⟩, fun x hx => by rw [List.mem_singleton.1 hx]; exact ⟨_, nd_root⟩⟩
theorem Out.ask {xs : List Int} {i : Nat} (h : Out R L xs i) {y : Int} (hy : xs[i]? = some y) : Met R L xs i y 0 :=
  ⟨hy, by rw [List.take_zero, List.append_nil]; exact h.form, h.nodup, h.there⟩
theorem Met.fresh (g : Good R L) {xs : List Int} {i j : Nat} {y : Int} (h : Met R L xs i y j) {c : Int} (hc : (kidsL L y)[j]? = some c) : c ∉ xs := fun hm => by
  obtain ⟨v, hv, h1, h2, -⟩ := kid_of g (List.mem_of_getElem? hc)
  have h0 := (g.pos v hv).1
  rw [h.form] at hm
  rcases List.mem_cons.1 hm with hm | hm
  · omega
  · rcases List.mem_append.1 hm with hm | hm
    · obtain ⟨x, hx, hm⟩ := List.mem_flatMap.1 hm
      obtain ⟨u, hu, h3, h4, -⟩ := kid_of g hm
      have := same_id g.nodup hu hv (h3.trans h1.symm)
      subst this
      have hxy : x = y := h4.symm.trans h2
      subst hxy
      exact not_before h.nodup h.here hx
    · exact not_before (kids_nodup g y) hc hm
theorem Met.step (g : Good R L) {xs : List Int} {i j : Nat} {y : Int} (h : Met R L xs i y j) {c : Int} (hc : (kidsL L y)[j]? = some c) : Met R L (xs ++ [c]) i y (j + 1) := by
  have hi := (List.getElem?_eq_some_iff.1 h.here).1
  obtain ⟨v, hv, h1, h2, h3⟩ := kid_of g (List.mem_of_getElem? hc)
  refine ⟨by rw [List.getElem?_append_left hi]; exact h.here, ?_, ?_, fun x hx => ?_⟩
  · rw [List.take_append_of_le_length (by omega), take_one hc, ← List.append_assoc, ← List.cons_append, ← h.form]
  · refine List.nodup_append.2 ⟨h.nodup, List.nodup_cons.2 ⟨List.not_mem_nil, List.nodup_nil⟩, fun a ha b hb e => ?_⟩
    rw [List.mem_singleton.1 hb] at e
    subst e
    exact h.fresh g hc ha
  · rcases List.mem_append.1 hx with hx | hx
    · exact h.there x hx
    · rw [List.mem_singleton.1 hx]; exact ⟨_, h3⟩
theorem Met.out {xs : List Int} {i : Nat} {y : Int} (h : Met R L xs i y (kidsL L y).length) : Out R L xs (i + 1) :=
  ⟨by rw [take_one h.here, List.flatMap_append, List.flatMap_singleton]; have := h.form; rwa [List.take_length] at this, h.nodup, h.there⟩
theorem met_len (_g : Good R L) {xs : List Int} (hn : xs.Nodup) (ht : ∀ x ∈ xs, ∃ d, ndL R L x = some d) : xs.length ≤ L.length + 1 := by
  have h := nodup_le hn (b := 0 :: L.map (·.id)) (fun x hx => by
    obtain ⟨d, hd⟩ := ht x hx
    obtain ⟨h1, h2⟩ := getR_some (ndL_some hd).1
    rcases h2 with ⟨h2, _⟩ | ⟨_, h2⟩
    · rw [h2]; exact List.mem_cons_self ..
    · exact List.mem_cons_of_mem _ (List.mem_map.2 ⟨_, h2, h1⟩))
  simpa using h
theorem Out.all (g : Good R L) {xs : List Int} (h : Out R L xs xs.length) : xs.length = L.length + 1 := by
  have hf := h.form
  rw [List.take_length] at hf
  have hm : ∀ (m : Nat) (i : Int), Way (ndL R L) m i → i ∈ xs := fun m => by
    induction m with
    | zero => intro i hw; rw [hw.1, hf]; exact List.mem_cons_self ..
    | succ m ih =>
      rintro i ⟨hi, d, hd, hw⟩
      obtain ⟨h1, h2⟩ := getR_some (ndL_some hd).1
      rcases h2 with ⟨h2, _⟩ | ⟨_, h2⟩
      · exact absurd h2 hi
      · rw [hf]
        refine List.mem_cons_of_mem _ (List.mem_flatMap.2 ⟨_, ih _ hw, ?_⟩)
        rw [← h1]
        exact (kid_mem g h2 _).2 rfl
  have h1 := met_len g h.nodup h.there
  have h2 := nodup_le (a := 0 :: L.map (·.id)) (b := xs) (List.nodup_cons.2 ⟨fun h0 => by
    obtain ⟨u, hu, h3⟩ := List.mem_map.1 h0
    have := (g.pos u hu).1; omega, g.nodup⟩) (fun x hx => by
    rcases List.mem_cons.1 hx with rfl | hx
    · exact hm 0 0 root_way
    · obtain ⟨u, hu, rfl⟩ := List.mem_map.1 hx
      obtain ⟨m, hw⟩ := g.way u hu
      exact hm m _ hw)
  simp only [List.length_cons, List.length_map] at h2
  omega
end
end Go.Proofs.Ytphmlfklmleafaa
