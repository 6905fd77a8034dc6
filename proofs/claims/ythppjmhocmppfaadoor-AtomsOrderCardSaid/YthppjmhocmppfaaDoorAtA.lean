/- What words say: lists of bytes alone. -/
import Derived.Test.YthppjmhocmppfaaDoorPrV
import Derived.Lib.SlicesCompact
namespace Go.Proofs.YthppjmhocmppfaaDoor
namespace At
open Go.Lib
abbrev Wd := List UInt8
def kAbove : Wd := [97, 98, 111, 118, 101]
def kBelow : Wd := [98, 101, 108, 111, 119]
def kFull : Wd := [102, 117, 108, 108]
def kHidden : Wd := [104, 105, 100, 100, 101, 110]
def kModal : Wd := [109, 111, 100, 97, 108]
def kDialog : Wd := [100, 105, 97, 108, 111, 103]
def kDock : Wd := [100, 111, 99, 107]
def kNormal : Wd := [110, 111, 114, 109, 97, 108]
def kSplash : Wd := [115, 112, 108, 97, 115, 104]
def kUtility : Wd := [117, 116, 105, 108, 105, 116, 121]
def kDelete : Wd := [100, 101, 108, 101, 116, 101]
def stK : List Wd := [kAbove, kBelow, kFull, kHidden, kModal]
def kdK : List Wd := [kDialog, kDock, kNormal, kSplash, kUtility]
def isSt (w : Wd) : Bool := decide (w ∈ stK)
def isKd (w : Wd) : Bool := decide (w ∈ kdK)
/-- The states among words, rising, each once. -/
def statesL (L : List Wd) : List Wd := stK.filter fun k => decide (k ∈ L)
/-- The first kind among words. -/
def kindL (L : List Wd) : Wd := (L.find? isKd).getD kNormal
def leW (a b : Wd) : Bool := decide (a ≤ b)
theorem leW_tr : ∀ a b c : Wd, leW a b = true → leW b c = true → leW a c = true := fun a b c h1 h2 => by simp only [leW, decide_eq_true_eq] at *; exact List.le_trans h1 h2
theorem leW_to : ∀ a b : Wd, (leW a b || leW b a) = true := fun a b => by simp only [leW, Bool.or_eq_true, decide_eq_true_eq]; exact List.le_total a b
theorem lt_of_le_ne {a b : Wd} (h : a ≤ b) (hne : a ≠ b) : a < b := by
  apply Classical.byContradiction
  intro h2
  exact hne (List.le_antisymm h (List.not_lt.1 h2))
theorem comp_mem (d : Array Wd) : ∀ (m : Nat) (x : Wd), x ∈ compactUpTo d m ↔ ∃ j, j < m ∧ d[j]! = x
  | 0, x => by
    constructor
    · intro h; simp [compactUpTo] at h
    · rintro ⟨j, hj, _⟩; omega
  | m + 1, x => by
    rw [compactUpTo_succ, List.mem_append, comp_mem d m x]
    constructor
    · rintro (⟨j, hj, e⟩ | h)
      · exact ⟨j, by omega, e⟩
      · split at h
        · rw [List.mem_singleton] at h; exact ⟨m, by omega, h.symm⟩
        · cases h
    · rintro ⟨j, hj, e⟩
      by_cases hjm : j < m
      · exact .inl ⟨j, hjm, e⟩
      · have hj' : j = m := by omega
        subst hj'
        by_cases hk : keeps d j = true
        · right; rw [if_pos hk, List.mem_singleton]; exact e.symm
        · left
          have h2 : ¬ (j = 0 ∨ d[j]! ≠ d[j - 1]!) := by simpa [keeps] using hk
          have h3 : j ≠ 0 := fun h => h2 (.inl h)
          have h4 : d[j]! = d[j - 1]! := Classical.byContradiction fun h => h2 (.inr h)
          exact ⟨j - 1, by omega, h4 ▸ e⟩
theorem comp_up (d : Array Wd) (hs : ∀ i j, i ≤ j → j < d.size → d[i]! ≤ d[j]!) : ∀ m, m ≤ d.size → (compactUpTo d m).Pairwise (· < ·)
  | 0, _ => by simp [compactUpTo]
  | m + 1, hm => by
    rw [compactUpTo_succ]
    have ih := comp_up d hs m (by omega)
    split
    · rename_i hk
      rw [List.pairwise_append]
      refine ⟨ih, List.pairwise_singleton _ _, fun x hx y hy => ?_⟩
      rw [List.mem_singleton] at hy
      subst hy
      obtain ⟨j, hj, rfl⟩ := (comp_mem d m x).1 hx
      have hk' : m = 0 ∨ d[m]! ≠ d[m - 1]! := by simpa [keeps] using hk
      have h0 : d[m - 1]! < d[m]! := lt_of_le_ne (hs (m - 1) m (by omega) (by omega)) (fun e => by rcases hk' with h | h; omega; exact h e.symm)
      exact List.lt_of_le_of_lt (hs j (m - 1) (by omega) (by omega)) h0
    · rw [List.append_nil]; exact ih
/-- Two rising lists of the same members are one. -/
theorem up_same : ∀ {a b : List Wd}, a.Pairwise (· < ·) → b.Pairwise (· < ·) → (∀ x, x ∈ a ↔ x ∈ b) → a = b
  | [], [], _, _, _ => rfl
  | [], y :: b, _, _, h => by have := (h y).2 (by simp); cases this
  | x :: a, [], _, _, h => by have := (h x).1 (by simp); cases this
  | x :: a, y :: b, ha, hb, h => by
    rw [List.pairwise_cons] at ha hb
    have hxy : x = y := by
      apply Classical.byContradiction
      intro hne
      have h1 : x ∈ b := by
        rcases List.mem_cons.1 ((h x).1 (by simp)) with e | e
        · exact absurd e hne
        · exact e
      have h2 : y ∈ a := by
        rcases List.mem_cons.1 ((h y).2 (by simp)) with e | e
        · exact absurd e.symm hne
        · exact e
      exact List.lt_asymm (ha.1 y h2) (hb.1 x h1)
    subst hxy
    have hne : ∀ z ∈ a, z ≠ x := fun z hz e => List.lt_irrefl _ (e ▸ ha.1 z hz)
    have hne' : ∀ z ∈ b, z ≠ x := fun z hz e => List.lt_irrefl _ (e ▸ hb.1 z hz)
    rw [up_same ha.2 hb.2 fun z => ?_]
    constructor
    · intro hz
      rcases List.mem_cons.1 ((h z).1 (List.mem_cons_of_mem _ hz)) with e | e
      · exact absurd e (hne z hz)
      · exact e
    · intro hz
      rcases List.mem_cons.1 ((h z).2 (List.mem_cons_of_mem _ hz)) with e | e
      · exact absurd e (hne' z hz)
      · exact e
theorem stK_up : stK.Pairwise (· < ·) := by decide
theorem states_up (L : List Wd) : (statesL L).Pairwise (· < ·) := stK_up.filter _
/-- What the code answers: of the words that are states, sorted, each once. -/
theorem states_code (L : List Wd) : compact ((L.filter isSt).mergeSort leW) = statesL L := by
  obtain ⟨S, hS⟩ : ∃ S, S = (L.filter isSt).mergeSort leW := ⟨_, rfl⟩
  rw [← hS]
  have hp : S.Pairwise (fun a b => leW a b = true) := by rw [hS]; exact List.pairwise_mergeSort leW_tr leW_to _
  have hm : ∀ x, x ∈ S ↔ x ∈ L ∧ isSt x = true := fun x => by rw [hS, List.mem_mergeSort, List.mem_filter]
  have hs : ∀ i j, i ≤ j → j < S.toArray.size → S.toArray[i]! ≤ S.toArray[j]! := by
    intro i j hij hj
    have hj' : j < S.length := by simpa using hj
    rw [getElem!_pos S.toArray i (by simp; omega), getElem!_pos S.toArray j hj]
    simp only [List.getElem_toArray]
    rcases Nat.lt_or_eq_of_le hij with h | h
    · have := List.pairwise_iff_getElem.1 hp i j (by omega) hj' h
      simpa [leW] using this
    · subst h; exact List.le_refl _
  unfold compact
  refine up_same (comp_up S.toArray hs S.length (by simp)) (states_up L) fun x => ?_
  rw [comp_mem]
  unfold statesL
  rw [List.mem_filter, decide_eq_true_eq]
  have e1 : (∃ j, j < S.length ∧ S.toArray[j]! = x) ↔ x ∈ S := by
    rw [List.mem_iff_getElem]
    constructor
    · rintro ⟨j, hj, e⟩
      rw [getElem!_pos S.toArray j (by simpa using hj)] at e
      exact ⟨j, hj, by simpa using e⟩
    · rintro ⟨j, hj, e⟩
      refine ⟨j, hj, ?_⟩
      rw [getElem!_pos S.toArray j (by simpa using hj)]
      simpa using e
  rw [e1, hm]
  unfold isSt
  rw [decide_eq_true_eq]
  exact ⟨fun h => ⟨h.2, h.1⟩, fun h => ⟨h.2, h.1⟩⟩
/-- The order of words, and how often one stands there, change nothing. -/
theorem states_mem {L M : List Wd} (h : ∀ x, x ∈ L ↔ x ∈ M) : statesL L = statesL M := by
  unfold statesL
  congr 1
  funext k
  rw [decide_eq_decide]
  exact h k
theorem states_len (L : List Wd) : (statesL L).length ≤ 5 := by
  have := List.length_filter_le (fun k => decide (k ∈ L)) stK
  exact this
/-- Words written one behind the other, a byte 0 behind each. -/
def flatW (L : List Wd) : Wd := L.flatMap (· ++ [0])
theorem cut_word : ∀ (t : Wd) (i : List Wd) (c : Wd), (∀ b ∈ t, b ≠ 0) → t.foldl cutF (i, c) = (i, c ++ t)
  | [], i, c, _ => by simp
  | b :: t, i, c, h => by
    rw [List.foldl_cons, show cutF (i, c) b = (i, c ++ [b]) from if_neg (h b (by simp)), cut_word t i (c ++ [b]) fun x hx => h x (by simp [hx])]
    simp
theorem cut_flat : ∀ (L : List Wd) (i : List Wd), (∀ t ∈ L, ∀ b ∈ t, b ≠ 0) → (flatW L).foldl cutF (i, []) = (i ++ L, [])
  | [], i, _ => by simp [flatW]
  | t :: L, i, h => by
    unfold flatW
    rw [List.flatMap_cons, List.foldl_append, List.foldl_append, cut_word t i [] (h t (by simp))]
    have := cut_flat L (i ++ [t]) fun u hu => h u (by simp [hu])
    unfold flatW at this
    simp only [List.nil_append, List.foldl_cons, List.foldl_nil]
    rw [show cutF (i, t) 0 = (i ++ [t], []) from rfl, this]
    simp
theorem cut_words {L : List Wd} (h : ∀ t ∈ L, ∀ b ∈ t, b ≠ 0) : cutAll (flatW L) = (L, []) := by
  unfold cutAll
  rw [cut_flat L [] h]
  simp
theorem flatW_snoc (L : List Wd) (t : Wd) : flatW (L ++ [t]) = flatW L ++ t ++ [0] := by unfold flatW; simp
/-- Words of a text: those that it is cut into, if nothing is left. -/
def wordsL (s : ByteArray) : List Wd := if (cutAll s.data.toList).2 = [] then (cutAll s.data.toList).1 else []
end At
end Go.Proofs.YthppjmhocmppfaaDoor
