/- Pure: the document's List is the sorted one. -/
import Derived.Test.YtfflgkbemfichaaDoorPsF
import Derived.Test.YtfflgkbemfichaaDoorPsG
namespace Go.Proofs.YtfflgkbemfichaaDoor
open Go.Sort
abbrev nm (p : Pr) : List UInt8 := p.name.data.toList
theorem txt_nm (p : Pr) : txt (nm p) = p.name := by
  apply ByteArray.ext
  simp
def insP (p : Pr) : List Pr → List Pr
  | [] => [p]
  | x :: t => if nm x < nm p then x :: insP p t else p :: x :: t
def listR (R : List Hd) (i : Int) : List Pr := R.foldl (fun out h => if h.win = i then insP h.p out else out) []
theorem listR_snoc (R : List Hd) (h : Hd) (i : Int) : listR (R ++ [h]) i = if h.win = i then insP h.p (listR R i) else listR R i := by
  unfold listR
  rw [List.foldl_append]; rfl
theorem ins_perm (p : Pr) : ∀ l, (insP p l).Perm (p :: l)
  | [] => .refl _
  | x :: t => by
    unfold insP
    split
    · exact ((ins_perm p t).cons x).trans (List.Perm.swap p x t)
    · exact .refl _
theorem ins_len (p : Pr) (l : List Pr) : (insP p l).length = l.length + 1 := by rw [(ins_perm p l).length_eq]; rfl
theorem ins_up (p : Pr) : ∀ l : List Pr, l.Pairwise (fun a b => leB (nm a) (nm b) = true) → (insP p l).Pairwise (fun a b => leB (nm a) (nm b) = true)
  | [], _ => by simp [insP]
  | x :: t, h => by
    obtain ⟨h1, h2⟩ := List.pairwise_cons.1 h
    unfold insP
    split
    · next hx =>
      refine List.pairwise_cons.2 ⟨fun y hy => ?_, ins_up p t h2⟩
      rcases List.mem_cons.1 ((ins_perm p t).mem_iff.1 hy) with rfl | hy
      · simp only [leB, decide_eq_true_eq]; exact List.le_of_lt hx
      · exact h1 y hy
    · next hx =>
      have hpx : leB (nm p) (nm x) = true := by simp only [leB, decide_eq_true_eq]; exact List.not_lt.1 hx
      refine List.pairwise_cons.2 ⟨fun y hy => ?_, h⟩
      rcases List.mem_cons.1 hy with rfl | hy
      · exact hpx
      · exact tr_leB _ _ _ hpx (h1 y hy)
theorem ins_at {p : Pr} : ∀ (i : Nat) (l : List Pr), i ≤ l.length → (∀ j x, j < i → l[j]? = some x → nm x < nm p) → (∀ x, l[i]? = some x → ¬ nm x < nm p) → insP p l = l.take i ++ [p] ++ l.drop i
  | 0, [], _, _, _ => rfl
  | 0, x :: t, _, _, h => by
    unfold insP
    rw [if_neg (h x rfl)]; rfl
  | i + 1, [], h, _, _ => by simp at h
  | i + 1, x :: t, h, hl, hg => by
    unfold insP
    rw [if_pos (hl 0 x (by omega) rfl), ins_at i t (by simpa using h) (fun j y hj hy => hl (j + 1) y (by omega) (by simpa using hy)) (fun y hy => hg y (by simpa using hy))]
    rfl
theorem snoc_ind {α : Type} {P : List α → Prop} (h0 : P []) (h1 : ∀ l x, P l → P (l ++ [x])) (l : List α) : P l := by
  have key : ∀ r : List α, P r.reverse := fun r => by
    induction r with
    | nil => exact h0
    | cons x t ih => rw [List.reverse_cons]; exact h1 _ _ ih
  have := key l.reverse
  rwa [List.reverse_reverse] at this
theorem listR_perm (i : Int) : ∀ R : List Hd, (listR R i).Perm (((R.filter (fun h => decide (h.win = i))).map Hd.p).reverse) := by
  intro R
  refine snoc_ind (P := fun R => (listR R i).Perm (((R.filter (fun h => decide (h.win = i))).map Hd.p).reverse)) (List.Perm.refl _) (fun R h ih => ?_) R
  · skip
    rw [listR_snoc, List.filter_append, List.map_append, List.reverse_append]
    by_cases hw : h.win = i
    · rw [if_pos hw]
      simp only [hw, decide_true, List.filter_cons_of_pos, List.filter_nil, List.map_cons, List.map_nil, List.reverse_singleton]
      exact (ins_perm _ _).trans (ih.cons _)
    · rw [if_neg hw]
      simpa [hw] using ih
theorem listR_up (i : Int) : ∀ R : List Hd, (listR R i).Pairwise (fun a b => leB (nm a) (nm b) = true) := by
  intro R
  refine snoc_ind (P := fun R => (listR R i).Pairwise (fun a b => leB (nm a) (nm b) = true)) List.Pairwise.nil (fun R h ih => ?_) R
  · skip
    rw [listR_snoc]
    split
    · exact ins_up _ _ ih
    · exact ih
theorem listR_len (R : List Hd) (i : Int) : (listR R i).length = (R.filter (fun h => decide (h.win = i))).length := by
  rw [(listR_perm i R).length_eq]; simp
section
variable {R : List Hd} {ms : Int → ByteArray → Option Pr} {ns : Int → Nat}
theorem Inv.list (h : Inv R ms ns) (i : Int) {ss : List (List UInt8)} (hs : Names (ms i) ss) (hbig : ∀ s p, ms i s = some p → s.size ≤ maxLen) : propsOf (ms i) ss = listR R i := by
  have hmem : ∀ p, p ∈ listR R i ↔ (⟨i, p⟩ : Hd) ∈ R := fun p => by
    rw [(listR_perm i R).mem_iff, List.mem_reverse, List.mem_map]
    constructor
    · rintro ⟨x, hx, rfl⟩
      obtain ⟨h1, h2⟩ := List.mem_filter.1 hx
      obtain ⟨xw, xp⟩ := x
      have : xw = i := by simpa using h2
      subst this; exact h1
    · intro hx
      exact ⟨_, List.mem_filter.2 ⟨hx, by simp⟩, rfl⟩
  have hnd : ((listR R i).map nm).Nodup := by
    have h1 : ((((R.filter (fun h => decide (h.win = i))).map Hd.p).reverse).map nm).Nodup := by
      rw [List.map_reverse, (List.reverse_perm _).nodup_iff, List.map_map]
      refine List.pairwise_map.2 ?_
      rw [List.pairwise_iff_getElem]
      intro j k hj hk hjk e
      have hok := h.ok.filter (fun h => decide (h.win = i))
      have w1 := (List.mem_filter.1 (List.getElem_mem hj)).2
      have w2 := (List.mem_filter.1 (List.getElem_mem hk)).2
      have := hok j k _ _ (List.getElem?_eq_getElem hj) (List.getElem?_eq_getElem hk) ((of_decide_eq_true w1).trans (of_decide_eq_true w2).symm) (bytes_eq e)
      omega
    exact ((listR_perm i R).map nm).nodup_iff.2 h1
  have hss : ss = (listR R i).map nm := by
    refine List.Perm.eq_of_pairwise (le := fun a b => leB a b = true) (fun a b _ _ h1 h2 => ?_) hs.up (List.pairwise_map.2 (listR_up i R)) ((List.perm_ext_iff_of_nodup hs.once hnd).2 fun x => ?_)
    · simp only [leB, decide_eq_true_eq] at h1 h2
      exact List.le_antisymm h1 h2
    · rw [hs.mem x, List.mem_map]
      constructor
      · rintro ⟨-, hx⟩
        obtain ⟨p, hp⟩ := Option.isSome_iff_exists.1 hx
        obtain ⟨h1, h2⟩ := (h.mem i _ p).1 hp
        exact ⟨p, (hmem p).2 h1, by show p.name.data.toList = x; rw [h2]⟩
      · rintro ⟨p, hp, rfl⟩
        have h1 := (h.mem i p.name p).2 ⟨(hmem p).1 hp, rfl⟩
        rw [txt_nm, h1]
        exact ⟨hbig _ _ h1, rfl⟩
  rw [hss]
  unfold propsOf
  rw [List.map_map]
  conv => rhs; rw [← List.map_id (listR R i)]
  apply List.map_congr_left
  intro p hp
  have h1 := (h.mem i p.name p).2 ⟨(hmem p).1 hp, rfl⟩
  show ((ms i (txt (nm p))).getD noP) = p
  rw [txt_nm, h1]; rfl
end
end Go.Proofs.YtfflgkbemfichaaDoor
