/- What a good list of windows is, and what follows of it (pure). What the list's changes make of the tree (pure). What Configure, Map and Create make of the tree (pure). The reference's tree: Under. The reference's tree: All, Ints. -/
import Derived.Test.YtphmlfklmleafaaJao
import Derived.Test.YtphmlfklmleafaaJal
import Derived.Test.YtphmlfklmleafaaJan
import Derived.Deep.AppendLies
import Derived.Deep.RegionHeld3
import Derived.Deep.RegionLaw
import Derived.BigQuiet
section
namespace Go.Proofs.Ytphmlfklmleafaa
open Go.RowKit Go.Shelf
/-- Each number once, from 1 to the last made; each window's way up ends at the root. -/
structure Good (R : RT) (L : List Win) : Prop where
  nodup : (L.map (·.id)).Nodup
  pos : ∀ v ∈ L, 1 ≤ v.id ∧ v.id ≤ R.last
  way : ∀ v ∈ L, ∃ m, Way (ndL R L) m v.id
theorem nodup_le : ∀ {a b : List Int}, a.Nodup → (∀ x ∈ a, x ∈ b) → a.length ≤ b.length
  | [], b, _, _ => Nat.zero_le _
  | x :: t, b, h, hs => by
    obtain ⟨h1, h2⟩ := List.nodup_cons.1 h
    have hx := hs x (List.mem_cons_self ..)
    have ih := nodup_le (b := b.erase x) h2 (fun y hy => (List.mem_erase_of_ne (show y ≠ x from fun e => h1 (by rw [← e]; exact hy))).2 (hs y (List.mem_cons_of_mem _ hy)))
    rw [List.length_erase_of_mem hx] at ih
    have : 0 < b.length := List.length_pos_of_mem hx
    simp only [List.length_cons]; omega
theorem place_mem : ∀ {L : List Win}, (L.map (·.id)).Nodup → ∀ {v : Win}, v ∈ L → ∃ k, placeN v.id L = some k ∧ L[k]? = some v
  | [], _, _, hv => by cases hv
  | a :: t, h, v, hv => by
    rw [List.map_cons, List.nodup_cons] at h
    obtain ⟨h1, h2⟩ := h
    rcases List.mem_cons.1 hv with rfl | hv
    · exact ⟨0, by simp [placeN], rfl⟩
    · obtain ⟨k, h3, h4⟩ := place_mem h2 hv
      have hne : a.id ≠ v.id := fun e => h1 (e ▸ List.mem_map.2 ⟨v, hv, rfl⟩)
      exact ⟨k + 1, by simp [placeN, hne, h3], by simpa using h4⟩
section
variable {R : RT} {L : List Win}
theorem Good.find (h : Good R L) {v : Win} (hv : v ∈ L) : findL v.id L = some v := by
  obtain ⟨k, h1, h2⟩ := place_mem h.nodup hv
  unfold findL; rw [h1]; exact h2
theorem Good.uniq (h : Good R L) : Uniq R L := fun v hv => by
  unfold getR
  rw [if_neg (by have := (h.pos v hv).1; omega)]
  exact h.find hv
theorem Good.no0 (h : Good R L) : placeN 0 L = none := placeN_no L fun u hu => by have := (h.pos u hu).1; omega
theorem getR_some {i : Int} {v : Win} (h : getR R L i = some v) : v.id = i ∧ (i = 0 ∧ v = rootW R ∨ i ≠ 0 ∧ v ∈ L) := by
  unfold getR at h
  split at h
  · next e => injection h with h; subst h; exact ⟨e.symm, .inl ⟨e, rfl⟩⟩
  · next e =>
    unfold findL at h
    cases hp : placeN i L with
    | none => rw [hp] at h; cases h
    | some k =>
      rw [hp] at h
      obtain ⟨u, h1, h2, _⟩ := placeN_get L k hp
      rw [show L[k]? = some v from h] at h1
      injection h1 with h1
      subst h1
      exact ⟨h2, .inr ⟨e, List.mem_of_getElem? h⟩⟩
theorem nd_root : ndL R L 0 = some ⟨rootW R, kidsL L 0⟩ := by unfold ndL getR; simp
theorem Way.det {nd : Int → Option Nd} : ∀ {m m' : Nat} {i : Int}, Way nd m i → Way nd m' i → m = m'
  | 0, 0, _, _, _ => rfl
  | 0, _ + 1, _, h, h' => absurd h.1 h'.1
  | _ + 1, 0, _, h, h' => absurd h'.1 h.1
  | m + 1, m' + 1, i, ⟨_, d, hd, h⟩, ⟨_, d', hd', h'⟩ => by
    rw [hd] at hd'; injection hd' with hd'; subst hd'
    rw [h.det h']
/-- The numbers on a way. -/
def wayL (nd : Int → Option Nd) : Nat → Int → List Int
  | 0, _ => []
  | n + 1, i => i :: wayL nd n (parOf nd i)
theorem wayL_len {nd : Int → Option Nd} : ∀ (n : Nat) (i : Int), (wayL nd n i).length = n
  | 0, _ => rfl
  | n + 1, i => by simp [wayL, wayL_len n]
theorem par_of {nd : Int → Option Nd} {i : Int} {d : Nd} (h : nd i = some d) : parOf nd i = d.win.par := by unfold parOf; rw [h]
theorem wayL_mem {nd : Int → Option Nd} : ∀ (n : Nat) (i : Int), Way nd n i → ∀ x ∈ wayL nd n i, x ≠ 0 ∧ ∃ k, 1 ≤ k ∧ k ≤ n ∧ Way nd k x
  | 0, _, _, x, hx => by cases hx
  | n + 1, i, h, x, hx => by
    have h0 := h
    obtain ⟨hi, d, hd, hw⟩ := h
    rcases List.mem_cons.1 hx with rfl | hx
    · exact ⟨hi, n + 1, by omega, Nat.le_refl _, h0⟩
    · rw [par_of hd] at hx
      obtain ⟨h1, k, h2, h3, h4⟩ := wayL_mem n _ hw x hx
      exact ⟨h1, k, h2, by omega, h4⟩
theorem wayL_nodup {nd : Int → Option Nd} : ∀ (n : Nat) (i : Int), Way nd n i → (wayL nd n i).Nodup
  | 0, _, _ => List.nodup_nil
  | n + 1, i, h => by
    have h0 := h
    obtain ⟨hi, d, hd, hw⟩ := h
    unfold wayL
    rw [par_of hd]
    refine List.nodup_cons.2 ⟨fun hx => ?_, wayL_nodup n _ hw⟩
    obtain ⟨_, k, _, h2, h3⟩ := wayL_mem n _ hw i hx
    have := h0.det h3
    omega
theorem Way.le {m : Nat} {i : Int} (hw : Way (ndL R L) m i) : m ≤ L.length := by
  have h1 := nodup_le (wayL_nodup m i hw) (b := L.map (·.id)) (fun x hx => by
    obtain ⟨h2, k, _, _, h3⟩ := wayL_mem m i hw x hx
    obtain ⟨d, hd⟩ := h3.there
    obtain ⟨h4, h5⟩ := getR_some (ndL_some hd).1
    rcases h5 with ⟨h5, _⟩ | ⟨_, h5⟩
    · exact absurd h5 h2
    · exact List.mem_map.2 ⟨_, h5, h4⟩)
  rw [wayL_len, List.length_map] at h1
  exact h1
theorem kid_of (h : Good R L) {i k : Int} (hk : k ∈ kidsL L i) : ∃ v, v ∈ L ∧ v.id = k ∧ v.par = i ∧ ndL R L k = some ⟨v, kidsL L k⟩ := by
  unfold kidsL at hk
  obtain ⟨v, hv, rfl⟩ := List.mem_map.1 hk
  obtain ⟨h1, h2⟩ := List.mem_filter.1 hv
  exact ⟨v, h1, rfl, by simpa using h2, nd_of h.uniq h1⟩
theorem Good.kid_way (h : Good R L) {i k : Int} {m : Nat} (hw : Way (ndL R L) m i) (hk : k ∈ kidsL L i) : Way (ndL R L) (m + 1) k := by
  obtain ⟨v, hv, h1, h2, h3⟩ := kid_of h hk
  exact ⟨by have := (h.pos v hv).1; omega, _, h3, by show Way (ndL R L) m v.par; rw [h2]; exact hw⟩
theorem Good.tall (h : Good R L) : ∀ (n m : Nat) (i : Int), Way (ndL R L) m i → m + n = L.length + 1 → Tall (ndL R L) n i
  | 0, m, i, hw, he => by have := hw.le; omega
  | n + 1, m, i, hw, he => by
    obtain ⟨d, hd⟩ := hw.there
    refine ⟨d, hd, fun k hk => ?_⟩
    rw [(ndL_some hd).2] at hk
    exact h.tall n (m + 1) k (h.kid_way hw hk) (by omega)
/-- One step up, again and again. -/
def upN (nd : Int → Option Nd) : Nat → Int → Int
  | 0, i => i
  | n + 1, i => upN nd n (parOf nd i)
theorem upN_snoc {nd : Int → Option Nd} : ∀ (n : Nat) (i : Int), upN nd (n + 1) i = parOf nd (upN nd n i)
  | 0, _ => rfl
  | n + 1, i => by
    show upN nd (n + 1) (parOf nd i) = _
    rw [upN_snoc n]; rfl
theorem all_up (h : Good R L) : ∀ (n m : Nat) (i : Int), Way (ndL R L) m i → ∀ x ∈ allL (ndL R L) n i, (∃ d, ndL R L x = some d) ∧ ∃ j, Way (ndL R L) (m + j) x ∧ upN (ndL R L) j x = i
  | 0, _, _, _, x, hx => by cases hx
  | n + 1, m, i, hw, x, hx => by
    obtain ⟨d, hd⟩ := hw.there
    simp only [allL, hd] at hx
    rcases List.mem_append.1 hx with hx | hx
    · obtain ⟨k, hk, hx⟩ := List.mem_flatMap.1 hx
      rw [(ndL_some hd).2] at hk
      obtain ⟨h1, j, h2, h3⟩ := all_up h n (m + 1) k (h.kid_way hw hk) x hx
      refine ⟨h1, j + 1, by rw [show m + (j + 1) = m + 1 + j by omega]; exact h2, ?_⟩
      rw [upN_snoc, h3]
      obtain ⟨v, _, _, h4, h5⟩ := kid_of h hk
      rw [par_of h5]; exact h4
    · rw [List.mem_singleton.1 hx]
      exact ⟨⟨d, hd⟩, 0, hw, rfl⟩
theorem kids_nodup (h : Good R L) (i : Int) : (kidsL L i).Nodup := by
  unfold kidsL
  exact h.nodup.sublist (List.Sublist.map _ List.filter_sublist)
theorem all_nodup (h : Good R L) : ∀ (n m : Nat) (i : Int), Way (ndL R L) m i → (allL (ndL R L) n i).Nodup
  | 0, _, _, _ => List.nodup_nil
  | n + 1, m, i, hw => by
    obtain ⟨d, hd⟩ := hw.there
    simp only [allL, hd]
    rw [(ndL_some hd).2]
    refine List.nodup_append.2 ⟨?_, List.nodup_cons.2 ⟨List.not_mem_nil, List.nodup_nil⟩, ?_⟩
    · unfold List.Nodup
      rw [List.pairwise_flatMap]
      refine ⟨fun k hk => all_nodup h n (m + 1) k (h.kid_way hw hk), ?_⟩
      refine List.Pairwise.imp_of_mem (R := fun a b : Int => a ≠ b) ?_ (kids_nodup h i)
      intro a b ha hb hab x hx y hy e
      subst e
      obtain ⟨-, j, h1, h2⟩ := all_up h n (m + 1) a (h.kid_way hw ha) x hx
      obtain ⟨-, j', h3, h4⟩ := all_up h n (m + 1) b (h.kid_way hw hb) x hy
      have := h1.det h3
      obtain rfl : j = j' := by omega
      exact hab (h2.symm.trans h4)
    · intro x hx y hy e
      rw [List.mem_singleton.1 hy] at e
      subst e
      obtain ⟨k, hk, hx⟩ := List.mem_flatMap.1 hx
      obtain ⟨-, j, h1, -⟩ := all_up h n (m + 1) k (h.kid_way hw hk) x hx
      have := h1.det hw
      omega
end
end Go.Proofs.Ytphmlfklmleafaa
end
section
namespace Go.Proofs.Ytphmlfklmleafaa
open Go.RowKit Go.Shelf
theorem find_iff {L : List Win} (hn : (L.map (·.id)).Nodup) {i : Int} {v : Win} : findL i L = some v ↔ v ∈ L ∧ v.id = i := by
  constructor
  · intro h
    unfold findL at h
    cases hp : placeN i L with
    | none => rw [hp] at h; cases h
    | some k =>
      rw [hp] at h
      obtain ⟨u, h1, h2, _⟩ := placeN_get L k hp
      rw [show L[k]? = some v from h] at h1
      injection h1 with h1
      subst h1
      exact ⟨List.mem_of_getElem? h, h2⟩
  · rintro ⟨h1, rfl⟩
    obtain ⟨k, h2, h3⟩ := place_mem hn h1
    unfold findL; rw [h2]; exact h3
/-- Lists with the same windows find the same. -/
theorem find_same {L M : List Win} (hn : (L.map (·.id)).Nodup) (hm : (M.map (·.id)).Nodup) (h : ∀ v, v ∈ L ↔ v ∈ M) (i : Int) : findL i L = findL i M := by
  apply Option.ext
  intro v
  rw [find_iff hn, find_iff hm, h v]
theorem getR_same {R : RT} {L M : List Win} (h : ∀ i, findL i L = findL i M) (i : Int) : getR R L i = getR R M i := by unfold getR; rw [h i]
theorem kids_app (L M : List Win) (i : Int) : kidsL (L ++ M) i = kidsL L i ++ kidsL M i := by
  unfold kidsL; rw [List.filter_append, List.map_append]
theorem kids_one (v : Win) (i : Int) : kidsL [v] i = if v.par = i then [v.id] else [] := by
  unfold kidsL
  by_cases h : v.par = i
  · simp [h]
  · simp [h]
theorem kids_drop (i : Int) : ∀ (L : List Win) (j : Int), kidsL (dropL i L) j = (kidsL L j).filter (fun x => decide (x ≠ i))
  | [], _ => rfl
  | v :: t, j => by
    have ih := kids_drop i t j
    have h1 : dropL i (v :: t) = if v.id = i then dropL i t else v :: dropL i t := by
      unfold dropL
      by_cases h : v.id = i <;> simp [h]
    have h2 : kidsL (v :: t) j = kidsL [v] j ++ kidsL t j := kids_app [v] t j
    rw [h1, h2, List.filter_append, ← ih, kids_one]
    by_cases h : v.id = i
    · rw [if_pos h]
      by_cases hp : v.par = j
      · rw [if_pos hp]; simp [h]
      · rw [if_neg hp]; rfl
    · rw [if_neg h, show v :: dropL i t = [v] ++ dropL i t from rfl, kids_app, kids_one]
      by_cases hp : v.par = j
      · rw [if_pos hp]; simp [h]
      · rw [if_neg hp]; rfl
theorem drop_mem {i : Int} {L : List Win} {u : Win} : u ∈ dropL i L ↔ u ∈ L ∧ u.id ≠ i := by
  unfold dropL; simp
theorem drop_nodup {i : Int} {L : List Win} (h : (L.map (·.id)).Nodup) : ((dropL i L).map (·.id)).Nodup := by
  unfold dropL
  exact h.sublist (List.Sublist.map _ List.filter_sublist)
theorem same_id {L : List Win} (h : (L.map (·.id)).Nodup) {u v : Win} (hu : u ∈ L) (hv : v ∈ L) (e : u.id = v.id) : u = v := by
  have h1 := (find_iff h (i := v.id)).2 ⟨hu, e⟩
  have h2 := (find_iff h (i := v.id)).2 ⟨hv, rfl⟩
  rw [h1] at h2; injection h2
/-- Way depends on parents alone. -/
theorem way_same {nd nd' : Int → Option Nd} (h : ∀ i d, nd i = some d → ∃ d', nd' i = some d' ∧ d'.win.par = d.win.par) : ∀ (m : Nat) (i : Int), Way nd m i → Way nd' m i
  | 0, i, ⟨h1, d, hd⟩ => by obtain ⟨d', hd', _⟩ := h i d hd; exact ⟨h1, d', hd'⟩
  | m + 1, i, ⟨h1, d, hd, hw⟩ => by
    obtain ⟨d', hd', hp⟩ := h i d hd
    exact ⟨h1, d', hd', by rw [hp]; exact way_same h m _ hw⟩
section
variable {R : RT} {L : List Win}
theorem Good.of_same (h : Good R L) {M : List Win} (hn : (M.map (·.id)).Nodup) (hm : ∀ u ∈ M, ∃ v ∈ L, v.id = u.id ∧ v.par = u.par) (hm' : ∀ v ∈ L, ∃ u ∈ M, u.id = v.id ∧ u.par = v.par) : Good R M := by
  have hp : ∀ u ∈ M, 1 ≤ u.id ∧ u.id ≤ R.last := fun u hu => by
    obtain ⟨v, hv, h1, _⟩ := hm u hu
    rw [← h1]; exact h.pos v hv
  refine ⟨hn, hp, fun u hu => ?_⟩
  obtain ⟨v, hv, h1, _⟩ := hm u hu
  obtain ⟨m, hw⟩ := h.way v hv
  rw [h1] at hw
  refine ⟨m, way_same (fun i d hd => ?_) m _ hw⟩
  obtain ⟨h2, h3⟩ := getR_some (ndL_some hd).1
  rcases h3 with ⟨rfl, h3⟩ | ⟨h3, h4⟩
  · exact ⟨_, nd_root, by rw [h3]⟩
  · obtain ⟨u', hu', h5, h6⟩ := hm' _ h4
    refine ⟨⟨u', kidsL M i⟩, ?_, h6⟩
    unfold ndL getR
    rw [if_neg h3, (find_iff hn).2 ⟨hu', by rw [h5]; exact h2⟩]; rfl
theorem kid_mem (h : Good R L) {v : Win} (hv : v ∈ L) (j : Int) : v.id ∈ kidsL L j ↔ v.par = j := by
  constructor
  · intro hk
    obtain ⟨u, hu, h1, h2, _⟩ := kid_of h hk
    rw [← same_id h.nodup hu hv h1]; exact h2
  · intro e
    unfold kidsL
    exact List.mem_map.2 ⟨v, List.mem_filter.2 ⟨hv, by simpa using e⟩, rfl⟩
theorem filter_no {xs : List Int} {i : Int} (h : i ∉ xs) : xs.filter (fun x => decide (x ≠ i)) = xs := by
  rw [List.filter_eq_self]
  intro x hx
  simp; rintro rfl; exact h hx
/-- Raised: nothing else changes. -/
theorem raise_list (h : Good R L) {v : Win} (hv : v ∈ L) : Good R (dropL v.id L ++ [v]) ∧
    ∀ dp, ndL R L v.par = some dp → ndL R (dropL v.id L ++ [v]) = upd (ndL R L) v.par (some ⟨dp.win, strike v.id dp.kids ++ [v.id]⟩) := by
  have hmem : ∀ u, u ∈ dropL v.id L ++ [v] ↔ u ∈ L := fun u => by
    rw [List.mem_append, drop_mem, List.mem_singleton]
    constructor
    · rintro (⟨h1, _⟩ | rfl) <;> assumption
    · intro hu
      by_cases e : u.id = v.id
      · exact .inr (same_id h.nodup hu hv e)
      · exact .inl ⟨hu, e⟩
  have hn : ((dropL v.id L ++ [v]).map (·.id)).Nodup := by
    rw [List.map_append]
    refine List.nodup_append.2 ⟨drop_nodup h.nodup, List.nodup_cons.2 ⟨List.not_mem_nil, List.nodup_nil⟩, ?_⟩
    intro x hx y hy e
    obtain ⟨u, hu, rfl⟩ := List.mem_map.1 hx
    simp at hy
    subst hy
    exact (drop_mem.1 hu).2 e
  refine ⟨h.of_same hn (fun u hu => ⟨u, (hmem u).1 hu, rfl, rfl⟩) (fun u hu => ⟨u, (hmem u).2 hu, rfl, rfl⟩), fun dp hdp => ?_⟩
  obtain ⟨h1, h2⟩ := ndL_some hdp
  funext j
  have hg : getR R (dropL v.id L ++ [v]) j = getR R L j := getR_same (find_same hn h.nodup hmem) j
  have hk : kidsL (dropL v.id L ++ [v]) j = if v.par = j then strike v.id (kidsL L j) ++ [v.id] else kidsL L j := by
    rw [kids_app, kids_one, kids_drop]
    by_cases hp : v.par = j
    · rw [if_pos hp, if_pos hp]; rfl
    · rw [if_neg hp, if_neg hp, List.append_nil, filter_no (fun hx => hp ((kid_mem h hv j).1 hx))]
  unfold ndL upd
  rw [hg, hk]
  by_cases hp : j = v.par
  · subst hp
    rw [if_pos rfl, if_pos rfl, h1, h2]; rfl
  · rw [if_neg hp, if_neg (fun e => hp e.symm)]
theorem lower_list (h : Good R L) {v : Win} (hv : v ∈ L) : Good R (v :: dropL v.id L) ∧
    ∀ dp, ndL R L v.par = some dp → ndL R (v :: dropL v.id L) = upd (ndL R L) v.par (some ⟨dp.win, v.id :: strike v.id dp.kids⟩) := by
  have hmem : ∀ u, u ∈ v :: dropL v.id L ↔ u ∈ L := fun u => by
    rw [List.mem_cons, drop_mem]
    constructor
    · rintro (rfl | ⟨h1, _⟩) <;> assumption
    · intro hu
      by_cases e : u.id = v.id
      · exact .inl (same_id h.nodup hu hv e)
      · exact .inr ⟨hu, e⟩
  have hn : ((v :: dropL v.id L).map (·.id)).Nodup := by
    rw [List.map_cons]
    refine List.nodup_cons.2 ⟨fun hx => ?_, drop_nodup h.nodup⟩
    obtain ⟨u, hu, e⟩ := List.mem_map.1 hx
    exact (drop_mem.1 hu).2 e
  refine ⟨h.of_same hn (fun u hu => ⟨u, (hmem u).1 hu, rfl, rfl⟩) (fun u hu => ⟨u, (hmem u).2 hu, rfl, rfl⟩), fun dp hdp => ?_⟩
  obtain ⟨h1, h2⟩ := ndL_some hdp
  funext j
  have hg : getR R (v :: dropL v.id L) j = getR R L j := getR_same (find_same hn h.nodup hmem) j
  have hk : kidsL (v :: dropL v.id L) j = if v.par = j then v.id :: strike v.id (kidsL L j) else kidsL L j := by
    rw [show v :: dropL v.id L = [v] ++ dropL v.id L from rfl, kids_app, kids_one, kids_drop]
    by_cases hp : v.par = j
    · rw [if_pos hp, if_pos hp]; rfl
    · rw [if_neg hp, if_neg hp, List.nil_append, filter_no (fun hx => hp ((kid_mem h hv j).1 hx))]
  unfold ndL upd
  rw [hg, hk]
  by_cases hp : j = v.par
  · subst hp
    rw [if_pos rfl, if_pos rfl, h1, h2]; rfl
  · rw [if_neg hp, if_neg (fun e => hp e.symm)]
end
end Go.Proofs.Ytphmlfklmleafaa
end
section
namespace Go.Proofs.Ytphmlfklmleafaa
open Go.RowKit Go.Shelf
theorem kids_map (L : List Win) (i : Int) : kidsL L i = ((L.map fun v => (v.id, v.par)).filter (fun q => q.2 == i)).map (·.1) := by
  induction L with
  | nil => rfl
  | cons v t ih =>
    have h2 : kidsL (v :: t) i = kidsL [v] i ++ kidsL t i := kids_app [v] t i
    rw [h2, ih, kids_one, List.map_cons]
    by_cases h : v.par = i
    · simp [h]
    · simp [h]
theorem set_pairs {L : List Win} {k : Nat} {v v' : Win} (hk : L[k]? = some v) (h1 : v'.id = v.id) (h2 : v'.par = v.par) : (L.set k v').map (fun v => (v.id, v.par)) = L.map fun v => (v.id, v.par) := by
  apply List.ext_getElem?
  intro j
  rw [List.getElem?_map, List.getElem?_map, List.getElem?_set]
  by_cases h : k = j
  · subst h
    obtain ⟨h3, h4⟩ := List.getElem?_eq_some_iff.1 hk
    simp [h3, h4, h1, h2]
  · rw [if_neg h]
theorem set_ids {L : List Win} {k : Nat} {v v' : Win} (hk : L[k]? = some v) (h1 : v'.id = v.id) : (L.set k v').map (·.id) = L.map (·.id) := by
  apply List.ext_getElem?
  intro j
  rw [List.getElem?_map, List.getElem?_map, List.getElem?_set]
  by_cases h : k = j
  · subst h
    obtain ⟨h3, h4⟩ := List.getElem?_eq_some_iff.1 hk
    simp [h3, h4, h1]
  · rw [if_neg h]
section
variable {R : RT} {L : List Win}
theorem set_mem {k : Nat} {v v' u : Win} (hn : (L.map (·.id)).Nodup) (hk : L[k]? = some v) : u ∈ L.set k v' → u = v' ∨ u ∈ L ∧ u.id ≠ v.id := by
  intro hu
  obtain ⟨j, hj⟩ := List.getElem?_of_mem hu
  rw [List.getElem?_set] at hj
  by_cases h : k = j
  · subst h
    have := (List.getElem?_eq_some_iff.1 hk).1
    simp [this] at hj
    exact .inl hj.symm
  · rw [if_neg h] at hj
    refine .inr ⟨List.mem_of_getElem? hj, fun e => h ?_⟩
    obtain ⟨h1, h2⟩ := List.getElem?_eq_some_iff.1 hk
    obtain ⟨h3, h4⟩ := List.getElem?_eq_some_iff.1 hj
    have hp := List.pairwise_iff_getElem.1 hn
    rcases Nat.lt_trichotomy k j with h5 | h5 | h5
    · exact ((hp k j (by simpa using h1) (by simpa using h3) h5) (by simp [h2, h4, e])).elim
    · exact h5
    · exact ((hp j k (by simpa using h3) (by simpa using h1) h5) (by simp [h2, h4, e])).elim
theorem mem_set {k : Nat} {v v' : Win} (hk : L[k]? = some v) : v' ∈ L.set k v' := by
  have := (List.getElem?_eq_some_iff.1 hk).1
  exact List.mem_of_getElem? (i := k) (by rw [List.getElem?_set]; simp [this])
theorem set_keep {k : Nat} {v v' u : Win} (hk : L[k]? = some v) (hu : u ∈ L) (hne : u.id ≠ v.id) : u ∈ L.set k v' := by
  obtain ⟨j, hj⟩ := List.getElem?_of_mem hu
  refine List.mem_of_getElem? (i := j) ?_
  rw [List.getElem?_set, if_neg (fun e => hne (by subst e; rw [hk] at hj; injection hj with hj; rw [hj]))]
  exact hj
/-- Written anew at its place: number and parent as they were. -/
theorem set_list (h : Good R L) {k : Nat} {v v' : Win} (hk : L[k]? = some v) (h1 : v'.id = v.id) (h2 : v'.par = v.par) : Good R (L.set k v') ∧
    ∀ d, ndL R L v.id = some d → ndL R (L.set k v') = upd (ndL R L) v.id (some ⟨v', d.kids⟩) := by
  have hv : v ∈ L := List.mem_of_getElem? hk
  have hn : ((L.set k v').map (·.id)).Nodup := by rw [set_ids hk h1]; exact h.nodup
  refine ⟨h.of_same hn (fun u hu => ?_) (fun u hu => ?_), fun d hd => ?_⟩
  · rcases set_mem h.nodup hk hu with rfl | ⟨h3, _⟩
    · exact ⟨v, hv, h1.symm, h2.symm⟩
    · exact ⟨u, h3, rfl, rfl⟩
  · by_cases e : u.id = v.id
    · have := same_id h.nodup hu hv e
      subst this
      exact ⟨v', mem_set hk, h1, h2⟩
    · exact ⟨u, set_keep hk hu e, rfl, rfl⟩
  · obtain ⟨h3, h4⟩ := ndL_some hd
    have hz : v.id ≠ 0 := by have := (h.pos v hv).1; omega
    funext j
    have hkid : kidsL (L.set k v') j = kidsL L j := by rw [kids_map, kids_map, set_pairs hk h1 h2]
    unfold ndL upd
    rw [hkid]
    by_cases hj : j = v.id
    · subst hj
      rw [if_pos rfl, h4]
      unfold getR
      rw [if_neg hz, (find_iff hn).2 ⟨mem_set hk, h1⟩]; rfl
    · rw [if_neg hj]
      have hg : getR R (L.set k v') j = getR R L j := by
        unfold getR
        by_cases hj0 : j = 0
        · rw [if_pos hj0, if_pos hj0]
        · rw [if_neg hj0, if_neg hj0]
          apply Option.ext
          intro u
          rw [find_iff hn, find_iff h.nodup]
          constructor
          · rintro ⟨h5, h6⟩
            rcases set_mem h.nodup hk h5 with rfl | ⟨h7, _⟩
            · exact absurd (h6.symm.trans h1) hj
            · exact ⟨h7, h6⟩
          · rintro ⟨h5, h6⟩
            exact ⟨set_keep hk h5 (by rw [h6]; exact hj), h6⟩
      rw [hg]
theorem par_there (h : Good R L) {v : Win} (hv : v ∈ L) : ∃ d, ndL R L v.par = some d := by
  obtain ⟨m, hw⟩ := h.way v hv
  cases m with
  | zero => have := hw.1; have := (h.pos v hv).1; omega
  | succ m =>
    obtain ⟨_, d, hd, hw⟩ := hw
    rw [nd_of h.uniq hv] at hd
    injection hd with hd
    subst hd
    exact hw.there
theorem root_way : Way (ndL R L) 0 0 := ⟨rfl, _, nd_root⟩
/-- The way of whatever is there. -/
theorem Good.any (h : Good R L) {i : Int} {d : Nd} (hd : ndL R L i = some d) : ∃ m, Way (ndL R L) m i := by
  obtain ⟨h1, h2⟩ := getR_some (ndL_some hd).1
  rcases h2 with ⟨rfl, _⟩ | ⟨_, h2⟩
  · exact ⟨0, root_way⟩
  · rw [← h1]; exact h.way _ h2
/-- A new one, above all others of its parent's. -/
theorem create_list (h : Good R L) (hl : 0 ≤ R.last) {q x y a e : Int} {dq : Nd} (hq : ndL R L q = some dq) :
    Good { R with last := R.last + 1 } (L ++ [⟨R.last + 1, q, x, y, a, e, false⟩]) ∧
      ndL { R with last := R.last + 1 } (L ++ [⟨R.last + 1, q, x, y, a, e, false⟩]) = upd (upd (ndL R L) q (some ⟨dq.win, dq.kids ++ [R.last + 1]⟩)) (R.last + 1) (some ⟨⟨R.last + 1, q, x, y, a, e, false⟩, []⟩) := by
  obtain ⟨id, hid⟩ : ∃ id, id = R.last + 1 := ⟨_, rfl⟩
  rw [← hid]
  have hfr : ∀ u ∈ L, u.id ≠ id := fun u hu => by have := (h.pos u hu).2; omega
  have hn : ((L ++ [(⟨id, q, x, y, a, e, false⟩ : Win)]).map (·.id)).Nodup := by
    rw [List.map_append]
    refine List.nodup_append.2 ⟨h.nodup, List.nodup_cons.2 ⟨List.not_mem_nil, List.nodup_nil⟩, ?_⟩
    intro u hu v hv e2
    obtain ⟨u', hu', rfl⟩ := List.mem_map.1 hu
    simp at hv
    exact hfr u' hu' (e2.trans hv)
  have hid0 : id ≠ 0 := by omega
  have hidq : id ≠ q := fun e2 => by
    obtain ⟨h1, h2⟩ := getR_some (ndL_some hq).1
    rcases h2 with ⟨h2, _⟩ | ⟨_, h2⟩
    · exact hid0 (e2.trans h2)
    · exact hfr _ h2 (h1.trans e2.symm)
  have hpar : ∀ u ∈ L, u.par ≠ id := fun u hu e2 => by
    obtain ⟨d, hd⟩ := par_there h hu
    rw [e2] at hd
    obtain ⟨h1, h2⟩ := getR_some (ndL_some hd).1
    rcases h2 with ⟨h2, _⟩ | ⟨_, h2⟩
    · exact hid0 h2
    · exact hfr _ h2 h1
  have hkid : kidsL L id = [] := by
    unfold kidsL
    rw [List.map_eq_nil_iff, List.filter_eq_nil_iff]
    intro u hu; simpa using hpar u hu
  have hnd : ndL { R with last := id } (L ++ [⟨id, q, x, y, a, e, false⟩]) = upd (upd (ndL R L) q (some ⟨dq.win, dq.kids ++ [id]⟩)) id (some ⟨⟨id, q, x, y, a, e, false⟩, []⟩) := by
    obtain ⟨h1, h2⟩ := ndL_some hq
    funext j
    have hk : kidsL (L ++ [(⟨id, q, x, y, a, e, false⟩ : Win)]) j = kidsL L j ++ (if q = j then [id] else []) := by rw [kids_app, kids_one]
    have hg : getR { R with last := id } (L ++ [⟨id, q, x, y, a, e, false⟩]) j = if j = id then some ⟨id, q, x, y, a, e, false⟩ else getR R L j := by
      unfold getR
      by_cases hj0 : j = 0
      · rw [if_pos hj0, if_pos hj0, if_neg (fun e2 => hid0 (e2.symm.trans hj0))]; rfl
      · rw [if_neg hj0, if_neg hj0]
        by_cases hj : j = id
        · rw [if_pos hj, (find_iff hn).2 ⟨List.mem_append_right _ (List.mem_singleton.2 rfl), hj.symm⟩]
        · rw [if_neg hj]
          apply Option.ext
          intro u
          rw [find_iff hn, find_iff h.nodup, List.mem_append, List.mem_singleton]
          constructor
          · rintro ⟨h5 | h5, h6⟩
            · exact ⟨h5, h6⟩
            · rw [h5] at h6; exact absurd h6.symm hj
          · rintro ⟨h5, h6⟩
            exact ⟨.inl h5, h6⟩
    unfold ndL upd
    rw [hg, hk]
    by_cases hj : j = id
    · subst hj
      rw [if_pos rfl, if_pos rfl, hkid, if_neg (fun e2 => hidq e2.symm)]; rfl
    · rw [if_neg hj, if_neg hj]
      by_cases hjq : j = q
      · subst hjq
        rw [if_pos rfl, if_pos rfl, h1, h2]; rfl
      · rw [if_neg hjq, if_neg (fun e2 => hjq e2.symm), List.append_nil]
  refine ⟨⟨hn, fun u hu => ?_, fun u hu => ?_⟩, hnd⟩
  · rw [List.mem_append, List.mem_singleton] at hu
    show 1 ≤ u.id ∧ u.id ≤ id
    rcases hu with hu | rfl
    · have := h.pos u hu; omega
    · exact ⟨by show 1 ≤ id; omega, Int.le_refl _⟩
  · have hsame : ∀ i d, ndL R L i = some d → ∃ d', ndL { R with last := id } (L ++ [⟨id, q, x, y, a, e, false⟩]) i = some d' ∧ d'.win.par = d.win.par := fun i d hd => by
      rw [hnd]
      unfold upd
      by_cases hi : i = id
      · subst hi
        obtain ⟨h1, h2⟩ := getR_some (ndL_some hd).1
        rcases h2 with ⟨h2, _⟩ | ⟨_, h2⟩
        · exact absurd h2 hid0
        · exact absurd h1 (hfr _ h2)
      · rw [if_neg hi]
        by_cases hiq : i = q
        · subst hiq
          rw [hq] at hd; injection hd with hd; subst hd
          exact ⟨_, if_pos rfl, rfl⟩
        · rw [if_neg hiq]; exact ⟨d, hd, rfl⟩
    rw [List.mem_append, List.mem_singleton] at hu
    rcases hu with hu | rfl
    · obtain ⟨m, hw⟩ := h.way u hu
      exact ⟨m, way_same hsame m _ hw⟩
    · obtain ⟨m, hw⟩ := h.any hq
      refine ⟨m + 1, hid0, ⟨⟨id, q, x, y, a, e, false⟩, []⟩, ?_, way_same hsame m q hw⟩
      rw [hnd]; exact upd_same _ _ _
end
end Go.Proofs.Ytphmlfklmleafaa
end
section
namespace Go.Proofs.Ytphmlfklmleafaa
open Go.RowKit Go.Shelf
section
variable {R : RT} {L : List Win}
def rUnder (R : RT) (L : List Win) (n : Nat) (px py : Int) : Value := if reachB R.w R.h px py = true then .tuple #[.int .i64 (seenB (ndL R L) n 0 px py), .bool true] else .tuple #[.int .i64 0, .bool false]
set_option maxRecDepth 100000 in
set_option maxHeartbeats 16000000 in
theorem runder_c (hU : Uniq R L) (hL : L.length ≤ 1048576) (n : Nat) (px py : Int) (sv : Value) (w : World) (h : RW w sv L) (hT : Tall (ndL R L) n 0) :
    Calls Try.prog 16 #[refV R sv, .agg #[.int .i64 px, .int .i64 py]] w fun e w' => e = .returned (rUnder R L n px py) ∧ Below w.heap.size w w' := by
  obtain ⟨wb, hwb⟩ : ∃ wb, wb = (w.alloc (.cells (refA R sv) 36)).alloc (.cells #[.int .i64 px, .int .i64 py] 26) := ⟨_, rfl⟩
  have hbel : Below w.heap.size w wb := by rw [hwb]; exact ((Below.refl _ _).alloc (Nat.le_refl _) _).alloc (by simp) _
  have hbA : Blk wb w.heap.size 36 (refA R sv) := by rw [hwb]; exact (Blk.new w _ _).alloc _
  have hbB : Blk wb (w.heap.size + 1) 26 #[.int .i64 px, .int .i64 py] := by
    rw [hwb]
    have := Blk.new (w.alloc (.cells (refA R sv) 36)) 26 #[.int .i64 px, .int .i64 py]
    rwa [World.size_alloc] at this
  have HS := Lib.hid (rseen_c hU hL n 0 px py sv wb (h.below hbel) hT)
  have x0 := hbA.at_ (i := 0) rfl
  have x1 := hbA.at_ (i := 1) rfl
  have x2 := hbA.at_ (i := 2) rfl
  have x3 := hbA.at_ (i := 3) rfl
  have x4 := hbA.at_ (i := 4) rfl
  have x5 := hbA.at_ (i := 5) rfl
  obtain ⟨⟨q0, q1⟩, -⟩ := hbB.c2
  obtain ⟨x, y, rw, rh, last⟩ := R
  have HB := Lib.hid hbel
  have HW := Lib.hid hwb
  have hq : (px < 0) ∨ (0 ≤ px ∧ py < 0) ∨ (0 ≤ px ∧ 0 ≤ py ∧ rw ≤ px) ∨ (0 ≤ px ∧ 0 ≤ py ∧ px < rw ∧ rh ≤ py) ∨ (0 ≤ px ∧ px < rw ∧ 0 ≤ py ∧ py < rh) := by omega
  have HN := Lib.hid (fun (hc : ¬ (0 ≤ px ∧ px < rw ∧ 0 ≤ py ∧ py < rh)) => (show rUnder ⟨x, y, rw, rh, last⟩ L n px py = .tuple #[.int .i64 0, .bool false] from by
    unfold rUnder reachB; rw [if_neg (by simpa using hc)]))
  have HY := Lib.hid (fun (hc : 0 ≤ px ∧ px < rw ∧ 0 ≤ py ∧ py < rh) => (show rUnder ⟨x, y, rw, rh, last⟩ L n px py = .tuple #[.int .i64 (seenB (ndL ⟨x, y, rw, rh, last⟩ L) n 0 px py), .bool true] from by
    unfold rUnder reachB; rw [if_pos (by simpa using hc)]))
  clear h hbel hbA hbB
  rcases hq with h1 | ⟨h1, h2⟩ | ⟨h1, h2, h3⟩ | ⟨h1, h2, h3, h4⟩ | ⟨h1, h2, h3, h4⟩
  case inr.inr.inr.inr =>
    have HR := Lib.hid (HY.out ⟨h1, h2, h3, h4⟩)
    clear HN HY
    go_enter Try.func16, Try.ntmps16
    go_upto_region 1 with fail
    rw [← HW.out]
    clear hwb
    go_wp2_with (go_at_call 45; ((with_reducible refine (HS.out).mono ?_); rintro e w1 ⟨rfl, hb⟩); have HB1 := Lib.hid hb; clear hb)
    go_ret2
    exact ⟨HR.out.symm ▸ rfl, HB1.out.on HB.out HB.out.size⟩
  all_goals
    have HR := Lib.hid (HN.out (by omega))
    clear HN HY
    go_enter Try.func16, Try.ntmps16
    go_upto_region 1 with fail
    rw [← HW.out]
    clear hwb
    go_wp2_with fail
    go_ret2
    exact ⟨HR.out.symm ▸ rfl, HB.out⟩
end
end Go.Proofs.Ytphmlfklmleafaa
end
section
namespace Go.Proofs.Ytphmlfklmleafaa
open Go.RowKit Go.Shelf Go.Maps
theorem own_next {B : Nat} {e : TypeId} {k : Nat} {v : Value} {n : Nat} {xs : List Value} {w w' : World} (h : w.ownsRow B e k v n xs) (hb : Below w.heap.size w w') : w'.ownsRow B e k v n xs :=
  h.kept (row := none) ⟨hb.os, hb.tape, hb.output, hb.size, fun j hj _ => hb.block j hj⟩ (by cases hv : v.ownBlock <;> simp)
theorem own_form {B : Nat} {e : TypeId} {v : Value} {n : Nat} {xs : List Value} {w : World} (h : w.ownsRow B e 1 v n xs) (hn : 0 < n) :
    ∃ g c, v = .slice (some ⟨g, 0, none⟩) n c ∧ ∀ j u, xs[j]? = some u → w.cell? ((⟨g, 0, none⟩ : Addr).add j) = some u := by
  obtain ⟨g, c, rfl, -⟩ := h.form hn
  exact ⟨g, c, rfl, World.ownsRow.cells h rfl⟩
theorem GiS.add {w wr w1 w2 : World} {v v' : Value} {xs ys : List Int} (h : GiS w wr v xs) (hb : Below wr.heap.size wr w1) (ho : w2.ownsRow w.heap.size 3 1 v' (xs.length + ys.length) (xs.map (Value.int .i64) ++ ys.map (Value.int .i64))) (hg : w1.grownBy w2 v.ownBlock) : GiS w w2 v' (xs ++ ys) := by
  refine ⟨?_, below_only (hb.on h.2 h.2.size) hg (Nat.le_trans h.2.size hb.size) (fun k hk => (World.ownsRow.lt h.1 k hk).1)⟩
  rw [List.length_append, List.map_append]
  exact ho
section
variable {R : RT} {L : List Win}
set_option maxRecDepth 100000 in
set_option maxHeartbeats 16000000 in
theorem rall_c (hL : L.length ≤ 1048576) : ∀ (n : Nat) (i : Int) (sv : Value) (w : World), RW w sv L → Tall (ndL R L) n i → (allL (ndL R L) n i).length ≤ 1048576 →
    Calls Try.prog 59 #[refV R sv, .int .i64 i] w fun e w' => ∃ v', e = .returned v' ∧ w'.ownsRow w.heap.size 3 1 v' (allL (ndL R L) n i).length ((allL (ndL R L) n i).map (Value.int .i64)) ∧ Below w.heap.size w w'
  | 0, _, _, _, _, hT, _ => hT.elim
  | n + 1, i, sv, w, h, hT, hlen => by
    obtain ⟨i0, hi0, hz0, hz1, hz2⟩ := info_parts intInfo
    obtain ⟨d, hd, hkids⟩ := hT
    have hall : allL (ndL R L) (n + 1) i = d.kids.flatMap (allL (ndL R L) n) ++ [i] := by simp only [allL, hd]
    rw [hall] at hlen ⊢
    have hlen2 : (d.kids.flatMap (allL (ndL R L) n)).length + 1 ≤ 1048576 := by simp at hlen ⊢; omega
    obtain ⟨wb, hwb⟩ : ∃ wb, wb = w.alloc (.cells (refA R sv) 36) := ⟨_, rfl⟩
    have hbel : Below w.heap.size w wb := by rw [hwb]; exact (Below.refl _ _).alloc (Nat.le_refl _) _
    have hbx : RBox R sv w.heap.size wb wb := ⟨by rw [hwb]; exact Blk.new w _ _, Below.refl _ _⟩
    have hk := (ndL_some hd).2
    have HKC := Lib.hid (hk ▸ rkids_c (R := R) (h.below hbel) hL i)
    have HRE := Lib.hid (fun (x : Int) (k : Nat) (hx : d.kids[k]? = some x) (W : World) (hW : Below w.heap.size w W) => rall_c hL n x sv W (h.below hW) (hkids x (List.mem_of_getElem? hx)) (by
      have h1 := flat_len_le (allL (ndL R L) n) d.kids (k + 1)
      rw [take_flat _ hx, List.length_append] at h1
      omega))
    have HPO := Lib.hid (fun (x : Int) (k : Nat) (hx : d.kids[k]? = some x) => (show 0 < (allL (ndL R L) n x).length from by
      have ht := hkids x (List.mem_of_getElem? hx)
      cases n with
      | zero => exact ht.elim
      | succ n =>
        obtain ⟨d', hd', -⟩ := ht
        simp only [allL, hd', List.length_append, List.length_singleton]; omega))
    have HLEN := Lib.hid hlen2
    obtain ⟨x0, x1, x2, x3, x4, x5⟩ := hbx.cells
    have H0 := Lib.hid hbx
    have HB := Lib.hid hbel
    have HW := Lib.hid hwb
    have hm0 : (d.kids.length : Int) ≤ 1048576 := by
      have h2 := kidsL_len i L L.length
      rw [List.take_length] at h2
      rw [hk]; omega
    obtain ⟨ks, hks⟩ : ∃ ks, ks = d.kids := ⟨_, rfl⟩
    rw [← hks] at HKC HRE HPO HLEN hm0 ⊢
    obtain ⟨m, hm⟩ : ∃ m, m = ks.length := ⟨_, rfl⟩
    rw [← hm] at HKC hm0
    have HM := Lib.hid hm
    clear h hbel hbx hd hkids hall hlen hlen2 hk hks hm
    go_enter Try.func59, Try.ntmps59
    go_upto_region 1 with fail
    rw [← HW.out]
    clear hwb
    go_upto_region 3 with (go_at_call 41; ((with_reducible refine (HKC.out).mono ?_); rintro e w1 ⟨v1, rfl, ho1, hb1⟩); obtain ⟨p1, c1, rfl, hc1⟩ := row_reads (HM.out ▸ row_less ho1 (Nat.zero_le _)); rw [← HM.out]; have HC1 := Lib.hid hc1; have HX1 := Lib.hid (H0.out.next hb1); have HB1 := Lib.hid (hb1.on HB.out HB.out.size); clear ho1 hc1 hb1)
    clear x0 x1 x2 x3 x4 x5
    go_wp2_with fail
    go_loopw [5, 7] (fun y z wr => ∃ k : Nat, k ≤ m ∧ z = .int .i64 k ∧ GiS w1 wr y ((ks.take k).flatMap (allL (ndL R L) n))) (fun _ z _ => m - (intOf z).toNat)
    case atStart => exact ⟨0, Nat.zero_le _, rfl, World.ownsRow_nil _ _ _ _, Below.refl _ _⟩
    case round =>
      obtain ⟨k, hk, rfl, hG⟩ := hrel
      obtain ⟨acc, hacc⟩ : ∃ acc, acc = (ks.take k).flatMap (allL (ndL R L) n) := ⟨_, rfl⟩
      rw [← hacc] at hG
      have HG := Lib.hid hG
      have HACC := Lib.hid hacc
      have hi0' : (0 : Int) ≤ (k : Int) := by omega
      clear hG hacc
      by_cases hlt : k < m
      · obtain ⟨x, hx⟩ : ∃ x, ks[k]? = some x := ⟨_, List.getElem?_eq_getElem (by rw [← HM.out]; exact hlt)⟩
        obtain ⟨gk, rfl, hgk, hcx⟩ := HC1.out k x hx
        have hcr : wr.cell? ⟨gk, k, none⟩ = some (.int .i64 x) := (HG.out.2.cell (World.block_lt_of_cell? _ _ hcx)).trans hcx
        have HX := Lib.hid (HX1.out.next HG.out.2)
        have hi1 : (k : Int) < (m : Int) := by omega
        have hr0 := HRE.out x k hx wr.drew (HG.out.2.on HB1.out HB1.out.size).drew
        have hp0 := HPO.out x k hx
        have ht0 := take_flat (allL (ndL R L) n) hx
        have hl0 := flat_len_le (allL (ndL R L) n) ks (k + 1)
        rw [ht0, ← HACC.out, List.length_append] at hl0
        rw [← HACC.out] at ht0
        obtain ⟨ys, hys⟩ : ∃ ys, ys = allL (ndL R L) n x := ⟨_, rfl⟩
        rw [← hys] at hr0 hp0 ht0 hl0
        have HR := Lib.hid hr0
        have HPOS := Lib.hid hp0
        have HTF := Lib.hid ht0
        have HLE := Lib.hid (show acc.length + ys.length ≤ 1048576 by have := HLEN.out; omega)
        clear hr0 hp0 ht0 hl0 hys
        have HK7 := Lib.hid (fun (W : World) (hW : Below w1.heap.size w1 W) => And.intro (HX1.out.next hW).cells ((hW.cell (World.block_lt_of_cell? _ _ hcx)).trans hcx))
        clear hx hcx hgk
        go_wp2_with fail
        refine wp_region_noPanic ?_
        refine wp_region_held_drew (S := fun wx => (wx.cell? ⟨w.heap.size, 0, none⟩ = some (.int .i64 R.x) ∧ wx.cell? ⟨w.heap.size, 1, none⟩ = some (.int .i64 R.y) ∧ wx.cell? ⟨w.heap.size, 2, none⟩ = some (.int .i64 R.w) ∧ wx.cell? ⟨w.heap.size, 3, none⟩ = some (.int .i64 R.h) ∧ wx.cell? ⟨w.heap.size, 4, none⟩ = some (.int .i64 R.last) ∧ wx.cell? ⟨w.heap.size, 5, none⟩ = some sv) ∧ wx.cell? ⟨gk, k, none⟩ = some (.int .i64 x)) (by kernel_rfl) (by exact ⟨HX.out.cells, hcr⟩) (fun hHeld => ?_)
        refine wpAnyH_take (i := 0) (v := ?va0) rfl (by kernel_rfl) (by kernel_rfl) (by kernel_rfl) (fun _ _ _ h => h) (Or.inl ⟨by kernel_rfl, ?ya0⟩) (by assumption) ?ra0
        case ya0 => (intro wq hSw; (try dsimp only at hSw); go_simp; (try with_reducible rfl))
        (try simp only [Act.put, List.getElem_toArray, List.getElem_cons_zero, List.setIfInBounds_toArray, List.set_cons_zero, List.set_cons_succ])
        refine wpAnyH_take (i := 1) (v := ?va1) rfl (by kernel_rfl) (by kernel_rfl) (by kernel_rfl) (fun _ _ _ h => h) (Or.inl ⟨by kernel_rfl, ?ya1⟩) (by assumption) ?ra1
        case ya1 => (intro wq hSw; (try dsimp only at hSw); go_simp; (try with_reducible rfl))
        (try simp only [Act.put, List.getElem_toArray, List.getElem_cons_succ, List.getElem_cons_zero, List.setIfInBounds_toArray, List.set_cons_zero, List.set_cons_succ])
        refine wpAnyH_take (i := 2) (v := ?va2) rfl (by kernel_rfl) (by kernel_rfl) (by kernel_rfl) (fun _ _ _ h => h) (Or.inl ⟨by kernel_rfl, ?ya2⟩) (by assumption) ?ra2
        case ya2 => (intro wq hSw; (try dsimp only at hSw); go_simp; (try with_reducible rfl))
        (try simp only [Act.put, List.getElem_toArray, List.getElem_cons_succ, List.getElem_cons_zero, List.setIfInBounds_toArray, List.set_cons_zero, List.set_cons_succ])
        refine wpAnyH_take (i := 3) (v := ?va3) rfl (by kernel_rfl) (by kernel_rfl) (by kernel_rfl) (fun _ _ _ h => h) (Or.inl ⟨by kernel_rfl, ?ya3⟩) (by assumption) ?ra3
        case ya3 => (intro wq hSw; (try dsimp only at hSw); go_simp; (try with_reducible rfl))
        (try simp only [Act.put, List.getElem_toArray, List.getElem_cons_succ, List.getElem_cons_zero, List.setIfInBounds_toArray, List.set_cons_zero, List.set_cons_succ])
        refine wpAnyH_take (i := 4) (v := ?va4) rfl (by kernel_rfl) (by kernel_rfl) (by kernel_rfl) (fun _ _ _ h => h) (Or.inl ⟨by kernel_rfl, ?ya4⟩) (by assumption) ?ra4
        case ya4 => (intro wq hSw; (try dsimp only at hSw); go_simp; (try with_reducible rfl))
        (try simp only [Act.put, List.getElem_toArray, List.getElem_cons_succ, List.getElem_cons_zero, List.setIfInBounds_toArray, List.set_cons_zero, List.set_cons_succ])
        refine wpAnyH_take (i := 5) (v := ?va5) rfl (by kernel_rfl) (by kernel_rfl) (by kernel_rfl) (fun _ _ _ h => h) (Or.inl ⟨by kernel_rfl, ?ya5⟩) (by assumption) ?ra5
        case ya5 => (intro wq hSw; (try dsimp only at hSw); go_simp; (try with_reducible rfl))
        (try simp only [Act.put, List.getElem_toArray, List.getElem_cons_succ, List.getElem_cons_zero, List.setIfInBounds_toArray, List.set_cons_zero, List.set_cons_succ])
        refine wpAnyH_ready (rs := [6]) (by kernel_rfl) (by simp) ?_
        refine AllReadyH.cons rfl (fun K hK => ?_) AllReadyH.nil
        go_simp
        refine (HR.out).mono ?_
        rintro e w4 ⟨v4, rfl, ho4, hb0⟩; have hb4 : Below wr.heap.size wr w4 := ((Below.refl _ wr).drew).trans hb0; clear hb0; have HB4 := Lib.hid hb4; obtain ⟨g4, c4, rfl, hc4⟩ := own_form ho4 HPOS.out; have HC4 := Lib.hid hc4; clear ho4 hc4 hb4
        (try dsimp only)
        refine hK.out _ _ (by exact ⟨(HX.out.next HB4.out).cells, (HB4.out.cell (World.block_lt_of_cell? _ _ hcr)).trans hcr⟩) (fun hHeld => ?_)
        clear hK K
        (try simp only [Act.put, List.getElem_toArray, List.getElem_cons_succ, List.getElem_cons_zero, List.setIfInBounds_toArray, List.set_cons_zero, List.set_cons_succ])
        refine wpAnyH_ready (rs := [7]) (by kernel_rfl) (by simp) ?_
        refine AllReadyH.cons rfl (fun K hK => ?_) AllReadyH.nil
        (refine step_append_lies _ rfl (.tmp 17) (.tmp 23) 47 rfl w1.heap.size 3 i0 (.int .i64 0) 1 8 Try.underlying47 hi0 hz0 hz1 hz2 rfl (by decide) _ _ _ rfl (own_next HG.out.1 HB4.out) ⟨_, 0, none⟩ _ _ _ rfl (by simp) HC4.out (oneCell_ints _) HPOS.out (by unfold maxLen; have := HLE.out; omega) (by have := HLE.out; omega) (Nat.le_trans HG.out.2.size HB4.out.size) _ rfl ?_); intro g' cap' w7 ho hg' _ _; have HG7 := Lib.hid (HG.out.add HB4.out ho hg'); clear ho hg'
        refine hK.out _ _ (by exact HK7.out _ HG7.out.2) (fun hHeld => ?_)
        clear hK K
        (try simp only [Act.put, List.getElem_toArray, List.getElem_cons_succ, List.getElem_cons_zero, List.setIfInBounds_toArray, List.set_cons_zero, List.set_cons_succ])
        refine wpAnyH_take (i := 8) (v := ?va8) rfl (by kernel_rfl) (by kernel_rfl) (by kernel_rfl) (fun _ _ _ h => h) (Or.inl ⟨by kernel_rfl, ?ya8⟩) (by assumption) ?ra8
        case ya8 => (intro wq hSw; (try dsimp only at hSw); go_simp; (try with_reducible rfl))
        (try simp only [Act.put, List.getElem_toArray, List.getElem_cons_succ, List.getElem_cons_zero, List.setIfInBounds_toArray, List.set_cons_zero, List.set_cons_succ])
        refine wpAnyH_done (by kernel_rfl) ?_ _
        refine NoPanic.normal ?_
        go_wp2_with fail
        go_roundw
        case rel => exact ⟨k + 1, by omega, by go_num, by rw [HTF.out]; exact HG7.out⟩
        case measure => simp [intOf]; omega
      · obtain rfl : k = m := by omega
        have HK := Lib.hid (show acc = ks.flatMap (allL (ndL R L) n) by rw [HACC.out, HM.out, List.take_length])
        have HLL := Lib.hid (show acc.length + 1 ≤ 1048576 by rw [HK.out]; exact HLEN.out)
        go_wp2_with (at_builtin; refine wpList_append_own_at _ rfl (.tmp 25) (.tmp 27) 47 rfl w1.heap.size 3 i0 (.int .i64 0) 1 8 Try.underlying47 hi0 hz0 hz1 hz2 rfl (by decide) _ _ _ rfl (World.ownsRow.alloc HG.out.1 _) ⟨_, 0, none⟩ 1 1 [.int .i64 i] rfl rfl (cell_list_at _ _ [.int .i64 i] _ (by simp)) (oneCell_ints [i]) (by unfold maxLen; have := HLL.out; omega) (by have := HLL.out; omega) (by have := HG.out.2.size; simp; omega) ?_; intro v3 w3 ho3 hg3 _ _; have HP := Lib.hid (HG.out.put ho3 hg3); clear ho3 hg3)
        go_ret
        have hP := HP.out
        rw [HK.out] at hP
        exact ⟨_, rfl, row_less hP.1 HB1.out.size, hP.2.on HB1.out HB1.out.size⟩
end
/-- A row of numbers reads. -/
def RdI (w : World) (v : Value) (xs : List Int) : Prop := ∃ p c, v = .slice p xs.length c ∧ ∀ (j : Nat) (x : Int), xs[j]? = some x → ∃ g, p = some ⟨g, 0, none⟩ ∧ w.cell? ⟨g, j, none⟩ = some (.int .i64 x)
theorem RdI.next {w w' : World} {v : Value} {xs : List Int} (h : RdI w v xs) (hb : Below w.heap.size w w') : RdI w' v xs := by
  obtain ⟨p, c, h1, h2⟩ := h
  exact ⟨p, c, h1, fun j x hx => by obtain ⟨g, h3, h4⟩ := h2 j x hx; exact ⟨g, h3, (hb.cell (World.block_lt_of_cell? _ _ h4)).trans h4⟩⟩
theorem RdI.of {B : Nat} {w : World} {v : Value} {xs : List Int} (h : w.ownsRow B 3 1 v xs.length (xs.map (Value.int .i64))) : RdI w v xs := by
  obtain ⟨p, c, h1, h2⟩ := row_reads (row_less h (Nat.zero_le _))
  exact ⟨p, c, h1, fun j x hx => by obtain ⟨g, h3, -, h4⟩ := h2 j x hx; exact ⟨g, h3, h4⟩⟩
theorem list_same {a b : List Int} (hl : a.length = b.length) (h : ∀ j, j < a.length → a[j]? = b[j]?) : a = b := by
  apply List.ext_getElem? 
  intro j
  rcases Nat.lt_or_ge j a.length with h1 | h1
  · exact h j h1
  · rw [List.getElem?_eq_none h1, List.getElem?_eq_none (by omega)]
set_option maxHeartbeats 4000000 in
theorem ints_c (va vb : Value) (a b : List Int) (w : World) (ha : RdI w va a) (hb : RdI w vb b) (hla : a.length ≤ 1048576) (hlb : b.length ≤ 1048576) :
    Calls Try.prog 23 #[va, vb] w fun e w' => e = .returned (.bool (decide (a = b))) ∧ Below w.heap.size w w' := by
  obtain ⟨p, c, rfl, ha⟩ := ha
  obtain ⟨p', c', rfl, hb⟩ := hb
  have HA := Lib.hid ha
  have HB := Lib.hid hb
  obtain ⟨n, hn⟩ : ∃ n, n = a.length := ⟨_, rfl⟩
  obtain ⟨n', hn'⟩ : ∃ n', n' = b.length := ⟨_, rfl⟩
  rw [← hn] at hla ⊢
  rw [← hn'] at hlb ⊢
  have HN := Lib.hid hn
  have HN' := Lib.hid hn'
  clear ha hb hn hn'
  by_cases hnn : n = n'
  · subst hnn
    go_enter Try.func23, Try.ntmps23
    go_wp2_with fail
    go_loopw [5] (fun v wr => ∃ k q : Nat, k ≤ n ∧ v = .int .i64 k ∧ wr = w.drewN q ∧ Asd (∀ j, j < k → a[j]? = b[j]?)) (fun v _ => n - (intOf v).toNat)
    case atStart => exact ⟨0, 0, Nat.zero_le _, rfl, rfl, fun j hj => absurd hj (Nat.not_lt_zero _)⟩
    case round =>
      obtain ⟨k, q, hk, rfl, rfl, hA⟩ := hrel
      have HS := Lib.hid (show ∀ j, j < k → a[j]? = b[j]? from hA)
      clear hA
      by_cases hlt : k < n
      · obtain ⟨u, hu⟩ : ∃ u, a[k]? = some u := ⟨_, List.getElem?_eq_getElem (by rw [← HN.out]; exact hlt)⟩
        obtain ⟨u', hu'⟩ : ∃ u, b[k]? = some u := ⟨_, List.getElem?_eq_getElem (by rw [← HN'.out]; exact hlt)⟩
        obtain ⟨g, rfl, h1⟩ := HA.out k u hu
        obtain ⟨g', rfl, h2⟩ := HB.out k u' hu'
        have HU := Lib.hid (And.intro hu hu')
        clear hu hu'
        have hi0 : (0 : Int) ≤ (k : Int) := by omega
        have hi1 : (k : Int) < (n : Int) := by omega
        by_cases he : u = u'
        · subst he
          go_wp2_with fail
          go_quiet (fail)
          go_wp2_with fail
          go_roundw
          case rel => exact ⟨k + 1, _, by omega, by go_num, rfl, fun j hj => by
            rcases Nat.lt_or_ge j k with h | h
            · exact HS.out j h
            · obtain rfl : j = k := by omega
              rw [HU.out.1, HU.out.2]⟩
          case measure => simp [intOf]; omega
        · have h3 : (u == u') = false := by simpa using he
          have h4 : (u != u') = true := by simp [bne, h3]
          have HR := Lib.hid (show decide (a = b) = false by
            rw [decide_eq_false_iff_not]
            intro e
            have := HU.out
            rw [e] at this
            have h5 := this.1.symm.trans this.2
            injection h5 with h5
            exact he h5)
          clear he
          go_wp2_with fail
          go_quiet (fail)
          go_wp2_with fail
          go_ret
          exact ⟨ret_bool HR.out.symm, below_drewN (below_drewN (Below.refl _ _) _) _⟩
      · have HR := Lib.hid (show decide (a = b) = true by
          rw [decide_eq_true_iff]
          exact list_same (by rw [← HN.out, ← HN'.out]) (fun j hj => HS.out j (by rw [← HN.out] at hj; omega)))
        go_wp2_with fail
        go_ret
        exact ⟨ret_bool HR.out.symm, below_drewN (Below.refl _ _) _⟩
  · have HR := Lib.hid (show decide (a = b) = false by
      rw [decide_eq_false_iff_not]
      intro e
      exact hnn (by rw [HN.out, HN'.out, e]))
    have h1 : ((n : Int) == (n' : Int)) = false := by simp; omega
    have h2 : ((n : Int) != (n' : Int)) = true := by simp [bne, h1]
    go_enter Try.func23, Try.ntmps23
    go_wp2_with fail
    go_ret
    exact ⟨ret_bool HR.out.symm, Below.refl _ _⟩
end Go.Proofs.Ytphmlfklmleafaa
end
