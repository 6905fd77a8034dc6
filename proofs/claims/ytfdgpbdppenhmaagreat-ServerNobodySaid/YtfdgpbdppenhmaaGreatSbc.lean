/- The document's Get; are two rows of properties the same? Pure: the document's list against a table's answers. Pure: Set of the document's list against the table's. List of a window that has properties, walked. Pure: the document's List is the sorted one. -/
import Derived.Test.YtfdgpbdppenhmaaGreatSbb
import Derived.Test.YtfdgpbdppenhmaaGreatSaz
import Derived.Test.YtfdgpbdppenhmaaGreatSaw
section
namespace Go.Proofs.YtfdgpbdppenhmaaGreat.Pp
open Go.RowKit Go.Shelf Go.Maps
def getL (L : List Hd) (i : Int) (s : ByteArray) : Option Pr := L[placeN L i s]?.map Hd.p
theorem pr_eq (p q : Pr) : (p.name = q.name ∧ p.typ = q.typ ∧ p.data = q.data) ↔ p = q := by
  obtain ⟨a, b, c⟩ := p
  obtain ⟨a', b', c'⟩ := q
  simp only [Pr.mk.injEq]
attribute [local go_sem ↓] neq_prop
section
variable {w : World} {v : Value} {L : List Hd}
set_option maxRecDepth 100000 in
set_option maxHeartbeats 4000000 in
theorem rget_c (h : RdH w v L) (hl : L.length ≤ 1048576) (i : Int) (s : ByteArray) :
    Calls Tryz.prog 40 #[v, .int .i64 i, .string s] w fun e w' => e = .returned (.tuple #[prV ((getL L i s).getD noP), .bool (getL L i s).isSome]) ∧ Below w.heap.size w w' := by
  obtain ⟨wb, hwb⟩ : ∃ wb, wb = w.alloc (.cells #[.string ⟨#[]⟩, .string ⟨#[]⟩, .string ⟨#[]⟩] 35) := ⟨_, rfl⟩
  have hbel : Below w.heap.size w wb := by rw [hwb]; exact (Below.refl _ _).alloc (Nat.le_refl _) _
  have hbx : Blk wb w.heap.size 35 #[.string ⟨#[]⟩, .string ⟨#[]⟩, .string ⟨#[]⟩] := by rw [hwb]; exact Blk.new w _ _
  have hpl := place_c (h.next hbel) hl i s
  obtain ⟨pi, hpi⟩ : ∃ pi, pi = placeI L i s := ⟨_, rfl⟩
  rw [← hpi] at hpl
  have HPL := Lib.hid hpl
  obtain ⟨⟨z0, z1, z2⟩, ⟨f0, f1, f2⟩⟩ := hbx.c3
  obtain ⟨p, c, rfl, hc⟩ := h.next hbel
  have HB := Lib.hid hbel
  have HW := Lib.hid hwb
  obtain ⟨n, hn⟩ : ∃ n, n = L.length := ⟨_, rfl⟩
  rw [← hn] at HPL ⊢
  by_cases hk : placeN L i s < L.length
  · obtain ⟨k, hkk⟩ : ∃ k, k = placeN L i s := ⟨_, rfl⟩
    obtain ⟨x, hx⟩ : ∃ x, L[k]? = some x := ⟨_, List.getElem?_eq_getElem (by rw [hkk]; exact hk)⟩
    have hg : getL L i s = some x.p := by unfold getL; rw [← hkk, hx]; rfl
    have hpk : pi = (k : Int) := by rw [hpi]; unfold placeI; rw [if_pos hk, hkk]
    subst hpk
    obtain ⟨b, o, rfl, hb, hcl⟩ := hc k x hx
    obtain ⟨xw, xn, xt, xd⟩ := x
    have c1 := hcl 1 _ rfl
    have c2 := hcl 2 _ rfl
    have c3 := hcl 3 _ rfl
    have hk0 : (0 : Int) ≤ (k : Int) := by omega
    have hk1 : (k : Int) < (n : Int) := by rw [hn, hkk]; omega
    have hk2 : ¬ (k : Int) < 0 := by omega
    have hkn : k < n := by omega
    rw [hg]
    show Calls Tryz.prog 40 #[.slice (some ⟨b, o, none⟩) n c, .int .i64 i, .string s] w fun e w' => e = .returned (.tuple #[.agg #[.string xn, .string xt, .string xd], .bool true]) ∧ Below w.heap.size w w'
    clear hpi hkk hx hg hc hcl hb hk hn hbel hbx hpl hl h
    go_enter Tryz.func40, Tryz.ntmps40
    go_upto_region 1 with fail
    rw [← HW.out]
    clear hwb
    go_wp2_with (go_at_call 65; ((with_reducible refine (HPL.out).mono ?_); rintro e w1 ⟨rfl, rfl⟩))
    refine bodyPost_ret (v := .tuple #[.agg #[.string xn, .string xt, .string xd], .bool true]) (by simp [results, Tryz.results40, go_sem, z0, z1, z2]) rfl ?_
    exact ⟨rfl, ((HB.out.setCell (Nat.le_refl _) _).setCell (Nat.le_refl _) _).setCell (Nat.le_refl _) _⟩
  · have hg : getL L i s = none := by unfold getL; rw [List.getElem?_eq_none (by omega)]; rfl
    have hpk : pi = -1 := by rw [hpi]; unfold placeI; rw [if_neg hk]
    subst hpk
    rw [hg]
    show Calls Tryz.prog 40 #[.slice p n c, .int .i64 i, .string s] w fun e w' => e = .returned (.tuple #[.agg #[.string ⟨#[]⟩, .string ⟨#[]⟩, .string ⟨#[]⟩], .bool false]) ∧ Below w.heap.size w w'
    clear hpi hg hc hk hn hbel hbx hpl hl h
    go_enter Tryz.func40, Tryz.ntmps40
    go_upto_region 1 with fail
    rw [← HW.out]
    clear hwb
    go_wp2_with (go_at_call 65; ((with_reducible refine (HPL.out).mono ?_); rintro e w1 ⟨rfl, rfl⟩))
    refine bodyPost_ret (v := .tuple #[.agg #[.string ⟨#[]⟩, .string ⟨#[]⟩, .string ⟨#[]⟩], .bool false]) (by simp [results, Tryz.results40, go_sem, z0, z1, z2]) rfl ?_
    exact ⟨rfl, ((HB.out.setCell (Nat.le_refl _) _).setCell (Nat.le_refl _) _).setCell (Nat.le_refl _) _⟩
end
/-- A row of properties, read. -/
abbrev RdP (w : World) (v : Value) (l : List Pr) : Prop := RdK encP 3 w v l
end Go.Proofs.YtfdgpbdppenhmaaGreat.Pp
end
section
namespace Go.Proofs.YtfdgpbdppenhmaaGreat.Pp
/-- No window has two properties of one name. -/
def Ok (R : List Hd) : Prop := ∀ (j k : Nat) (a b : Hd), R[j]? = some a → R[k]? = some b → a.win = b.win → a.p.name = b.p.name → j = k
/-- The list holds what the table holds. -/
structure Inv (R : List Hd) (ms : Int → ByteArray → Option Pr) (ns : Int → Nat) : Prop where
  ok : Ok R
  mem : ∀ i s p, ms i s = some p ↔ (⟨i, p⟩ ∈ R ∧ p.name = s)
  cnt : ∀ i, (R.filter (fun h => decide (h.win = i))).length = ns i
theorem isP_iff {i : Int} {s : ByteArray} {h : Hd} : isP i s h = true ↔ (h.win = i ∧ h.p.name = s) := by unfold isP; simp
theorem getL_some {R : List Hd} (hR : Ok R) {i : Int} {s : ByteArray} {p : Pr} : getL R i s = some p ↔ (⟨i, p⟩ ∈ R ∧ p.name = s) := by
  unfold getL
  constructor
  · intro h
    obtain ⟨x, hx, rfl⟩ := Option.map_eq_some_iff.1 h
    have hl := (List.getElem?_eq_some_iff.1 hx).1
    have hp : isP i s x = true := by
      have h1 : isP i s (R[placeN R i s]'hl) = true := List.findIdx_getElem (xs := R) (p := isP i s) (w := hl)
      rw [(List.getElem?_eq_some_iff.1 hx).2] at h1
      exact h1
    obtain ⟨e1, e2⟩ := isP_iff.1 hp
    obtain ⟨xw, xp⟩ := x
    subst e1
    exact ⟨List.mem_of_getElem? hx, e2⟩
  · rintro ⟨h1, h2⟩
    obtain ⟨k, hk, he⟩ := List.getElem_of_mem h1
    have hk' : R[k]? = some ⟨i, p⟩ := by rw [List.getElem?_eq_getElem hk, he]
    have hpl : placeN R i s = k := placeN_at hk' (isP_iff.2 ⟨rfl, h2⟩) (fun j x hj hx => by
      cases hb : isP i s x with
      | false => rfl
      | true =>
        obtain ⟨e1, e2⟩ := isP_iff.1 hb
        have := hR j k x ⟨i, p⟩ hx hk' e1 (by rw [e2, h2])
        omega)
    rw [hpl, hk']; rfl
theorem Inv.get {R : List Hd} {ms : Int → ByteArray → Option Pr} {ns : Int → Nat} (h : Inv R ms ns) (i : Int) (s : ByteArray) : getL R i s = ms i s := by
  cases hm : ms i s with
  | some p => exact (getL_some h.ok).2 ((h.mem i s p).1 hm)
  | none =>
    cases hg : getL R i s with
    | none => rfl
    | some p =>
      have := (h.mem i s p).2 ((getL_some h.ok).1 hg)
      rw [hm] at this; cases this
theorem Inv.begin : Inv [] (fun _ _ => none) (fun _ => 0) :=
  ⟨fun j k a b h => (by simp at h), fun i s p => ⟨fun h => (by cases h), fun h => (by have := h.1; simp at this)⟩, fun _ => rfl⟩
theorem Ok.filter {R : List Hd} (h : Ok R) (f : Hd → Bool) : Ok (R.filter f) := by
  have hp : R.Pairwise (fun a b => ¬ (a.win = b.win ∧ a.p.name = b.p.name)) := by
    rw [List.pairwise_iff_getElem]
    intro j k hj hk hjk e
    have := h j k _ _ (List.getElem?_eq_getElem hj) (List.getElem?_eq_getElem hk) e.1 e.2
    omega
  have hq := hp.filter f
  rw [List.pairwise_iff_getElem] at hq
  intro j k a b ha hb e1 e2
  obtain ⟨hj, ea⟩ := List.getElem?_eq_some_iff.1 ha
  obtain ⟨hk, eb⟩ := List.getElem?_eq_some_iff.1 hb
  rcases Nat.lt_trichotomy j k with hlt | heq | hlt
  · exact absurd ⟨by rw [ea, eb, e1], by rw [ea, eb, e2]⟩ (hq j k hj hk hlt)
  · exact heq
  · exact absurd ⟨by rw [ea, eb, e1], by rw [ea, eb, e2]⟩ (hq k j hk hj hlt)
section
variable {R : List Hd} {ms : Int → ByteArray → Option Pr} {ns : Int → Nat}
theorem Inv.drop (h : Inv R ms ns) (i : Int) : Inv (dropH i R) (upI ms i (fun _ => none)) (upI ns i 0) := by
  refine ⟨h.ok.filter _, fun j s p => ?_, fun j => ?_⟩
  · by_cases hji : j = i
    · rw [hji, upI_same]
      constructor
      · intro hx; cases hx
      · rintro ⟨hx, -⟩
        have := (List.mem_filter.1 hx).2
        simp at this
    · rw [upI_other _ _ hji, h.mem j s p]
      unfold dropH
      rw [List.mem_filter]
      simp [hji]
  · unfold dropH
    rw [List.filter_filter]
    by_cases hji : j = i
    · rw [hji, upI_same, List.length_eq_zero_iff, List.filter_eq_nil_iff]
      intro x _ hx
      simp at hx
    · rw [upI_other _ _ hji, ← h.cnt j]
      congr 1
      apply List.filter_congr
      intro x _
      by_cases hx : x.win = j
      · simp [hx, hji]
      · simp [hx]
theorem Inv.remove (h : Inv R ms ns) (i : Int) (s : ByteArray) : Inv (remH i s R) (upI ms i (upS (ms i) s none)) (remN ms ns i s) ∧ (decide ((remH i s R).length < R.length) = (ms i s).isSome) := by
  have hone : (remH i s R).length + (if (ms i s).isSome then 1 else 0) = R.length ∧ ∀ j, ((remH i s R).filter (fun h => decide (h.win = j))).length + (if j = i ∧ (ms i s).isSome then 1 else 0) = (R.filter (fun h => decide (h.win = j))).length := by
    cases hm : ms i s with
    | none =>
      have e : remH i s R = R := by
        unfold remH
        rw [List.filter_eq_self]
        intro x hx
        cases hb : isP i s x with
        | false => rfl
        | true =>
          obtain ⟨e1, e2⟩ := isP_iff.1 hb
          have := (h.mem i s x.p).2 ⟨by rw [← e1]; exact hx, e2⟩
          rw [hm] at this; cases this
      rw [e]
      exact ⟨by simp, fun j => by simp⟩
    | some p =>
      obtain ⟨h1, h2⟩ := (h.mem i s p).1 hm
      obtain ⟨k, hk, he⟩ := List.getElem_of_mem h1
      have hk' : R[k]? = some ⟨i, p⟩ := by rw [List.getElem?_eq_getElem hk, he]
      have hsplit : R = R.take k ++ ⟨i, p⟩ :: R.drop (k + 1) := by
        rw [← he, List.getElem_cons_drop, List.take_append_drop]
      have hne : ∀ x, x ∈ R.take k ∨ x ∈ R.drop (k + 1) → isP i s x = false := fun x hx => by
        cases hb : isP i s x with
        | false => rfl
        | true =>
          obtain ⟨e1, e2⟩ := isP_iff.1 hb
          rcases hx with hx | hx
          · obtain ⟨j, hj, hje⟩ := List.getElem_of_mem hx
            rw [List.length_take] at hj
            have : R[j]? = some x := by rw [← hje, List.getElem_take]; exact List.getElem?_eq_getElem (by omega)
            have := h.ok j k x _ this hk' e1 (by rw [e2, h2])
            omega
          · obtain ⟨j, hj, hje⟩ := List.getElem_of_mem hx
            rw [List.length_drop] at hj
            have : R[k + 1 + j]? = some x := by rw [← hje, List.getElem_drop]; exact List.getElem?_eq_getElem (by omega)
            have := h.ok (k + 1 + j) k x _ this hk' e1 (by rw [e2, h2])
            omega
      have e : remH i s R = R.take k ++ R.drop (k + 1) := by
        unfold remH
        conv => lhs; rw [hsplit]
        have hy : isP i s ⟨i, p⟩ = true := isP_iff.2 ⟨rfl, h2⟩
        rw [List.filter_append, List.filter_cons, if_neg (by simp [hy]), List.filter_eq_self.2 (fun x hx => by rw [hne x (.inl hx)]; rfl), List.filter_eq_self.2 (fun x hx => by rw [hne x (.inr hx)]; rfl)]
      rw [e]
      refine ⟨?_, fun j => ?_⟩
      · simp; omega
      · conv => rhs; rw [hsplit]
        rw [List.filter_append, List.filter_append, List.filter_cons]
        by_cases hji : j = i
        · simp [hji]; omega
        · have : ¬ i = j := fun e => hji e.symm
          simp [hji, this]
  refine ⟨⟨h.ok.filter _, fun j s' p => ?_, fun j => ?_⟩, ?_⟩
  · unfold remH
    rw [List.mem_filter]
    by_cases hji : j = i
    · rw [hji, upI_same]
      by_cases hss : s' = s
      · rw [hss, upS_same]
        constructor
        · intro hx; cases hx
        · rintro ⟨⟨-, hx⟩, hx2⟩
          simp [isP, hx2] at hx
      · rw [upS_other _ _ hss, h.mem i s' p]
        constructor
        · rintro ⟨h1, h2⟩
          refine ⟨⟨h1, ?_⟩, h2⟩
          simp [isP, h2, hss]
        · rintro ⟨⟨h1, -⟩, h2⟩
          exact ⟨h1, h2⟩
    · rw [upI_other _ _ hji, h.mem j s' p]
      simp [isP, hji]
  · have h2 := hone.2 j
    unfold remN
    by_cases hji : j = i
    · rw [hji, upI_same]
      rw [hji] at h2
      have h3 := h.cnt i
      cases hs : (ms i s).isSome with
      | true => rw [hs] at h2; simp at h2; simp; omega
      | false => rw [hs] at h2; simp at h2; simp; omega
    · rw [upI_other _ _ hji, ← h.cnt j]
      simp [hji] at h2
      omega
  · have h2 := hone.1
    cases hs : (ms i s).isSome with
    | true => rw [hs] at h2; simp at h2; simp; omega
    | false => rw [hs] at h2; simp at h2; simp; omega
end
end Go.Proofs.YtfdgpbdppenhmaaGreat.Pp
end
section
namespace Go.Proofs.YtfdgpbdppenhmaaGreat.Pp
section
variable {R : List Hd} {ms : Int → ByteArray → Option Pr} {ns : Int → Nat}
theorem Inv.found (h : Inv R ms ns) {i : Int} {s : ByteArray} {q : Pr} (hm : ms i s = some q) : R[placeN R i s]? = some ⟨i, q⟩ := by
  have h1 := h.get i s
  rw [hm] at h1
  unfold getL at h1
  obtain ⟨x, hx, rfl⟩ := Option.map_eq_some_iff.1 h1
  have hl := (List.getElem?_eq_some_iff.1 hx).1
  have hp : isP i s (R[placeN R i s]'hl) = true := List.findIdx_getElem (xs := R) (p := isP i s) (w := hl)
  rw [(List.getElem?_eq_some_iff.1 hx).2] at hp
  obtain ⟨e1, -⟩ := isP_iff.1 hp
  rw [hx, ← e1]
theorem Inv.place (h : Inv R ms ns) (i : Int) (s : ByteArray) : decide (0 ≤ placeI R i s) = (ms i s).isSome := by
  unfold placeI
  cases hm : ms i s with
  | some q =>
    have h1 := (List.getElem?_eq_some_iff.1 (h.found hm)).1
    rw [if_pos h1]; simp
  | none =>
    have h1 := h.get i s
    rw [hm] at h1
    unfold getL at h1
    have h2 : ¬ placeN R i s < R.length := fun hl => by
      rw [List.getElem?_eq_getElem hl] at h1; cases h1
    rw [if_neg h2]; simp
theorem Inv.setHas (h : Inv R ms ns) {i : Int} {p : Pr} (hm : (ms i p.name).isSome = true) :
    Inv (R.set (placeN R i p.name) ⟨i, p⟩) (upI ms i (upS (ms i) p.name (some p))) (upI ns i (ns i)) := by
  obtain ⟨q, hq⟩ := Option.isSome_iff_exists.1 hm
  have hf := h.found hq
  have hqn := ((h.mem i p.name q).1 hq).2
  obtain ⟨k, hk⟩ : ∃ k, k = placeN R i p.name := ⟨_, rfl⟩
  rw [← hk] at hf ⊢
  obtain ⟨hkl, hke⟩ := List.getElem?_eq_some_iff.1 hf
  have old : ∀ (j : Nat) (a : Hd), (R.set k ⟨i, p⟩)[j]? = some a → (j = k ∧ a = ⟨i, p⟩) ∨ (j ≠ k ∧ R[j]? = some a) := fun j a ha => by
    by_cases hj : k = j
    · subst hj
      rw [List.getElem?_set_self hkl] at ha
      exact .inl ⟨rfl, (Option.some.inj ha).symm⟩
    · rw [List.getElem?_set_ne hj] at ha
      exact .inr ⟨fun e => hj e.symm, ha⟩
  refine ⟨fun j j' a b ha hb e1 e2 => ?_, fun j s' p' => ?_, fun j => ?_⟩
  · rcases old j a ha with ⟨rfl, rfl⟩ | ⟨hj, ha'⟩
    · rcases old j' b hb with ⟨rfl, -⟩ | ⟨hj', hb'⟩
      · rfl
      · exact h.ok _ _ _ _ hf hb' e1 (by rw [hqn]; exact e2)
    · rcases old j' b hb with ⟨rfl, rfl⟩ | ⟨hj', hb'⟩
      · exact h.ok _ _ _ _ ha' hf e1 (by rw [hqn]; exact e2)
      · exact h.ok _ _ _ _ ha' hb' e1 e2
  · have hmem : (⟨j, p'⟩ : Hd) ∈ R.set k ⟨i, p⟩ ↔ (j = i ∧ p' = p) ∨ ((⟨j, p'⟩ : Hd) ∈ R ∧ ¬ (j = i ∧ p'.name = p.name)) := by
      constructor
      · intro hx
        obtain ⟨m, hm', he⟩ := List.getElem_of_mem hx
        rcases old m ⟨j, p'⟩ (by rw [List.getElem?_eq_getElem hm', he]) with ⟨-, e⟩ | ⟨hmk, hR⟩
        · injection e with e1 e2
          exact .inl ⟨e1, e2⟩
        · refine .inr ⟨List.mem_of_getElem? hR, fun e => hmk ?_⟩
          exact h.ok m k _ _ hR hf e.1 (by rw [hqn]; exact e.2)
      · rintro (⟨rfl, rfl⟩ | ⟨hx, hne⟩)
        · exact List.mem_of_getElem? (List.getElem?_set_self hkl)
        · obtain ⟨m, hm', he⟩ := List.getElem_of_mem hx
          have hmk : k ≠ m := fun e => by
            subst e
            rw [hke] at he
            injection he with e1 e2
            exact hne ⟨e1.symm, by rw [← e2, hqn]⟩
          exact List.mem_of_getElem? (i := m) (by rw [List.getElem?_set_ne hmk, List.getElem?_eq_getElem hm', he])
    rw [hmem]
    by_cases hji : j = i
    · subst hji
      rw [upI_same]
      by_cases hss : s' = p.name
      · rw [hss, upS_same]
        constructor
        · intro e; rw [← Option.some.inj e]; exact ⟨.inl ⟨rfl, rfl⟩, rfl⟩
        · rintro ⟨⟨-, e⟩ | ⟨-, e⟩, e2⟩
          · rw [e]
          · exact absurd ⟨rfl, e2⟩ e
      · rw [upS_other _ _ hss, h.mem j s' p']
        constructor
        · rintro ⟨e1, e2⟩
          exact ⟨.inr ⟨e1, fun e => hss (by rw [← e2, e.2])⟩, e2⟩
        · rintro ⟨⟨-, e⟩ | ⟨e, -⟩, e2⟩
          · exact absurd (by rw [← e2, e]) hss
          · exact ⟨e, e2⟩
    · rw [upI_other _ _ hji, h.mem j s' p']
      simp [hji]
  · rw [upI_self, ← h.cnt j]
    have hs1 : R.set k ⟨i, p⟩ = R.take k ++ ⟨i, p⟩ :: R.drop (k + 1) := List.set_eq_take_append_cons_drop .. |>.trans (by rw [if_pos hkl])
    have hs2 : R = R.take k ++ ⟨i, q⟩ :: R.drop (k + 1) := by
      rw [← hke, List.getElem_cons_drop, List.take_append_drop]
    rw [hs1]
    conv => rhs; rw [hs2]
    rw [List.filter_append, List.filter_append, List.filter_cons, List.filter_cons]
    by_cases hij : i = j <;> simp [hij]
theorem Inv.setNew (h : Inv R ms ns) {i : Int} {p : Pr} (hm : ms i p.name = none) :
    Inv (R ++ [⟨i, p⟩]) (upI ms i (upS (ms i) p.name (some p))) (upI ns i (ns i + 1)) := by
  have hno : ∀ (j : Nat) (a : Hd), R[j]? = some a → a.win = i → a.p.name = p.name → False := fun j a ha e1 e2 => by
    have := (h.mem i p.name a.p).2 ⟨by rw [← e1]; exact List.mem_of_getElem? ha, e2⟩
    rw [hm] at this; cases this
  have old : ∀ (j : Nat) (a : Hd), (R ++ [⟨i, p⟩])[j]? = some a → (j = R.length ∧ a = ⟨i, p⟩) ∨ (j < R.length ∧ R[j]? = some a) := fun j a ha => by
    by_cases hj : j < R.length
    · rw [List.getElem?_append_left hj] at ha; exact .inr ⟨hj, ha⟩
    · have h1 := (List.getElem?_eq_some_iff.1 ha).1
      simp at h1
      obtain rfl : j = R.length := by omega
      rw [List.getElem?_concat_length] at ha
      exact .inl ⟨rfl, (Option.some.inj ha).symm⟩
  refine ⟨fun j j' a b ha hb e1 e2 => ?_, fun j s' p' => ?_, fun j => ?_⟩
  · rcases old j a ha with ⟨rfl, rfl⟩ | ⟨hj, ha'⟩
    · rcases old j' b hb with ⟨rfl, -⟩ | ⟨hj', hb'⟩
      · rfl
      · exact (hno _ _ hb' e1.symm e2.symm).elim
    · rcases old j' b hb with ⟨rfl, rfl⟩ | ⟨hj', hb'⟩
      · exact (hno _ _ ha' e1 e2).elim
      · exact h.ok _ _ _ _ ha' hb' e1 e2
  · rw [List.mem_append, List.mem_singleton]
    by_cases hji : j = i
    · subst hji
      rw [upI_same]
      by_cases hss : s' = p.name
      · rw [hss, upS_same]
        constructor
        · intro e; rw [← Option.some.inj e]; exact ⟨.inr rfl, rfl⟩
        · rintro ⟨e | e, e2⟩
          · have := (h.mem j p.name p').2 ⟨e, e2⟩
            rw [hm] at this; cases this
          · injection e with _ e; rw [e]
      · rw [upS_other _ _ hss, h.mem j s' p']
        constructor
        · rintro ⟨e1, e2⟩; exact ⟨.inl e1, e2⟩
        · rintro ⟨e | e, e2⟩
          · exact ⟨e, e2⟩
          · injection e with _ e; exact absurd (by rw [← e2, e]) hss
    · rw [upI_other _ _ hji, h.mem j s' p']
      simp [hji]
  · rw [List.filter_append, List.length_append, h.cnt j]
    by_cases hji : j = i
    · rw [hji, upI_same]; simp
    · have : ¬ i = j := fun e => hji e.symm
      rw [upI_other _ _ hji]; simp [this]
/-- The document's list behind Set. -/
def setR (R : List Hd) (ms : Int → ByteArray → Option Pr) (ns : Int → Nat) (i : Int) (p : Pr) : List Hd :=
  if setE p (ms i) (ns i) = 0 then (if (ms i p.name).isSome then R.set (placeN R i p.name) ⟨i, p⟩ else R ++ [⟨i, p⟩]) else R
theorem Inv.set (h : Inv R ms ns) (i : Int) (p : Pr) : Inv (setR R ms ns i p) (setM ms ns i p) (setN ms ns i p) := by
  unfold setR setM setN
  split
  · cases hs : (ms i p.name).isSome with
    | true => exact h.setHas hs
    | false => exact h.setNew (by simpa using hs)
  · exact h
end
end Go.Proofs.YtfdgpbdppenhmaaGreat.Pp
end
section
namespace Go.Proofs.YtfdgpbdppenhmaaGreat.Pp
open Go.RowKit Go.Maps Go.Sort Go.Shelf
theorem tr_leB : ∀ a b c : List UInt8, leB a b = true → leB b c = true → leB a c = true := fun a b c h1 h2 => by simp only [leB, decide_eq_true_eq] at *; exact List.le_trans h1 h2
theorem to_leB : ∀ a b : List UInt8, (leB a b || leB b a) = true := fun a b => by simp only [leB, Bool.or_eq_true, decide_eq_true_eq]; exact List.le_total a b
theorem keyS_txt (x : List UInt8) : keyS (txt x) = .string x := rfl
theorem txt_size (x : List UInt8) : (txt x).size = x.length := by show x.toArray.size = _; simp
theorem apart_ne {α β : Type} {enc : α → List Value} {enc' : β → List Value} {T T' : TypeId} {k k' : Nat} {w : World} {v v' : Value} {xs : List α} {ys : List β} {B B' : Nat} (h1 : OwK enc T k w B v xs) (h2 : OwK enc' T' k' w B' v' ys) (hT : T ≠ T') : v.ownBlock = none ∨ v.ownBlock ≠ v'.ownBlock := by
  rcases h1.2 with ⟨k1, _⟩ | ⟨g, cap, cur, k1, _, k2, _⟩
  · exact .inl (by rw [k1]; rfl)
  · right
    intro e
    rcases h2.2 with ⟨k3, _⟩ | ⟨g', cap', cur', k3, _, k4, _⟩
    · rw [k1, k3] at e; simp [Value.ownBlock] at e
    · rw [k1, k3] at e
      simp only [Value.ownBlock, Option.some.injEq] at e
      subst e
      rw [k2] at k4
      injection k4 with k4
      injection k4 with _ k5
      exact hT k5
section
variable {w wr w1 : World} {sv u v' : Value} {ss : List (List UInt8)} {xs : List Pr}
end
end Go.Proofs.YtfdgpbdppenhmaaGreat.Pp
end
section
namespace Go.Proofs.YtfdgpbdppenhmaaGreat.Pp
open Go.Sort
abbrev nm (p : Pr) : List UInt8 := p.name.data.toList
theorem txt_nm (p : Pr) : txt (nm p) = p.name := by
  apply ByteArray.ext
  simp
def insP (p : Pr) : List Pr → List Pr
  | [] => [p]
  | x :: t => if nm x < nm p then x :: insP p t else p :: x :: t
def listR (R : List Hd) (i : Int) : List Pr := R.foldl (fun out h => if h.win = i then insP h.p out else out) []
theorem listR_snoc (R : List Hd) (h : Hd) (i : Int) : listR (R ++ [h]) i = if h.win = i then insP h.p (listR R i) else listR R i := by
  unfold listR
  rw [List.foldl_append]; rfl
theorem ins_perm (p : Pr) : ∀ l, (insP p l).Perm (p :: l)
  | [] => .refl _
  | x :: t => by
    unfold insP
    split
    · exact ((ins_perm p t).cons x).trans (List.Perm.swap p x t)
    · exact .refl _
theorem ins_len (p : Pr) (l : List Pr) : (insP p l).length = l.length + 1 := by rw [(ins_perm p l).length_eq]; rfl
theorem ins_up (p : Pr) : ∀ l : List Pr, l.Pairwise (fun a b => leB (nm a) (nm b) = true) → (insP p l).Pairwise (fun a b => leB (nm a) (nm b) = true)
  | [], _ => by simp [insP]
  | x :: t, h => by
    obtain ⟨h1, h2⟩ := List.pairwise_cons.1 h
    unfold insP
    split
    · next hx =>
      refine List.pairwise_cons.2 ⟨fun y hy => ?_, ins_up p t h2⟩
      rcases List.mem_cons.1 ((ins_perm p t).mem_iff.1 hy) with rfl | hy
      · simp only [leB, decide_eq_true_eq]; exact List.le_of_lt hx
      · exact h1 y hy
    · next hx =>
      have hpx : leB (nm p) (nm x) = true := by simp only [leB, decide_eq_true_eq]; exact List.not_lt.1 hx
      refine List.pairwise_cons.2 ⟨fun y hy => ?_, h⟩
      rcases List.mem_cons.1 hy with rfl | hy
      · exact hpx
      · exact tr_leB _ _ _ hpx (h1 y hy)
theorem ins_at {p : Pr} : ∀ (i : Nat) (l : List Pr), i ≤ l.length → (∀ j x, j < i → l[j]? = some x → nm x < nm p) → (∀ x, l[i]? = some x → ¬ nm x < nm p) → insP p l = l.take i ++ [p] ++ l.drop i
  | 0, [], _, _, _ => rfl
  | 0, x :: t, _, _, h => by
    unfold insP
    rw [if_neg (h x rfl)]; rfl
  | i + 1, [], h, _, _ => by simp at h
  | i + 1, x :: t, h, hl, hg => by
    unfold insP
    rw [if_pos (hl 0 x (by omega) rfl), ins_at i t (by simpa using h) (fun j y hj hy => hl (j + 1) y (by omega) (by simpa using hy)) (fun y hy => hg y (by simpa using hy))]
    rfl
theorem snoc_ind {α : Type} {P : List α → Prop} (h0 : P []) (h1 : ∀ l x, P l → P (l ++ [x])) (l : List α) : P l := by
  have key : ∀ r : List α, P r.reverse := fun r => by
    induction r with
    | nil => exact h0
    | cons x t ih => rw [List.reverse_cons]; exact h1 _ _ ih
  have := key l.reverse
  rwa [List.reverse_reverse] at this
theorem listR_perm (i : Int) : ∀ R : List Hd, (listR R i).Perm (((R.filter (fun h => decide (h.win = i))).map Hd.p).reverse) := by
  intro R
  refine snoc_ind (P := fun R => (listR R i).Perm (((R.filter (fun h => decide (h.win = i))).map Hd.p).reverse)) (List.Perm.refl _) (fun R h ih => ?_) R
  · skip
    rw [listR_snoc, List.filter_append, List.map_append, List.reverse_append]
    by_cases hw : h.win = i
    · rw [if_pos hw]
      simp only [hw, decide_true, List.filter_cons_of_pos, List.filter_nil, List.map_cons, List.map_nil, List.reverse_singleton]
      exact (ins_perm _ _).trans (ih.cons _)
    · rw [if_neg hw]
      simpa [hw] using ih
theorem listR_up (i : Int) : ∀ R : List Hd, (listR R i).Pairwise (fun a b => leB (nm a) (nm b) = true) := by
  intro R
  refine snoc_ind (P := fun R => (listR R i).Pairwise (fun a b => leB (nm a) (nm b) = true)) List.Pairwise.nil (fun R h ih => ?_) R
  · skip
    rw [listR_snoc]
    split
    · exact ins_up _ _ ih
    · exact ih
theorem listR_len (R : List Hd) (i : Int) : (listR R i).length = (R.filter (fun h => decide (h.win = i))).length := by
  rw [(listR_perm i R).length_eq]; simp
section
variable {R : List Hd} {ms : Int → ByteArray → Option Pr} {ns : Int → Nat}
end
end Go.Proofs.YtfdgpbdppenhmaaGreat.Pp
end
