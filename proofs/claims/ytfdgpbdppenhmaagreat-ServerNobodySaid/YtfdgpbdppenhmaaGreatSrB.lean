/- A table's calls as plain functions of the document's list, and which blocks they turn. -/
import Derived.Test.YtfdgpbdppenhmaaGreatSbe
import Derived.Test.YtfdgpbdppenhmaaGreatSag
namespace Go.Proofs.YtfdgpbdppenhmaaGreat.Pp
open Go.RowKit Go.Maps
/-- How a table lies. -/
structure Tl where
  t : Nat
  bm : Nat
  nb : Int → Option Nat
def Tl.foot (l : Tl) : Nat → Prop := fun b => b = l.t ∨ b = l.bm ∨ ∃ i, I64 i ∧ l.nb i = some b
def msH (H : List Hd) : Int → ByteArray → Option Pr := fun i s => getL H i s
def nsH (H : List Hd) : Int → Nat := fun i => (H.filter (fun h => decide (h.win = i))).length
/-- What Set answers, and the list behind it. -/
def eH (H : List Hd) (i : Int) (p : Pr) : Int := setE p (msH H i) (nsH H i)
def sH (H : List Hd) (i : Int) (p : Pr) : List Hd := setR H (msH H) (nsH H) i p
theorem Inv.ms {H : List Hd} {ms : Int → ByteArray → Option Pr} {ns : Int → Nat} (h : Inv H ms ns) : ms = msH H := by
  funext i s; exact (h.get i s).symm
theorem Inv.ns {H : List Hd} {ms : Int → ByteArray → Option Pr} {ns : Int → Nat} (h : Inv H ms ns) : ns = nsH H := by
  funext i; exact (h.cnt i).symm
/-- A good list of properties. -/
structure HOk (H : List Hd) : Prop where
  inv : Inv H (msH H) (nsH H)
  few : ∀ i, nsH H i ≤ 32
  small : ∀ i s p, msH H i s = some p → p.name = s ∧ nameB p.name = true ∧ nameB p.typ = true ∧ p.data.size ≤ 256
theorem HOk.begin : HOk [] := ⟨by have h := Inv.begin; rwa [h.ms, h.ns] at h, fun _ => Nat.zero_le _, fun i s p h => by cases h⟩
theorem HOk.drop {H : List Hd} (h : HOk H) (i : Int) : HOk (dropH i H) := by
  have h1 := h.inv.drop i
  have e1 := h1.ms
  have e2 := h1.ns
  refine ⟨by rw [← e1, ← e2]; exact h1, fun j => ?_, fun j s p hp => ?_⟩
  · rw [← e2]
    by_cases hji : j = i
    · rw [hji, upI_same]; decide
    · rw [upI_other _ _ hji]; exact h.few j
  · rw [← e1] at hp
    by_cases hji : j = i
    · rw [hji, upI_same] at hp; cases hp
    · rw [upI_other _ _ hji] at hp; exact h.small j s p hp
theorem HOk.set {H : List Hd} (h : HOk H) (i : Int) (p : Pr) : HOk (sH H i p) := by
  have h1 := h.inv.set i p
  have e1 := h1.ms
  have e2 := h1.ns
  refine ⟨by unfold sH; rw [← e1, ← e2]; exact h1, fun j => ?_, fun j s q hq => ?_⟩
  · unfold sH
    rw [← e2]
    unfold setN
    split
    · next he =>
      by_cases hji : j = i
      · rw [hji, upI_same]
        have hle := h.few i
        cases hx : (msH H i p.name).isSome with
        | true => simpa using hle
        | false =>
          unfold setE at he
          split at he
          · split at he
            · omega
            · split at he
              · omega
              · next hn =>
                have : nsH H i < 32 := by
                  rcases Nat.lt_or_ge (nsH H i) 32 with hy | hy
                  · exact hy
                  · exact absurd ⟨hx, hy⟩ hn
                simp; omega
          · omega
      · rw [upI_other _ _ hji]; exact h.few j
    · exact h.few j
  · unfold sH at hq
    rw [← e1] at hq
    unfold setM at hq
    split at hq
    · next he =>
      by_cases hji : j = i
      · rw [hji, upI_same] at hq
        by_cases hss : s = p.name
        · rw [hss, upS_same] at hq
          injection hq with hq
          rw [← hq, hss]
          unfold setE at he
          split at he
          · next hb =>
            split at he
            · omega
            · exact ⟨rfl, hb.1, hb.2, by omega⟩
          · omega
        · rw [upS_other _ _ hss] at hq; exact h.small i s q hq
      · rw [upI_other _ _ hji] at hq; exact h.small j s q hq
    · exact h.small j s q hq
theorem HOk.get {H : List Hd} (h : HOk H) (i : Int) (s : ByteArray) : ((msH H i s).getD noP).name.size ≤ 32 ∧ ((msH H i s).getD noP).typ.size ≤ 32 ∧ ((msH H i s).getD noP).data.size ≤ 256 := by
  cases hm : msH H i s with
  | none => decide +kernel
  | some p =>
    obtain ⟨-, a, b, c⟩ := h.small i s p hm
    exact ⟨nameB_size a, nameB_size b, c⟩
/-- A table in memory, as the list has it. -/
def TT (w : World) (l : Tl) (H : List Hd) (k : Nat) : Prop :=
  ∃ cnt, TabH w l.t l.bm l.nb cnt (msH H) (nsH H) ∧ cnt ≤ k ∧ ∀ i, I64 i → l.nb i = none → nsH H i = 0
section
variable {w w' : World} {l : Tl} {H : List Hd} {k : Nat}
theorem TT.more (h : TT w l H k) {k' : Nat} (hk : k ≤ k') : TT w l H k' := by
  obtain ⟨c, h1, h2, h3⟩ := h
  exact ⟨c, h1, Nat.le_trans h2 hk, h3⟩
theorem TT.lt (h : TT w l H k) {b : Nat} (hb : l.foot b) : b < w.heap.size := by
  obtain ⟨c, h1, -⟩ := h
  rcases hb with rfl | rfl | ⟨i, hi, hn⟩
  · exact h1.tab.lt
  · exact h1.map.lt
  · exact (h1.inner i b hi hn).lt
theorem TT.kept (h : TT w l H k) (hk : ∀ b, l.foot b → w'.heap[b]? = w.heap[b]?) : TT w' l H k := by
  obtain ⟨c, h1, h2, h3⟩ := h
  exact ⟨c, h1.kept (fun g _ hg => hk g hg), h2, h3⟩
theorem TT.next (h : TT w l H k) (hb : Below w.heap.size w w') : TT w' l H k := h.kept fun b hf => hb.block b (h.lt hf)
theorem turn_grown {F F' : Nat → Prop} {b : Nat} (hg : w.grownBy w' (some b)) (hb : F b) (hF : ∀ i, F' i → F i ∨ w.heap.size ≤ i) : Turn F F' w w' :=
  ⟨hg.os, hg.tape, hg.output, hg.size, fun i hi hn => hg.block i hi (fun e => hn (by injection e with e; rw [e]; exact hb)), hF⟩
theorem tt_new (w : World) : Calls Tryz.prog 34 #[] w fun e w' => ∃ l, e = .returned (tabP l.t) ∧ TT w' l [] 0 ∧ Below w.heap.size w w' ∧ ∀ b, l.foot b → w.heap.size ≤ b :=
  (new_c w).mono fun e w' ⟨t, bm, he, ht, hb, h1, h2⟩ => ⟨⟨t, bm, fun _ => none⟩, he, ⟨0, by
    have h := Inv.begin
    rw [h.ms, h.ns] at ht
    exact ht, Nat.le_refl _, fun _ _ _ => rfl⟩, hb, fun b hf => by
    rcases hf with rfl | rfl | ⟨i, _, hn⟩
    · exact h1
    · exact h2
    · cases hn⟩
theorem tt_get (h : TT w l H k) (hH : HOk H) {i : Int} (hi : I64 i) {s : ByteArray} (hs : s.size ≤ maxLen) :
    Calls Tryz.prog 50 #[tabP l.t, .int .i64 i, .string s] w fun e w' => e = .returned (.tuple #[prV ((msH H i s).getD noP), .bool (msH H i s).isSome]) ∧ Below w.heap.size w w' := by
  have hsm := hH.get i s
  obtain ⟨c, h1, -⟩ := h
  exact get_c h1 hi hs ⟨by omega, by omega, by omega⟩
theorem tt_drop (h : TT w l H k) (hH : HOk H) {i : Int} (hi : I64 i) :
    Calls Tryz.prog 111 #[tabP l.t, .int .i64 i] w fun e w' => e = .returned (.tuple #[]) ∧ ∃ l' : Tl, l'.t = l.t ∧ TT w' l' (dropH i H) k ∧ Turn l.foot l'.foot w w' := by
  obtain ⟨c, h1, h2, h3⟩ := h
  have hI := hH.inv.drop i
  refine (drop_c h1 hi).mono fun e w' ⟨he, ⟨c', hc, ht⟩, hg⟩ => ⟨he, ⟨l.t, l.bm, upI l.nb i none⟩, rfl, ⟨c', ?_, Nat.le_trans hc h2, fun j hj hn => ?_⟩, turn_grown hg (.inr (.inl rfl)) (fun b hb => .inl ?_)⟩
  · rw [← hI.ms, ← hI.ns]; exact ht
  · rw [← hI.ns]
    by_cases hji : j = i
    · rw [hji, upI_same]
    · have hn' : upI l.nb i none j = none := hn
      rw [upI_other _ _ hji] at hn' ⊢; exact h3 j hj hn'
  · rcases hb with h4 | h4 | ⟨j, hj, hn⟩
    · exact .inl h4
    · exact .inr (.inl h4)
    · have hn' : upI l.nb i none j = some b := hn
      by_cases hji : j = i
      · rw [hji, upI_same] at hn'; cases hn'
      · rw [upI_other _ _ hji] at hn'; exact .inr (.inr ⟨j, hj, hn'⟩)
theorem tt_set (h : TT w l H k) (hH : HOk H) (hk : k < 1048576) {i : Int} (hi : I64 i) (p : Pr) (z1 : p.name.size ≤ maxLen) (z2 : p.typ.size ≤ maxLen) :
    Calls Tryz.prog 119 #[tabP l.t, .int .i64 i, prV p] w fun e w' => e = .returned (.int .i64 (eH H i p)) ∧ ∃ l' : Tl, l'.t = l.t ∧ TT w' l' (sH H i p) (k + 1) ∧ Turn l.foot l'.foot w w' := by
  have hT := h
  obtain ⟨cnt, h, h1, h4⟩ := h
  have hI := hH.inv.set i p
  have eM : msH (sH H i p) = setM (msH H) (nsH H) i p := hI.ms.symm
  have eN : nsH (sH H i p) = setN (msH H) (nsH H) i p := hI.ns.symm
  have no : ∀ r : Int, r ≠ 0 → eH H i p = r → Calls Tryz.prog 119 #[tabP l.t, .int .i64 i, prV p] w (fun e w' => e = .returned (.int .i64 r) ∧ Below w.heap.size w w') → Calls Tryz.prog 119 #[tabP l.t, .int .i64 i, prV p] w fun e w' => e = .returned (.int .i64 (eH H i p)) ∧ ∃ l' : Tl, l'.t = l.t ∧ TT w' l' (sH H i p) (k + 1) ∧ Turn l.foot l'.foot w w' := fun r hr he hc => by
    have e1 : sH H i p = H := by unfold sH setR; rw [if_neg]; show ¬ eH H i p = 0; rw [he]; exact hr
    rw [he, e1]
    exact hc.mono fun e w' ⟨he, hb⟩ => ⟨he, l, rfl, (hT.next hb).more (Nat.le_succ k), Turn.of_below hb⟩
  have z1' : p.name.size ≤ 9223372036854775807 := z1
  have z2' : p.typ.size ≤ 9223372036854775807 := z2
  cases b1 : nameB p.name with
  | false => exact no 70 (by decide) (by unfold eH setE; rw [b1]; simp) (set_badname h hi p z1' z2' b1)
  | true =>
    cases b2 : nameB p.typ with
    | false => exact no 70 (by decide) (by unfold eH setE; rw [b1, b2]; simp) (set_badtype h hi p z1' z2' b1 b2)
    | true =>
      by_cases b3 : 256 < p.data.size
      · exact no 71 (by decide) (by unfold eH setE; rw [if_pos ⟨b1, b2⟩, if_pos b3]) (set_long h hi p z1' z2' b1 b2 b3)
      · by_cases b4 : (msH H i p.name).isSome = false ∧ 32 ≤ nsH H i
        · have he : eH H i p = 2 := by unfold eH setE; rw [if_pos ⟨b1, b2⟩, if_neg b3, if_pos b4]
          cases hn : l.nb i with
          | none => have := h4 i hi hn; omega
          | some b => exact no 2 (by decide) he (set_full h hi p hn b1 b2 (by omega) b4.1 b4.2)
        · have he : eH H i p = 0 := by unfold eH setE; rw [if_pos ⟨b1, b2⟩, if_neg b3, if_neg b4]
          have he2 : setE p (msH H i) (nsH H i) = 0 := he
          have hle := hH.few i
          have hnn : (msH H i p.name).isSome = false → nsH H i < 32 := fun hx => by
            rcases Nat.lt_or_ge (nsH H i) 32 with hy | hy
            · exact hy
            · exact absurd ⟨hx, hy⟩ b4
          have eM' : msH (sH H i p) = upI (msH H) i (upS (msH H i) p.name (some p)) := by rw [eM]; unfold setM; rw [if_pos he2]
          have eN' : nsH (sH H i p) = upI (nsH H) i (if (msH H i p.name).isSome then nsH H i else nsH H i + 1) := by rw [eN]; unfold setN; rw [if_pos he2]
          unfold TT
          rw [he, eM', eN']
          cases hn : l.nb i with
          | none =>
            have e1 : (fun _ => none : ByteArray → Option Pr) = msH H i := by funext s; exact (h.bare i s hn).symm
            have e2 : (if (msH H i p.name).isSome then nsH H i else nsH H i + 1) = 1 := by rw [h.bare i _ hn, h4 i hi hn]; rfl
            refine (set_first h hi hn (by omega) p b1 b2 (by omega)).mono fun e w' ⟨he', b, ht, hb, hg⟩ => ?_
            rw [e1] at ht
            rw [e2]
            refine ⟨he', ⟨l.t, l.bm, upI l.nb i (some b)⟩, rfl, ⟨cnt + 1, ht, by omega, fun j hj hx => ?_⟩, turn_grown hg (.inr (.inl rfl)) (fun c hc => ?_)⟩
            · have hx' : upI l.nb i (some b) j = none := hx
              by_cases hji : j = i
              · rw [hji, upI_same] at hx'; cases hx'
              · rw [upI_other _ _ hji] at hx' ⊢; exact h4 j hj hx'
            · rcases hc with h5 | h5 | ⟨j, hj, hc⟩
              · exact .inl (.inl h5)
              · exact .inl (.inr (.inl h5))
              · have hc' : upI l.nb i (some b) j = some c := hc
                by_cases hji : j = i
                · rw [hji, upI_same] at hc'; injection hc' with hc'; rw [← hc']; exact .inr hb
                · rw [upI_other _ _ hji] at hc'; exact .inl (.inr (.inr ⟨j, hj, hc'⟩))
          | some b =>
            have fin : ∀ m : Nat, (if (msH H i p.name).isSome then nsH H i else nsH H i + 1) = m → Calls Tryz.prog 119 #[tabP l.t, .int .i64 i, prV p] w (fun e w' => e = .returned (.int .i64 0) ∧ TabH w' l.t l.bm l.nb cnt (upI (msH H) i (upS (msH H i) p.name (some p))) (upI (nsH H) i m) ∧ w.grownBy w' (some b)) → Calls Tryz.prog 119 #[tabP l.t, .int .i64 i, prV p] w fun e w' => e = .returned (.int .i64 0) ∧ ∃ l' : Tl, l'.t = l.t ∧ (∃ cnt', TabH w' l'.t l'.bm l'.nb cnt' (upI (msH H) i (upS (msH H i) p.name (some p))) (upI (nsH H) i (if (msH H i p.name).isSome then nsH H i else nsH H i + 1)) ∧ cnt' ≤ k + 1 ∧ ∀ j, I64 j → l'.nb j = none → upI (nsH H) i (if (msH H i p.name).isSome then nsH H i else nsH H i + 1) j = 0) ∧ Turn l.foot l'.foot w w' := fun m hm hc => by
              rw [hm]
              refine hc.mono fun e w' ⟨he', ht, hg⟩ => ⟨he', l, rfl, ⟨cnt, ht, by omega, fun j hj hx => ?_⟩, turn_grown hg (.inr (.inr ⟨i, hi, hn⟩)) (fun c hc => .inl hc)⟩
              by_cases hji : j = i
              · rw [hji, hn] at hx; cases hx
              · rw [upI_other _ _ hji]; exact h4 j hj hx
            cases hx : (msH H i p.name).isSome with
            | true => exact hx ▸ fin (nsH H i) (by rw [hx]; rfl) (set_has h hi p hn b1 b2 (by omega) hx (by omega))
            | false => exact hx ▸ fin (nsH H i + 1) (by rw [hx]; rfl) (set_more h hi p hn b1 b2 (by omega) hx (hnn hx) (by omega))
end
end Go.Proofs.YtfdgpbdppenhmaaGreat.Pp
