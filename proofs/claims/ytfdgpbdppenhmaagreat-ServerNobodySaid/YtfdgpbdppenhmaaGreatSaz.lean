/- A table as a whole: what a call answers and leaves. -/
import Derived.Test.YtfdgpbdppenhmaaGreatSay
section
namespace Go.Proofs.YtfdgpbdppenhmaaGreat.Pp
open Go.RowKit Go.Maps
/-- What Set answers. -/
def setE (p : Pr) (f : ByteArray → Option Pr) (n : Nat) : Int :=
  if nameB p.name = true ∧ nameB p.typ = true then (if 256 < p.data.size then 71 else if (f p.name).isSome = false ∧ 32 ≤ n then 2 else 0) else 70
def setM (ms : Int → ByteArray → Option Pr) (ns : Int → Nat) (i : Int) (p : Pr) : Int → ByteArray → Option Pr :=
  if setE p (ms i) (ns i) = 0 then upI ms i (upS (ms i) p.name (some p)) else ms
def setN (ms : Int → ByteArray → Option Pr) (ns : Int → Nat) (i : Int) (p : Pr) : Int → Nat :=
  if setE p (ms i) (ns i) = 0 then upI ns i (if (ms i p.name).isSome then ns i else ns i + 1) else ns
def remN (ms : Int → ByteArray → Option Pr) (ns : Int → Nat) (i : Int) (s : ByteArray) : Int → Nat := upI ns i (if (ms i s).isSome then ns i - 1 else ns i)
/-- A table that the call made: its memory lies behind n0. -/
def Tb (n0 : Nat) (w0 w : World) (t : Nat) (ms : Int → ByteArray → Option Pr) (ns : Int → Nat) (k : Nat) : Prop :=
  ∃ bm nb cnt, TabH w t bm nb cnt ms ns ∧ cnt ≤ k ∧ (∀ i, I64 i → ns i ≤ 32) ∧ (∀ i s p, ms i s = some p → p.name = s ∧ nameB p.name = true ∧ nameB p.typ = true ∧ p.data.size ≤ 256) ∧
    (∀ i, I64 i → nb i = none → ns i = 0) ∧ Below n0 w0 w ∧ n0 ≤ w.heap.size ∧ n0 ≤ bm ∧ ∀ i b, I64 i → nb i = some b → n0 ≤ b
/-- What lies in memory, but for maps, is kept. -/
def Keep (w w' : World) : Prop := ∀ g T cs, Blk w g T cs → Blk w' g T cs
theorem Keep.of (w w' : World) (hb : Below w.heap.size w w') : Keep w w' := fun _ _ _ h => h.next hb
theorem nameB_size {s : ByteArray} (h : nameB s = true) : s.size ≤ 32 := (of_decide_eq_true h).1.2
theorem upI_self {α : Type} (f : Int → α) (i : Int) : upI f i (f i) = f := by
  funext j; unfold upI; split
  · next h => rw [h]
  · rfl
theorem upS_self {α : Type} (f : ByteArray → α) (i : ByteArray) : upS f i (f i) = f := by
  funext j; unfold upS; split
  · next h => rw [h]
  · rfl
section
variable {n0 k t : Nat} {w0 w w' : World} {ms : Int → ByteArray → Option Pr} {ns : Int → Nat}
theorem Tb.next (H : Tb n0 w0 w t ms ns k) (hb : Below w.heap.size w w') : Tb n0 w0 w' t ms ns k := by
  obtain ⟨bm, nb, cnt, h, h1, h2, h3, h4, h5, h6, h7⟩ := H
  exact ⟨bm, nb, cnt, h.next hb, h1, h2, h3, h4, hb.on h5 h6, Nat.le_trans h6 hb.size, h7⟩
theorem Tb.below (H : Tb n0 w0 w t ms ns k) : Below n0 w0 w := by
  obtain ⟨bm, nb, cnt, h, h1, h2, h3, h4, h5, h6, h7⟩ := H
  exact h5
theorem Tb.size (H : Tb n0 w0 w t ms ns k) : n0 ≤ w.heap.size := by
  obtain ⟨bm, nb, cnt, h, h1, h2, h3, h4, h5, h6, h7⟩ := H
  exact h6
theorem Tb.more (H : Tb n0 w0 w t ms ns k) {k' : Nat} (hk : k ≤ k') : Tb n0 w0 w t ms ns k' := by
  obtain ⟨bm, nb, cnt, h, h1, h2⟩ := H
  exact ⟨bm, nb, cnt, h, Nat.le_trans h1 hk, h2⟩
theorem Tb.small (H : Tb n0 w0 w t ms ns k) (i : Int) (s : ByteArray) : ((ms i s).getD noP).name.size ≤ 32 ∧ ((ms i s).getD noP).typ.size ≤ 32 ∧ ((ms i s).getD noP).data.size ≤ 256 := by
  obtain ⟨bm, nb, cnt, h, h1, h2, h3, h4, h5, h6, h7⟩ := H
  cases hm : ms i s with
  | none => decide +kernel
  | some p =>
    obtain ⟨-, a, b, c⟩ := h3 i s p hm
    exact ⟨nameB_size a, nameB_size b, c⟩
theorem tb_new (w : World) : Calls Tryz.prog 34 #[] w fun e w' => ∃ t, e = .returned (tabP t) ∧ Tb w.heap.size w w' t (fun _ _ => none) (fun _ => 0) 0 :=
  (new_c w).mono fun e w' ⟨t, bm, he, ht, hb, _, h2⟩ => ⟨t, he, bm, _, _, ht, Nat.le_refl _, fun _ _ => Nat.zero_le _, fun i s p h => (by cases h), fun _ _ _ => rfl, hb, hb.size, h2, fun i b _ h => by cases h⟩
theorem tb_get (H : Tb n0 w0 w t ms ns k) {i : Int} (hi : I64 i) {s : ByteArray} (hs : s.size ≤ maxLen) :
    Calls Tryz.prog 50 #[tabP t, .int .i64 i, .string s] w fun e w' => e = .returned (.tuple #[prV ((ms i s).getD noP), .bool (ms i s).isSome]) ∧ Below w.heap.size w w' := by
  have hsm := H.small i s
  obtain ⟨bm, nb, cnt, h, -⟩ := H
  exact get_c h hi hs ⟨by omega, by omega, by omega⟩
theorem tb_drop (H : Tb n0 w0 w t ms ns k) {i : Int} (hi : I64 i) :
    Calls Tryz.prog 111 #[tabP t, .int .i64 i] w fun e w' => e = .returned (.tuple #[]) ∧ Tb n0 w0 w' t (upI ms i (fun _ => none)) (upI ns i 0) k ∧ Keep w w' := by
  obtain ⟨bm, nb, cnt, h, h1, h2, h3, h4, h5, h6, h7, h8⟩ := H
  refine (drop_c h hi).mono fun e w' ⟨he, ⟨c', hc, ht⟩, hg⟩ => ⟨he, ⟨bm, _, c', ht, Nat.le_trans hc h1, fun j hj => ?_, fun j s p hp => ?_, fun j hj hn => ?_, below_only h5 hg h6 (fun g e => by injection e with e; omega), Nat.le_trans h6 hg.size, h7, fun j b hj hb => ?_⟩, fun g T cs hx => hx.grown hg (fun e => blk_map_ne hx h.map (Option.some.inj e))⟩
  · by_cases hji : j = i
    · rw [hji, upI_same]; decide
    · rw [upI_other _ _ hji]; exact h2 j hj
  · by_cases hji : j = i
    · rw [hji, upI_same] at hp; cases hp
    · rw [upI_other _ _ hji] at hp; exact h3 j s p hp
  · by_cases hji : j = i
    · rw [hji, upI_same]
    · rw [upI_other _ _ hji] at hn ⊢; exact h4 j hj hn
  · by_cases hji : j = i
    · rw [hji, upI_same] at hb; cases hb
    · rw [upI_other _ _ hji] at hb; exact h8 j b hj hb
theorem tb_set (H : Tb n0 w0 w t ms ns k) (hk : k < 1048576) {i : Int} (hi : I64 i) (p : Pr) (z1 : p.name.size ≤ maxLen) (z2 : p.typ.size ≤ maxLen) :
    Calls Tryz.prog 119 #[tabP t, .int .i64 i, prV p] w fun e w' => e = .returned (.int .i64 (setE p (ms i) (ns i))) ∧ Tb n0 w0 w' t (setM ms ns i p) (setN ms ns i p) (k + 1) ∧ Keep w w' := by
  have H' := H.more (Nat.le_succ k)
  obtain ⟨bm, nb, cnt, h, h1, h2, h3, h4, h5, h6, h7, h8⟩ := H
  have no : ∀ r : Int, r ≠ 0 → setE p (ms i) (ns i) = r → Calls Tryz.prog 119 #[tabP t, .int .i64 i, prV p] w (fun e w' => e = .returned (.int .i64 r) ∧ Below w.heap.size w w') → Calls Tryz.prog 119 #[tabP t, .int .i64 i, prV p] w fun e w' => e = .returned (.int .i64 (setE p (ms i) (ns i))) ∧ Tb n0 w0 w' t (setM ms ns i p) (setN ms ns i p) (k + 1) ∧ Keep w w' := fun r hr he hc => by
    unfold setM setN
    rw [he, if_neg hr, if_neg hr]
    exact hc.mono fun e w' ⟨he, hb⟩ => ⟨he, H'.next hb, Keep.of _ _ hb⟩
  have z1' : p.name.size ≤ 9223372036854775807 := z1
  have z2' : p.typ.size ≤ 9223372036854775807 := z2
  cases b1 : nameB p.name with
  | false => exact no 70 (by decide) (by unfold setE; rw [b1]; simp) (set_badname h hi p z1' z2' b1)
  | true =>
    cases b2 : nameB p.typ with
    | false => exact no 70 (by decide) (by unfold setE; rw [b1, b2]; simp) (set_badtype h hi p z1' z2' b1 b2)
    | true =>
      by_cases b3 : 256 < p.data.size
      · exact no 71 (by decide) (by unfold setE; rw [if_pos ⟨b1, b2⟩, if_pos b3]) (set_long h hi p z1' z2' b1 b2 b3)
      · by_cases b4 : (ms i p.name).isSome = false ∧ 32 ≤ ns i
        · have he : setE p (ms i) (ns i) = 2 := by unfold setE; rw [if_pos ⟨b1, b2⟩, if_neg b3, if_pos b4]
          cases hn : nb i with
          | none => have := h4 i hi hn; omega
          | some b => exact no 2 (by decide) he (set_full h hi p hn b1 b2 (by omega) b4.1 b4.2)
        · have he : setE p (ms i) (ns i) = 0 := by unfold setE; rw [if_pos ⟨b1, b2⟩, if_neg b3, if_neg b4]
          have hle := h2 i hi
          have hsm : ∀ (j : Int) (s : ByteArray) (q : Pr), upI ms i (upS (ms i) p.name (some p)) j s = some q → q.name = s ∧ nameB q.name = true ∧ nameB q.typ = true ∧ q.data.size ≤ 256 := fun j s q hq => by
            by_cases hji : j = i
            · rw [hji, upI_same] at hq
              by_cases hss : s = p.name
              · rw [hss, upS_same] at hq
                injection hq with hq
                rw [← hq, hss]
                exact ⟨rfl, b1, b2, by omega⟩
              · rw [upS_other _ _ hss] at hq; exact h3 i s q hq
            · rw [upI_other _ _ hji] at hq; exact h3 j s q hq
          unfold setM setN
          rw [he, if_pos rfl, if_pos rfl]
          have hnn : (ms i p.name).isSome = false → ns i < 32 := fun hx => by
            rcases Nat.lt_or_ge (ns i) 32 with hy | hy
            · exact hy
            · exact absurd ⟨hx, hy⟩ b4
          have hsz : ∀ j, I64 j → upI ns i (if (ms i p.name).isSome then ns i else ns i + 1) j ≤ 32 := fun j hj => by
            by_cases hji : j = i
            · rw [hji, upI_same]
              cases hx : (ms i p.name).isSome with
              | true => simpa using hle
              | false => have := hnn hx; simp; omega
            · rw [upI_other _ _ hji]; exact h2 j hj
          cases hn : nb i with
          | none =>
            have e1 : (fun _ => none : ByteArray → Option Pr) = ms i := by funext s; exact (h.bare i s hn).symm
            have e2 : (if (ms i p.name).isSome then ns i else ns i + 1) = 1 := by rw [h.bare i _ hn, h4 i hi hn]; rfl
            refine (set_first h hi hn (by omega) p b1 b2 (by omega)).mono fun e w' ⟨he', b, ht, hb, hg⟩ => ?_
            rw [e1] at ht
            rw [e2] at hsz ⊢
            refine ⟨he', ⟨bm, _, cnt + 1, ht, by omega, hsz, hsm, fun j hj hx => ?_, below_only h5 hg h6 (fun g e => by injection e with e; omega), Nat.le_trans h6 hg.size, h7, fun j c hj hc => ?_⟩, fun g T cs hx => hx.grown hg (fun e => blk_map_ne hx h.map (Option.some.inj e))⟩
            · by_cases hji : j = i
              · rw [hji, upI_same] at hx; cases hx
              · rw [upI_other _ _ hji] at hx ⊢; exact h4 j hj hx
            · by_cases hji : j = i
              · rw [hji, upI_same] at hc; injection hc with hc; omega
              · rw [upI_other _ _ hji] at hc; exact h8 j c hj hc
          | some b =>
            have hbn := h8 i b hi hn
            have fin : ∀ m, (if (ms i p.name).isSome then ns i else ns i + 1) = m → Calls Tryz.prog 119 #[tabP t, .int .i64 i, prV p] w (fun e w' => e = .returned (.int .i64 0) ∧ TabH w' t bm nb cnt (upI ms i (upS (ms i) p.name (some p))) (upI ns i m) ∧ w.grownBy w' (some b)) → Calls Tryz.prog 119 #[tabP t, .int .i64 i, prV p] w fun e w' => e = .returned (.int .i64 0) ∧ Tb n0 w0 w' t (upI ms i (upS (ms i) p.name (some p))) (upI ns i (if (ms i p.name).isSome then ns i else ns i + 1)) (k + 1) ∧ Keep w w' := fun m hm hc => by
              rw [hm] at hsz ⊢
              refine hc.mono fun e w' ⟨he', ht, hg⟩ => ⟨he', ⟨bm, nb, cnt, ht, by omega, hsz, hsm, fun j hj hx => ?_, below_only h5 hg h6 (fun g e => by injection e with e; omega), Nat.le_trans h6 hg.size, h7, h8⟩, fun g T cs hx => hx.grown hg (fun e => blk_mapS_ne hx (h.inner i b hi hn) (Option.some.inj e))⟩
              by_cases hji : j = i
              · rw [hji, hn] at hx; cases hx
              · rw [upI_other _ _ hji]; exact h4 j hj hx
            cases hx : (ms i p.name).isSome with
            | true => exact hx ▸ fin (ns i) (by rw [hx]; rfl) (set_has h hi p hn b1 b2 (by omega) hx (by omega))
            | false => exact hx ▸ fin (ns i + 1) (by rw [hx]; rfl) (set_more h hi p hn b1 b2 (by omega) hx (hnn hx) (by omega))
end
end Go.Proofs.YtfdgpbdppenhmaaGreat.Pp
end
