/- PropPlays: the pieces. -/
import Derived.Test.YtfflgkbemfichaaDoorPsJ
import Derived.Test.YtfflgkbemfichaaDoorPrJ
namespace Go.Proofs.YtfflgkbemfichaaDoor
open Go.RowKit Go.Shelf Go.Maps
theorem OwK.keep {α : Type} {enc : α → List Value} {T : TypeId} {k : Nat} {w w' : World} {B : Nat} {v : Value} {xs : List α} (h : OwK enc T k w B v xs) (hk : Keep w w') : OwK enc T k w' B v xs := by
  obtain ⟨h1, h2⟩ := h
  refine ⟨h1, ?_⟩
  rcases h2 with h2 | ⟨g, cap, cur, a, b, c, d⟩
  · exact .inl h2
  · exact .inr ⟨g, cap, cur, a, b, hk g T cur c, d⟩
section
variable {w : World} {B : Nat} {v : Value} {R : List Hd} {ms : Int → ByteArray → Option Pr} {ns : Int → Nat}
theorem rset_c (h : OH w B v R) (hB : B ≤ w.heap.size) (hI : Inv R ms ns) (hL : R.length ≤ 1048576) (i : Int) (p : Pr) (z1 : p.name.size ≤ 9223372036854775807) (z2 : p.typ.size ≤ 9223372036854775807) :
    Calls Tryd.prog 10 #[v, .int .i64 i, prV p] w fun e w' => ∃ v', e = .returned (.tuple #[v', .int .i64 (setE p (ms i) (ns i))]) ∧ OH w' B v' (setR R ms ns i p) ∧ Below w.heap.size w w' := by
  have hpl := hI.place i p.name
  have hcn : (listR R i).length = ns i := by rw [listR_len, hI.cnt i]
  unfold setR
  cases b1 : nameB p.name with
  | false =>
    have he : setE p (ms i) (ns i) = 70 := by unfold setE; rw [b1]; simp
    rw [he]
    exact rset_badname h hL i p z1 z2 b1
  | true =>
    cases b2 : nameB p.typ with
    | false =>
      have he : setE p (ms i) (ns i) = 70 := by unfold setE; rw [b1, b2]; simp
      rw [he]
      exact rset_badtype h hL i p z1 z2 b1 b2
    | true =>
      by_cases b3 : 256 < p.data.size
      · have he : setE p (ms i) (ns i) = 71 := by unfold setE; rw [if_pos ⟨b1, b2⟩, if_pos b3]
        rw [he]
        exact rset_long h hL i p z1 z2 b1 b2 b3
      · cases hs : ms i p.name with
        | some q =>
          have he : setE p (ms i) (ns i) = 0 := by unfold setE; rw [if_pos ⟨b1, b2⟩, if_neg b3, if_neg (by rw [hs]; simp)]
          have hf := hI.found hs
          have hpk : placeI R i p.name = (placeN R i p.name : Int) := by unfold placeI; rw [if_pos (List.getElem?_eq_some_iff.1 hf).1]
          rw [he, if_pos rfl, if_pos (by rfl)]
          exact (rset_has h hL i p z1 z2 b1 b2 (by omega) hpk hf).mono fun e w' ⟨v', h1, h2, h3⟩ => ⟨v', h1, h2.less hB, h3⟩
        | none =>
          have hpk : placeI R i p.name = -1 := by
            unfold placeI
            rw [hs] at hpl
            have h1 := of_decide_eq_false hpl
            unfold placeI at h1
            split
            · next hx => rw [if_pos hx] at h1; omega
            · rfl
          by_cases b4 : 32 ≤ ns i
          · have he : setE p (ms i) (ns i) = 2 := by unfold setE; rw [if_pos ⟨b1, b2⟩, if_neg b3, if_pos ⟨by rw [hs]; rfl, b4⟩]
            rw [he]
            exact rset_full h hL i p z1 z2 b1 b2 (by omega) hpk (by omega)
          · have he : setE p (ms i) (ns i) = 0 := by unfold setE; rw [if_pos ⟨b1, b2⟩, if_neg b3, if_neg (fun hx => b4 hx.2)]
            rw [he, if_pos rfl, if_neg (by simp)]
            exact (rset_new h hL i p z1 z2 b1 b2 (by omega) hpk (by omega)).mono fun e w' ⟨v', h1, h2, h3⟩ => ⟨v', h1, h2.less hB, h3⟩
theorem setR_len (R : List Hd) (ms : Int → ByteArray → Option Pr) (ns : Int → Nat) (i : Int) (p : Pr) : (setR R ms ns i p).length ≤ R.length + 1 := by
  unfold setR
  split
  · split
    · rw [List.length_set]; omega
    · rw [List.length_append]; simp
  · omega
end
theorem tb_list {n0 k t : Nat} {w0 w : World} {ms : Int → ByteArray → Option Pr} {ns : Int → Nat} (H : Tb n0 w0 w t ms ns k) {i : Int} (hi : I64 i) :
    Calls Tryd.prog 19 #[tabP t, .int .i64 i] w fun e w' => ∃ v ss, e = .returned v ∧ Names (ms i) ss ∧ RdP w' v (propsOf (ms i) ss) ∧ ss.length ≤ 32 ∧ Below w.heap.size w w' := by
  have hsm := H.small i
  obtain ⟨bm, nb, cnt, h, h1, h2, -⟩ := H
  cases hn : nb i with
  | none =>
    have hof := of_c h hi
    rw [hn] at hof
    refine (list_empty hof).mono fun e w' ⟨p, he, hb⟩ => ⟨_, [], he, ⟨List.Pairwise.nil, List.nodup_nil, fun x => ?_⟩, ⟨p, 0, rfl, fun j x hx => by cases hx⟩, by simp, hb⟩
    constructor
    · intro hx; cases hx
    · rintro ⟨-, hx⟩
      rw [h.bare i _ hn] at hx; cases hx
  | some b =>
    refine (list_c h hi hn (Nat.le_trans (h2 i hi) (by omega)) (fun s => by have := hsm s; omega)).mono fun e w' ⟨v, ss, he, hN, hl, hO, hb⟩ => ⟨v, ss, he, hN, OwK.reads encP_len hO, by rw [hl]; exact h2 i hi, hb⟩
theorem Tb.big {n0 k t : Nat} {w0 w : World} {ms : Int → ByteArray → Option Pr} {ns : Int → Nat} (H : Tb n0 w0 w t ms ns k) (i : Int) (s : ByteArray) (p : Pr) (h : ms i s = some p) : s.size ≤ maxLen := by
  obtain ⟨bm, nb, cnt, -, -, -, h3, -⟩ := H
  obtain ⟨a, b, -⟩ := h3 i s p h
  have := nameB_size b
  rw [a] at this
  unfold maxLen; omega
end Go.Proofs.YtfflgkbemfichaaDoor
