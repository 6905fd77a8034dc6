/- The document's height, walked. -/
import Derived.Test.YtdmoncpeoaoppaaSzR
namespace Go.Proofs.Ytdmoncpeoaoppaa
open Go.RowKit
namespace Sz
/-- The low and the high number that height has reached. -/
def LH (s : Sd) (lo hi : Int) : Prop := hi = s.m ∧ (lo = s.l ∨ (s.m < lo ∧ s.m < s.l)) ∧ s.b ≤ lo
/-- Its end, as a plain function. -/
def endV (lo hi b i t : Int) : Int :=
  if hi < (if (lo - b) % i = 0 then lo else lo + i - (lo - b) % i) then 0
  else if t < (if (lo - b) % i = 0 then lo else lo + i - (lo - b) % i) then (if (lo - b) % i = 0 then lo else lo + i - (lo - b) % i)
  else (if hi < t then hi else t) - ((if hi < t then hi else t) - (if (lo - b) % i = 0 then lo else lo + i - (lo - b) % i)) % i
theorem end_ht {h : Hn} {x t lo hi : Int} {s : Sd} (hs : heightsS h x = s) (i1 : 1 ≤ s.i) (l1 : 1 ≤ s.l) (k : LH s lo hi) : HtP h x t (endV lo hi s.b s.i t) := by
  unfold HtP
  rw [hs]
  obtain ⟨rfl, k, kb⟩ := k
  obtain ⟨L, hL⟩ : ∃ L, (if (lo - s.b) % s.i = 0 then lo else lo + s.i - (lo - s.b) % s.i) = L := ⟨_, rfl⟩
  have r0 := Int.emod_nonneg (lo - s.b) (by omega : s.i ≠ 0)
  have r1 := Int.emod_lt_of_pos (lo - s.b) (by omega : 0 < s.i)
  have hlo : lo ≤ L := by rw [← hL]; split <;> omega
  have hU : lo = s.l → L = upV s s.l := by
    intro e
    rw [← hL, e]
    rw [e] at r0 r1
    unfold upV
    rw [show max s.l s.l = s.l by omega]
    split
    · next h0 => rw [if_neg (by omega)]
    · next h0 => rw [if_pos (by omega)]; omega
  unfold endV
  rw [hL]
  by_cases c1 : s.m < L
  · rw [if_pos c1]
    refine .inr ⟨rfl, ?_⟩
    rcases k with k | k
    · exact ht_none i1 (.inl (hU k)) c1
    · exact ht_none i1 (L := L) (.inr k.2) c1
  · rw [if_neg c1]
    rcases k with k | k
    · have hu := hU k
      by_cases c2 : t < L
      · rw [if_pos c2]
        refine .inl ⟨by omega, ?_⟩
        rw [hu]
        exact ht_low i1 (by omega) (by omega)
      · rw [if_neg c2]
        have hk : min t s.m = (if s.m < t then s.m else t) := by split <;> omega
        have hn := ht_step i1 (t := t) (k := (if s.m < t then s.m else t)) (by omega) (by omega) hk
        rw [← hu] at hn
        exact .inl ⟨by have := hn.1.1; omega, hn⟩
    · omega
theorem tall_height {h : Hn} (h0 : h.lowX = 0) (x : Int) : LH (heightsS h x) (max h.minH h.baseH) (mx h.maxH) := by
  have E : heightsS h x = tallS h := by unfold heightsS; rw [if_pos h0]
  rw [E]
  exact ⟨rfl, .inl rfl, by show h.baseH ≤ max h.minH h.baseH; omega⟩
/-- One round is enough: behind it the low number is the quotient's. -/
theorem round_up {a b c : Int} (hb : 1 ≤ b) : c + 1 + (a - c * b - 1) / b = qUp a b := by
  unfold qUp
  have e : a + b - 1 = (a - c * b - 1) + (c + 1) * b := by rw [Int.add_mul, Int.one_mul]; omega
  rw [e, Int.add_mul_ediv_right _ _ (by omega)]
  omega
/-- The rounds: the low number is the least one still, and too low, or the quotient's, or both. -/
def Rd (h : Hn) (x lo : Int) : Prop := lo = max (tallS h).l (qUp (x * h.highY) h.highX) ∨ (lo = (tallS h).l ∧ lo * h.highX < x * h.highY)
theorem Rd.start {h : Hn} (hb : Asp h.lowX h.lowY h.highX h.highY) (x : Int) : Rd h x (tallS h).l := by
  unfold Rd
  by_cases c : (tallS h).l * h.highX < x * h.highY
  · exact .inr ⟨rfl, c⟩
  · refine .inl ?_
    have : qUp (x * h.highY) h.highX ≤ (tallS h).l := (qUp_le hb.c1).2 (by rw [Int.mul_comm h.highX]; omega)
    omega
theorem Rd.low {h : Hn} (hb : Asp h.lowX h.lowY h.highX h.highY) {x lo : Int} (k : Rd h x lo) (c : lo * h.highX < x * h.highY) : lo = (tallS h).l := by
  rcases k with k | k
  · exfalso
    have : qUp (x * h.highY) h.highX ≤ lo := by omega
    rw [qUp_le hb.c1, Int.mul_comm h.highX] at this
    omega
  · exact k.1
theorem Rd.step {h : Hn} (hb : Asp h.lowX h.lowY h.highX h.highY) {x lo : Int} (k : Rd h x lo) (c : lo * h.highX < x * h.highY) : Rd h x (lo + 1 + (x * h.highY - lo * h.highX - 1) / h.highX) ∧ lo < lo + 1 + (x * h.highY - lo * h.highX - 1) / h.highX := by
  have e := k.low hb c
  have hq := round_up (a := x * h.highY) (c := lo) hb.c1
  have d0 := Int.ediv_nonneg (show 0 ≤ x * h.highY - lo * h.highX - 1 by omega) (show 0 ≤ h.highX by have := hb.c1; omega)
  refine ⟨.inl ?_, by omega⟩
  omega
theorem Rd.out {h : Hn} (hbd : Bd h) (hb : Asp h.lowX h.lowY h.highX h.highY) {x lo : Int} (k : Rd h x lo) (c : ¬ (lo * h.highX < x * h.highY) ∨ (tallS h).m < lo) : LH (heightsS h x) lo (min (tallS h).m (x * h.lowY / h.lowX)) := by
  have h0 : h.lowX ≠ 0 := by have := hb.a1; omega
  have E : heightsS h x = inS (tallS h) (qUp (x * h.highY) h.highX) (x * h.lowY / h.lowX) := by unfold heightsS; rw [if_neg h0]
  have hb2 : (tallS h).b ≤ (tallS h).l := (newS_ok hbd.t).b2
  rw [E]
  refine ⟨rfl, ?_, ?_⟩
  · rcases k with k | ⟨k1, k2⟩
    · exact .inl k
    · rcases c with c | c
      · exact absurd k2 c
      · refine .inr ⟨?_, ?_⟩
        · show min (tallS h).m (x * h.lowY / h.lowX) < lo
          omega
        · show min (tallS h).m (x * h.lowY / h.lowX) < max (tallS h).l (qUp (x * h.highY) h.highX)
          omega
  · show (tallS h).b ≤ lo
    rcases k with k | k <;> omega
end Sz
end Go.Proofs.Ytdmoncpeoaoppaa
