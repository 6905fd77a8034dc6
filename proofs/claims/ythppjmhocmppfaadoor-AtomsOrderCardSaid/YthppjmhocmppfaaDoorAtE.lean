/- Numbers of a text, both sides; what they say. -/
import Derived.Test.YthppjmhocmppfaaDoorPrM
import Derived.Test.YthppjmhocmppfaaDoorAtA
import Derived.Laws.BitsAllLaws
namespace Go.Proofs.YthppjmhocmppfaaDoor
open Go.RowKit Go.Maps
namespace At
/-- The numbers of a text; none, if it isn't one of numbers. -/
def NL (s : ByteArray) : List Int := if s.size % 4 = 0 then numsL s else []
def okN (s : ByteArray) : Bool := decide (s.size % 4 = 0)
theorem okN_of {s : ByteArray} (h : NL s ≠ []) : okN s = true := by
  unfold NL at h
  unfold okN
  by_cases h4 : s.size % 4 = 0
  · simpa using h4
  · rw [if_neg h4] at h; exact absurd rfl h
theorem NL_len (s : ByteArray) : (NL s).length ≤ s.size := by
  unfold NL
  split
  · rw [numsL_len]; omega
  · simp
theorem num4_in {a b c d : Int} (ha : 0 ≤ a ∧ a ≤ 255) (hb : 0 ≤ b ∧ b ≤ 255) (hc : 0 ≤ c ∧ c ≤ 255) (hd : 0 ≤ d ∧ d ≤ 255) : -2147483648 ≤ num4 a b c d ∧ num4 a b c d ≤ 2147483647 := by
  unfold num4; split <;> omega
theorem NL_in {s : ByteArray} {z : Int} (h : z ∈ NL s) : -2147483648 ≤ z ∧ z ≤ 2147483647 := by
  unfold NL at h
  split at h
  · unfold numsL at h
    rw [List.mem_map] at h
    obtain ⟨i, -, rfl⟩ := h
    exact num4_in (byt_in _ _) (byt_in _ _) (byt_in _ _) (byt_in _ _)
  · cases h
theorem nums_code (s : ByteArray) (w : World) (hs : s.size ≤ 1048576) : Calls Tryd.prog 27 #[.string s] w fun e w' => ∃ v, e = .returned (.tuple #[v, .bool (okN s)]) ∧ Rd w' v (ints (NL s)) ∧ Below w.heap.size w w' := by
  unfold okN NL
  by_cases h : s.size % 4 = 0
  · rw [decide_eq_true h, if_pos h]; exact numbers_yes s w (by omega) h
  · rw [decide_eq_false h, if_neg h]; exact (numbers_no s w hs h).mono fun e w' hh => ⟨_, hh.1, Rd.nil _, hh.2⟩
theorem nums_doc (s : ByteArray) (w : World) (hs : s.size ≤ 1048576) : Calls Tryd.prog 28 #[.string s] w fun e w' => ∃ v, e = .returned (.tuple #[v, .bool (okN s)]) ∧ Rd w' v (ints (NL s)) ∧ Below w.heap.size w w' := by
  unfold okN NL
  by_cases h : s.size % 4 = 0
  · rw [decide_eq_true h, if_pos h]; exact rnumbers_yes s w hs h
  · rw [decide_eq_false h, if_neg h]; exact (rnumbers_no s w hs h).mono fun e w' hh => ⟨_, hh.1, Rd.nil _, hh.2⟩
/-- A row that is not empty, opened. -/
theorem rd_open {w : World} {v : Value} {z : Int} {zs : List Int} (h : Rd w v (ints (z :: zs))) : ∃ b o c, v = .slice (some ⟨b, o, none⟩) (zs.length + 1) c ∧ b < w.heap.size ∧ ∀ j y, (z :: zs)[j]? = some y → w.cell? ⟨b, o + j, none⟩ = some (.int .i64 y) := by
  obtain ⟨p, c, rfl, hc⟩ := h
  obtain ⟨b, o, rfl, hb, h0⟩ := hc 0 (.int .i64 z) rfl
  refine ⟨b, o, c, by simp, hb, fun j y hy => ?_⟩
  obtain ⟨b', o', e, _, h1⟩ := hc j (.int .i64 y) (by rw [List.getElem?_map, hy]; rfl)
  cases e
  exact h1
theorem rd_len {w : World} {v : Value} {zs : List Int} (h : Rd w v (ints zs)) : ∃ p c, v = .slice p zs.length c := by
  obtain ⟨p, c, rfl, _⟩ := h
  exact ⟨p, c, by simp⟩
def bitT (f b : Int) : Bool := decide (f / b % 2 = 1)
/-- Whose a client is; 0: nobody's. -/
def trL (l : List Int) : Int := match l with | [z] => if z < 1 then 0 else z | _ => 0
/-- Does it want the focus? Is it urgent? -/
def wantA (l : List Int) : Bool := match l with | z :: y :: _ => !(bitT z 1) || (y != 0) | _ => true
def wantB (l : List Int) : Bool := match l with | z :: _ :: _ => bitT z 256 | _ => false
def okS (z : Int) : Bool := decide (0 ≤ z) && decide (z ≤ 32767)
/-- The room that it keeps free. -/
def strOk (l : List Int) : Bool := match l with | a :: b :: c :: d :: r => (r.length == 0 || r.length == 8) && (okS a && okS b && okS c && okS d) | _ => false
def strV (a b c d : Int) : Value := .agg #[.string ⟨#[]⟩, .int .i64 a, .int .i64 b, .int .i64 c, .int .i64 d]
def strL (l : List Int) : Value := if strOk l then (match l with | a :: b :: c :: d :: _ => strV a b c d | _ => strV 0 0 0 0) else strV 0 0 0 0
end At
end Go.Proofs.YthppjmhocmppfaaDoor
