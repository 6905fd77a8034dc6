/- Slices of structs: how their elements lie. -/
import Derived.Test.YtfabknabkcfpjaaGeoF
import Derived.Test.YtfabknabkcfpjaaMem
import Derived.LoopTactic
import Derived.Deep.QuietTactic
import Derived.BigQuiet
namespace Go.Proofs.Ytfabknabkcfpjaa
open Go.RowKit
abbrev rcV (r : Rc) : Value := .agg #[.int .i64 r.x, .int .i64 r.y, .int .i64 r.w, .int .i64 r.h]
def encR (r : Rc) : List Value := [.int .i64 r.x, .int .i64 r.y, .int .i64 r.w, .int .i64 r.h]
/-- A part of a relation that the walk is not to open. -/
def Asd (p : Prop) : Prop := p
/-- A slice value that reads as these structs, k cells each. -/
def RdK {α : Type} (enc : α → List Value) (k : Nat) (w : World) (v : Value) (xs : List α) : Prop :=
  ∃ p c, v = .slice p xs.length c ∧ ∀ (j : Nat) (x : α), xs[j]? = some x → ∃ b o, p = some ⟨b, o, none⟩ ∧ b < w.heap.size ∧ ∀ (i : Nat) (u : Value), (enc x)[i]? = some u → w.cell? ⟨b, o + j * k + i, none⟩ = some u
section
variable {α : Type} {enc : α → List Value} {k : Nat} {w w' : World} {v : Value} {xs : List α}
theorem RdK.below (h : RdK enc k w v xs) (hb : Below w.heap.size w w') : RdK enc k w' v xs := by
  obtain ⟨p, c, h1, h2⟩ := h
  refine ⟨p, c, h1, fun j x hx => ?_⟩
  obtain ⟨b, o, h3, h4, h5⟩ := h2 j x hx
  exact ⟨b, o, h3, Nat.lt_of_lt_of_le h4 hb.size, fun i u hu => (hb.cell (p := ⟨b, o + j * k + i, none⟩) h4).trans (h5 i u hu)⟩
theorem RdK.drewN (h : RdK enc k w v xs) (n : Nat) : RdK enc k (w.drewN n) v xs := h
theorem RdK.drew (h : RdK enc k w v xs) : RdK enc k w.drew v xs := h
theorem RdK.alloc (h : RdK enc k w v xs) (o : Obj) : RdK enc k (w.alloc o) v xs := h.below ((Below.refl _ _).alloc (Nat.le_refl _) o)
theorem RdK.nil (w : World) (c : Nat) : RdK enc k w (.slice none 0 c) [] := ⟨none, c, rfl, fun j x hx => by simp at hx⟩
end
theorem RdK.rect {w : World} {b o j : Nat} {r : Rc} (h : ∀ (i : Nat) (u : Value), (encR r)[i]? = some u → w.cell? ⟨b, o + j * 4 + i, none⟩ = some u) :
    w.cell? ⟨b, o + j * 4, none⟩ = some (.int .i64 r.x) ∧ w.cell? ⟨b, o + j * 4 + 1, none⟩ = some (.int .i64 r.y) ∧ w.cell? ⟨b, o + j * 4 + 2, none⟩ = some (.int .i64 r.w) ∧ w.cell? ⟨b, o + j * 4 + 3, none⟩ = some (.int .i64 r.h) :=
  ⟨h 0 _ rfl, h 1 _ rfl, h 2 _ rfl, h 3 _ rfl⟩
/-- What a function handed in tells of a rectangle, wherever memory has grown. -/
def Tells (g : Nat) (cb : Array Value) (f : Rc → Bool) (B : Nat) (w : World) : Prop :=
  ∀ (r : Rc) (W : World), Below B w W → Calls Try.prog g (#[rcV r] ++ cb) W fun e w' => e = .returned (.bool (f r)) ∧ Below W.heap.size W w'
theorem any_none {α : Type} {f : α → Bool} {xs : List α} (h : ∀ (j : Nat) (x : α), xs[j]? = some x → f x = false) : xs.any f = false := by
  rw [List.any_eq_false]
  intro x hx
  obtain ⟨j, hj⟩ := List.getElem?_of_mem hx
  rw [h j x hj]; simp
set_option maxHeartbeats 1000000 in
theorem index_rc (g : Nat) (cb : Array Value) (f : Rc → Bool) (v : Value) (rs : List Rc) (w : World) (eg : ∀ args w, (callFunc g args).run Try.prog w = .ok (.enter g args) w) (hT : Tells g cb f w.heap.size w) (hR : RdK encR 4 w v rs) (hn : rs.length ≤ 1073741824) :
    Calls Try.prog 47 #[v, .func (.func g) #[] cb] w fun e w' => ∃ i : Int, e = .returned (.int .i64 i) ∧ decide (0 ≤ i) = rs.any f ∧ Below w.heap.size w w' := by
  obtain ⟨p, c, rfl, hcell⟩ := hR
  have HC := Lib.hid hcell
  obtain ⟨n, hln⟩ : ∃ n, n = rs.length := ⟨_, rfl⟩
  rw [← hln] at hn ⊢
  have HN := Lib.hid hln
  have HT := Lib.hid hT
  clear hcell hln hT
  go_enter Try.func47, Try.ntmps47
  go_wp2_with fail
  go_loopw [8] (fun z wr => ∃ k : Nat, k ≤ n ∧ z = .int .i64 k ∧ Below w.heap.size w wr ∧ Asd (∀ (j : Nat) (x : Rc), j < k → rs[j]? = some x → f x = false)) (fun z _ => n - (intOf z).toNat)
  case atStart => exact ⟨0, Nat.zero_le _, rfl, Below.refl _ _, fun j x hj => absurd hj (Nat.not_lt_zero j)⟩
  case round =>
    obtain ⟨k, hk, rfl, hB, hA⟩ := hrel
    have HA := Lib.hid (show ∀ (j : Nat) (x : Rc), j < k → rs[j]? = some x → f x = false from hA)
    clear hA
    by_cases hlt : k < n
    · obtain ⟨x, hx⟩ : ∃ x, rs[k]? = some x := ⟨_, List.getElem?_eq_getElem (by rw [← HN.out]; exact hlt)⟩
      obtain ⟨b, o, rfl, hb1, hb2⟩ := HC.out k x hx
      obtain ⟨r0, r1, r2, r3⟩ := RdK.rect (w := wr) (fun i u hu => (hB.cell (p := ⟨b, o + k * 4 + i, none⟩) hb1).trans (hb2 i u hu))
      have HX := Lib.hid hx
      clear hb2 hx
      have hi0 : (0 : Int) ≤ (k : Int) := by omega
      have hi1 : (k : Int) < (n : Int) := by omega
      have hC := HT.out x wr hB
      cases hf : f x
      · rw [hf] at hC
        have HF := Lib.hid hf
        clear hf
        have HCC := Lib.hid hC
        clear hC
        go_wp2_with fail
        refine HCC.out.mono ?_
        rintro e w1 ⟨rfl, hb⟩
        have hB1 := hB.trans (hb.mono hB.size)
        clear hb hB
        go_wp2_with fail
        go_roundw
        case rel => exact ⟨k + 1, by omega, by go_num, hB1, fun j y hj hy => by
          rcases Nat.lt_or_ge j k with h | h
          · exact HA.out j y h hy
          · obtain rfl : j = k := by omega
            rw [HX.out] at hy; injection hy with hy; subst hy; exact HF.out⟩
        case measure => simp [intOf]; omega
      · rw [hf] at hC
        have HF := Lib.hid (show true = rs.any f from (List.any_eq_true.2 ⟨x, List.mem_of_getElem? HX.out, hf⟩).symm)
        clear hf
        have HCC := Lib.hid hC
        clear hC
        go_wp2_with fail
        refine HCC.out.mono ?_
        rintro e w1 ⟨rfl, hb⟩
        have hB1 := hB.trans (hb.mono hB.size)
        clear hb hB
        go_wp2_with fail
        go_ret
        exact ⟨k, rfl, (decide_eq_true hi0).trans HF.out, hB1⟩
    · have HF := Lib.hid (show false = rs.any f from (any_none fun j x hj => HA.out j x (by have h1 := (List.getElem?_eq_some_iff.1 hj).1; have h2 := HN.out; omega) hj).symm)
      go_wp2_with fail
      go_ret
      exact ⟨-1, rfl, HF.out, hB⟩
theorem contains_rc (g : Nat) (cb : Array Value) (f : Rc → Bool) (v : Value) (rs : List Rc) (w : World) (eg : ∀ args w, (callFunc g args).run Try.prog w = .ok (.enter g args) w) (hT : Tells g cb f w.heap.size w) (hR : RdK encR 4 w v rs) (hn : rs.length ≤ 1073741824) :
    Calls Try.prog 32 #[v, .func (.func g) #[] cb] w fun e w' => e = .returned (.bool (rs.any f)) ∧ Below w.heap.size w w' := by
  have HI := Lib.hid (index_rc g cb f v rs w eg hT hR hn)
  clear hT hR eg
  go_enter Try.func32, Try.ntmps32
  go_wp2_with fail
  refine HI.out.mono ?_
  rintro e w1 ⟨i, rfl, hi, hb⟩
  have HQ := Lib.hid hi
  clear hi
  go_wp2_with fail
  go_ret
  exact ⟨ret_bool HQ.out, hb⟩
end Go.Proofs.Ytfabknabkcfpjaa
