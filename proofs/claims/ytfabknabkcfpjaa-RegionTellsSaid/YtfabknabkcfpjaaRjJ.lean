/- Whether a place is in a set, however long. -/
import Derived.Test.YtfabknabkcfpjaaRhB
import Derived.LoopTactic
import Derived.Deep.QuietTactic
import Derived.BigQuiet
namespace Go.Proofs.Ytfabknabkcfpjaa
open Go.RowKit
set_option maxHeartbeats 1000000 in
theorem index_rcL (g : Nat) (cb : Array Value) (f : Rc → Bool) (v : Value) (rs : List Rc) (w : World) (eg : ∀ args w, (callFunc g args).run Try.prog w = .ok (.enter g args) w) (hT : Tells g cb f w.heap.size w) (hR : RdK encR 4 w v rs) (hn : rs.length ≤ 4398046511104) :
    Calls Try.prog 47 #[v, .func (.func g) #[] cb] w fun e w' => ∃ i : Int, e = .returned (.int .i64 i) ∧ decide (0 ≤ i) = rs.any f ∧ Below w.heap.size w w' := by
  obtain ⟨p, c, rfl, hcell⟩ := hR
  have HC := Lib.hid hcell
  obtain ⟨n, hln⟩ : ∃ n, n = rs.length := ⟨_, rfl⟩
  rw [← hln] at hn ⊢
  have HN := Lib.hid hln
  have HT := Lib.hid hT
  clear hcell hln hT
  go_enter Try.func47, Try.ntmps47
  go_wp2_with fail
  go_loopw [8] (fun z wr => ∃ k : Nat, k ≤ n ∧ z = .int .i64 k ∧ Below w.heap.size w wr ∧ Asd (∀ (j : Nat) (x : Rc), j < k → rs[j]? = some x → f x = false)) (fun z _ => n - (intOf z).toNat)
  case atStart => exact ⟨0, Nat.zero_le _, rfl, Below.refl _ _, fun j x hj => absurd hj (Nat.not_lt_zero j)⟩
  case round =>
    obtain ⟨k, hk, rfl, hB, hA⟩ := hrel
    have HA := Lib.hid (show ∀ (j : Nat) (x : Rc), j < k → rs[j]? = some x → f x = false from hA)
    clear hA
    by_cases hlt : k < n
    · obtain ⟨x, hx⟩ : ∃ x, rs[k]? = some x := ⟨_, List.getElem?_eq_getElem (by rw [← HN.out]; exact hlt)⟩
      obtain ⟨b, o, rfl, hb1, hb2⟩ := HC.out k x hx
      obtain ⟨r0, r1, r2, r3⟩ := RdK.rect (w := wr) (fun i u hu => (hB.cell (p := ⟨b, o + k * 4 + i, none⟩) hb1).trans (hb2 i u hu))
      have HX := Lib.hid hx
      clear hb2 hx
      have hi0 : (0 : Int) ≤ (k : Int) := by omega
      have hi1 : (k : Int) < (n : Int) := by omega
      have hC := HT.out x wr hB
      cases hf : f x
      · rw [hf] at hC
        have HF := Lib.hid hf
        clear hf
        have HCC := Lib.hid hC
        clear hC
        go_wp2_with fail
        refine HCC.out.mono ?_
        rintro e w1 ⟨rfl, hb⟩
        have hB1 := hB.trans (hb.mono hB.size)
        clear hb hB
        go_wp2_with fail
        go_roundw
        case rel => exact ⟨k + 1, by omega, by go_num, hB1, fun j y hj hy => by
          rcases Nat.lt_or_ge j k with h | h
          · exact HA.out j y h hy
          · obtain rfl : j = k := by omega
            rw [HX.out] at hy; injection hy with hy; subst hy; exact HF.out⟩
        case measure => simp [intOf]; omega
      · rw [hf] at hC
        have HF := Lib.hid (show true = rs.any f from (List.any_eq_true.2 ⟨x, List.mem_of_getElem? HX.out, hf⟩).symm)
        clear hf
        have HCC := Lib.hid hC
        clear hC
        go_wp2_with fail
        refine HCC.out.mono ?_
        rintro e w1 ⟨rfl, hb⟩
        have hB1 := hB.trans (hb.mono hB.size)
        clear hb hB
        go_wp2_with fail
        go_ret
        exact ⟨k, rfl, (decide_eq_true hi0).trans HF.out, hB1⟩
    · have HF := Lib.hid (show false = rs.any f from (any_none fun j x hj => HA.out j x (by have h1 := (List.getElem?_eq_some_iff.1 hj).1; have h2 := HN.out; omega) hj).symm)
      go_wp2_with fail
      go_ret
      exact ⟨-1, rfl, HF.out, hB⟩
theorem contains_rcL (g : Nat) (cb : Array Value) (f : Rc → Bool) (v : Value) (rs : List Rc) (w : World) (eg : ∀ args w, (callFunc g args).run Try.prog w = .ok (.enter g args) w) (hT : Tells g cb f w.heap.size w) (hR : RdK encR 4 w v rs) (hn : rs.length ≤ 4398046511104) :
    Calls Try.prog 32 #[v, .func (.func g) #[] cb] w fun e w' => e = .returned (.bool (rs.any f)) ∧ Below w.heap.size w w' := by
  have HI := Lib.hid (index_rcL g cb f v rs w eg hT hR hn)
  clear hT hR eg
  go_enter Try.func32, Try.ntmps32
  go_wp2_with fail
  refine HI.out.mono ?_
  rintro e w1 ⟨i, rfl, hi, hb⟩
  have HQ := Lib.hid hi
  clear hi
  go_wp2_with fail
  go_ret
  exact ⟨ret_bool HQ.out, hb⟩
theorem rgHas_cL (v : Value) (rs : List Rc) (x y : Int) (w : World) (hR : RdK encR 4 w v rs) (hn : rs.length ≤ 4398046511104) :
    Calls Try.prog 18 #[v, .agg #[.int .i64 x, .int .i64 y]] w fun e w' => e = .returned (.bool (rs.any (hasP x y))) ∧ Below w.heap.size w w' := by
  have hB := (Below.refl w.heap.size w).alloc (Nat.le_refl _) (.cells #[.int .i64 x, .int .i64 y] 32)
  have HC := Lib.hid (contains_rcL 33 #[.pointer (some ⟨w.heap.size, 0, none⟩)] (hasP x y) v rs (w.alloc (.cells #[.int .i64 x, .int .i64 y] 32)) enters_has
    (has_tells _ x y _ _ (Blk.new w _ _) (by simp)) (hR.alloc _) hn)
  clear hR
  have hmf : ∀ (fn : Fn) (first cap : Array Value) (w : World), (Instr.makeFunc fn first cap).run Try.prog w = .ok (.func fn first cap) w := fun _ _ _ _ => rfl
  go_enter Try.func18, Try.ntmps18
  go_wp2_with fail
  refine HC.out.mono ?_
  rintro e w1 ⟨rfl, hb⟩
  go_wp2_with fail
  go_ret
  exact ⟨rfl, hB.trans (hb.mono hB.size)⟩
/-- Has, by the document's answer. -/
theorem rfHas_cL (v : Value) (rs : List Rc) (x y : Int) (w : World) (hR : RdK encR 4 w v rs) (hn : rs.length ≤ 4398046511104) :
    Calls Try.prog 19 #[v, .int .i64 x, .int .i64 y] w fun e w' => e = .returned (.bool (rs.any (hasP x y))) ∧ Below w.heap.size w w' := by
  obtain ⟨p, c, rfl, hcell⟩ := hR
  have HC := Lib.hid hcell
  obtain ⟨n, hln⟩ : ∃ n, n = rs.length := ⟨_, rfl⟩
  rw [← hln] at hn ⊢
  have HN := Lib.hid hln
  clear hcell hln
  go_enter Try.func19, Try.ntmps19
  go_wp2_with fail
  go_loopw [7] (fun z wr => ∃ k : Nat, k ≤ n ∧ z = .int .i64 k ∧ Below w.heap.size w wr ∧ Asd (∀ (j : Nat) (r : Rc), j < k → rs[j]? = some r → hasP x y r = false)) (fun z _ => n - (intOf z).toNat)
  case atStart => exact ⟨0, Nat.zero_le _, rfl, Below.refl _ _, fun j r hj => absurd hj (Nat.not_lt_zero j)⟩
  case round =>
    obtain ⟨k, hk, rfl, hB, hA⟩ := hrel
    have HA := Lib.hid (show ∀ (j : Nat) (r : Rc), j < k → rs[j]? = some r → hasP x y r = false from hA)
    clear hA
    by_cases hlt : k < n
    · obtain ⟨r, hx⟩ : ∃ r, rs[k]? = some r := ⟨_, List.getElem?_eq_getElem (by rw [← HN.out]; exact hlt)⟩
      obtain ⟨b, o, rfl, hb1, hb2⟩ := HC.out k r hx
      obtain ⟨r0, r1, r2, r3⟩ := RdK.rect (w := wr) (fun i u hu => (hB.cell (p := ⟨b, o + k * 4 + i, none⟩) hb1).trans (hb2 i u hu))
      have HX := Lib.hid hx
      clear hb2 hx
      have hi0 : (0 : Int) ≤ (k : Int) := by omega
      have hi1 : (k : Int) < (n : Int) := by omega
      have hC := fun W => rhas_c r.x r.y r.w r.h x y W
      cases hf : hasB r.x r.y r.w r.h x y
      · rw [hf] at hC
        have HF := Lib.hid (show hasP x y r = false from hf)
        clear hf
        have HCC := Lib.hid hC
        clear hC
        go_wp2_with fail
        refine (HCC.out _).mono ?_
        rintro e w1 ⟨rfl, hb⟩
        have hB1 := hB.trans (hb.mono hB.size)
        clear hb hB
        go_wp2_with fail
        go_roundw
        case rel => exact ⟨k + 1, by omega, by go_num, hB1, fun j y hj hy => by
          rcases Nat.lt_or_ge j k with h | h
          · exact HA.out j y h hy
          · obtain rfl : j = k := by omega
            rw [HX.out] at hy; injection hy with hy; subst hy; exact HF.out⟩
        case measure => simp [intOf]; omega
      · rw [hf] at hC
        have HF := Lib.hid (show true = rs.any (hasP x y) from (List.any_eq_true.2 ⟨r, List.mem_of_getElem? HX.out, hf⟩).symm)
        clear hf
        have HCC := Lib.hid hC
        clear hC
        go_wp2_with fail
        refine (HCC.out _).mono ?_
        rintro e w1 ⟨rfl, hb⟩
        have hB1 := hB.trans (hb.mono hB.size)
        clear hb hB
        go_wp2_with fail
        go_ret
        exact ⟨ret_bool HF.out, hB1⟩
    · have HF := Lib.hid (show false = rs.any (hasP x y) from (any_none fun j r hj => HA.out j r (by have h1 := (List.getElem?_eq_some_iff.1 hj).1; have h2 := HN.out; omega) hj).symm)
      go_wp2_with fail
      go_ret
      exact ⟨ret_bool HF.out, hB⟩
end Go.Proofs.Ytfabknabkcfpjaa
