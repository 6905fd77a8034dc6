/- Faults, and whether a place is in a set: of the code, and of the document. -/
import Derived.Test.YtfabknabkcfpjaaRhA
import Derived.Shelf.Abstract
namespace Go.Proofs.Ytfabknabkcfpjaa
open Go.RowKit Go.Shelf
def badR (r : Rc) : Bool := !rightB r.x r.y r.w r.h
def hasP (x y : Int) (r : Rc) : Bool := hasB r.x r.y r.w r.h x y
def faultI (a b : List Rc) : Int := if 256 < a.length ∨ 256 < b.length then 2 else if a.any badR = true ∨ b.any badR = true then 10 else 0
theorem wrong_tells (B : Nat) (w : World) : Tells 56 #[] badR B w := fun r W _ => by
  obtain ⟨x, y, a, e⟩ := r
  show Calls Try.prog 56 #[.agg #[.int .i64 x, .int .i64 y, .int .i64 a, .int .i64 e]] W _
  go_enter Try.func56, Try.ntmps56
  go_wp2_with (go_at_call 57; refine (right_c _ _ _ _ _).mono ?_; rintro e1 w1 ⟨rfl, hb⟩)
  go_ret
  exact ⟨rfl, ((Below.refl _ W).alloc (Nat.le_refl _) _).trans (hb.mono (by simp))⟩
theorem enters_wrong : ∀ args w, (callFunc 56 args).run Try.prog w = .ok (.enter 56 args) w := enters_of Try.func56 (by kernel_rfl) rfl
theorem RdK.slice {α : Type} {enc : α → List Value} {k : Nat} {w : World} {v : Value} {xs : List α} (h : RdK enc k w v xs) : ∃ p c, v = .slice p xs.length c := by
  obtain ⟨p, c, h1, _⟩ := h
  exact ⟨p, c, h1⟩
set_option maxHeartbeats 1000000 in
theorem fault_c (va vb : Value) (la lb : List Rc) (w : World) (ha : RdK encR 4 w va la) (hb : RdK encR 4 w vb lb) (hla : la.length ≤ 1152921504606846976) (hlb : lb.length ≤ 1152921504606846976) :
    Calls Try.prog 38 #[va, vb] w fun e w' => e = .returned (.int .i64 (faultI la lb)) ∧ Below w.heap.size w w' := by
  obtain ⟨pa, ca, rfl⟩ := ha.slice
  obtain ⟨pb, cb, rfl⟩ := hb.slice
  have hla' : (la.length : Int) ≤ 1152921504606846976 := by omega
  have hlb' : (lb.length : Int) ≤ 1152921504606846976 := by omega
  by_cases h1 : 256 < la.length
  · have e : faultI la lb = 2 := by unfold faultI; rw [if_pos (.inl h1)]
    rw [e]
    clear ha hb
    generalize la.length = n at *
    go_enter Try.func38, Try.ntmps38
    go_wp2_with fail
    go_ret
    exact ⟨rfl, Below.refl _ _⟩
  by_cases h2 : 256 < lb.length
  · have e : faultI la lb = 2 := by unfold faultI; rw [if_pos (.inr h2)]
    rw [e]
    clear ha hb
    go_enter Try.func38, Try.ntmps38
    go_wp2_with fail
    go_ret
    exact ⟨rfl, Below.refl _ _⟩
  have HA := Lib.hid (contains_rc 56 #[] badR _ la w enters_wrong (wrong_tells _ _) ha (by omega))
  have HB := Lib.hid (fun W (h : Below w.heap.size w W) => contains_rc 56 #[] badR _ lb W enters_wrong (wrong_tells _ _) (hb.below h) (by omega))
  cases h3 : la.any badR
  · rw [h3] at HA
    cases h4 : lb.any badR
    · rw [h4] at HB
      have e : faultI la lb = 0 := by unfold faultI; rw [if_neg (by omega), if_neg (by rw [h3, h4]; decide)]
      rw [e]
      clear ha hb h3 h4 e
      go_enter Try.func38, Try.ntmps38
      go_wp2_with fail
      refine HA.out.mono ?_
      rintro e w1 ⟨rfl, hb1⟩
      go_wp2_with fail
      refine (HB.out _ hb1).mono ?_
      rintro e w2 ⟨rfl, hb2⟩
      go_wp2_with fail
      go_ret
      exact ⟨rfl, hb1.trans (hb2.mono hb1.size)⟩
    · rw [h4] at HB
      have e : faultI la lb = 10 := by unfold faultI; rw [if_neg (by omega), if_pos (.inr h4)]
      rw [e]
      clear ha hb h3 h4 e
      go_enter Try.func38, Try.ntmps38
      go_wp2_with fail
      refine HA.out.mono ?_
      rintro e w1 ⟨rfl, hb1⟩
      go_wp2_with fail
      refine (HB.out _ hb1).mono ?_
      rintro e w2 ⟨rfl, hb2⟩
      go_wp2_with fail
      go_ret
      exact ⟨rfl, hb1.trans (hb2.mono hb1.size)⟩
  · rw [h3] at HA
    have e : faultI la lb = 10 := by unfold faultI; rw [if_neg (by omega), if_pos (.inl h3)]
    rw [e]
    clear ha hb h3 e HB
    go_enter Try.func38, Try.ntmps38
    go_wp2_with fail
    refine HA.out.mono ?_
    rintro e w1 ⟨rfl, hb1⟩
    go_wp2_with fail
    go_ret
    exact ⟨rfl, hb1⟩
theorem enters_has : ∀ args w, (callFunc 33 args).run Try.prog w = .ok (.enter 33 args) w := enters_of Try.func33 (by kernel_rfl) rfl
theorem has_tells (q : Nat) (x y : Int) (B : Nat) (w : World) (hq : Blk w q 32 #[.int .i64 x, .int .i64 y]) (hB : q < B) : Tells 33 #[.pointer (some ⟨q, 0, none⟩)] (hasP x y) B w := fun r W hW => by
  obtain ⟨rx, ry, a, e⟩ := r
  have hQ := hq.below hW hB
  obtain ⟨⟨c0, c1⟩, _⟩ := hQ.c2
  have hl := hQ.lt
  clear hq hQ hW
  show Calls Try.prog 33 #[.agg #[.int .i64 rx, .int .i64 ry, .int .i64 a, .int .i64 e], .pointer (some ⟨q, 0, none⟩)] W _
  go_enter Try.func33, Try.ntmps33
  go_wp2_with (go_at_call 34; refine (has_c _ _ _ _ _ _ _).mono ?_; rintro e1 w1 ⟨rfl, hb⟩)
  go_ret
  exact ⟨rfl, ((Below.refl _ W).alloc (Nat.le_refl _) _).trans (hb.mono (by simp))⟩
theorem rgHas_c (v : Value) (rs : List Rc) (x y : Int) (w : World) (hR : RdK encR 4 w v rs) (hn : rs.length ≤ 1073741824) :
    Calls Try.prog 18 #[v, .agg #[.int .i64 x, .int .i64 y]] w fun e w' => e = .returned (.bool (rs.any (hasP x y))) ∧ Below w.heap.size w w' := by
  have hB := (Below.refl w.heap.size w).alloc (Nat.le_refl _) (.cells #[.int .i64 x, .int .i64 y] 32)
  have HC := Lib.hid (contains_rc 33 #[.pointer (some ⟨w.heap.size, 0, none⟩)] (hasP x y) v rs (w.alloc (.cells #[.int .i64 x, .int .i64 y] 32)) enters_has
    (has_tells _ x y _ _ (Blk.new w _ _) (by simp)) (hR.alloc _) hn)
  clear hR
  have hmf : ∀ (fn : Fn) (first cap : Array Value) (w : World), (Instr.makeFunc fn first cap).run Try.prog w = .ok (.func fn first cap) w := fun _ _ _ _ => rfl
  go_enter Try.func18, Try.ntmps18
  go_wp2_with fail
  refine HC.out.mono ?_
  rintro e w1 ⟨rfl, hb⟩
  go_wp2_with fail
  go_ret
  exact ⟨rfl, hB.trans (hb.mono hB.size)⟩
/-- Has, by the document's answer. -/
theorem rfHas_c (v : Value) (rs : List Rc) (x y : Int) (w : World) (hR : RdK encR 4 w v rs) (hn : rs.length ≤ 1073741824) :
    Calls Try.prog 19 #[v, .int .i64 x, .int .i64 y] w fun e w' => e = .returned (.bool (rs.any (hasP x y))) ∧ Below w.heap.size w w' := by
  obtain ⟨p, c, rfl, hcell⟩ := hR
  have HC := Lib.hid hcell
  obtain ⟨n, hln⟩ : ∃ n, n = rs.length := ⟨_, rfl⟩
  rw [← hln] at hn ⊢
  have HN := Lib.hid hln
  clear hcell hln
  go_enter Try.func19, Try.ntmps19
  go_wp2_with fail
  go_loopw [7] (fun z wr => ∃ k : Nat, k ≤ n ∧ z = .int .i64 k ∧ Below w.heap.size w wr ∧ Asd (∀ (j : Nat) (r : Rc), j < k → rs[j]? = some r → hasP x y r = false)) (fun z _ => n - (intOf z).toNat)
  case atStart => exact ⟨0, Nat.zero_le _, rfl, Below.refl _ _, fun j r hj => absurd hj (Nat.not_lt_zero j)⟩
  case round =>
    obtain ⟨k, hk, rfl, hB, hA⟩ := hrel
    have HA := Lib.hid (show ∀ (j : Nat) (r : Rc), j < k → rs[j]? = some r → hasP x y r = false from hA)
    clear hA
    by_cases hlt : k < n
    · obtain ⟨r, hx⟩ : ∃ r, rs[k]? = some r := ⟨_, List.getElem?_eq_getElem (by rw [← HN.out]; exact hlt)⟩
      obtain ⟨b, o, rfl, hb1, hb2⟩ := HC.out k r hx
      obtain ⟨r0, r1, r2, r3⟩ := RdK.rect (w := wr) (fun i u hu => (hB.cell (p := ⟨b, o + k * 4 + i, none⟩) hb1).trans (hb2 i u hu))
      have HX := Lib.hid hx
      clear hb2 hx
      have hi0 : (0 : Int) ≤ (k : Int) := by omega
      have hi1 : (k : Int) < (n : Int) := by omega
      have hC := fun W => rhas_c r.x r.y r.w r.h x y W
      cases hf : hasB r.x r.y r.w r.h x y
      · rw [hf] at hC
        have HF := Lib.hid (show hasP x y r = false from hf)
        clear hf
        have HCC := Lib.hid hC
        clear hC
        go_wp2_with fail
        refine (HCC.out _).mono ?_
        rintro e w1 ⟨rfl, hb⟩
        have hB1 := hB.trans (hb.mono hB.size)
        clear hb hB
        go_wp2_with fail
        go_roundw
        case rel => exact ⟨k + 1, by omega, by go_num, hB1, fun j y hj hy => by
          rcases Nat.lt_or_ge j k with h | h
          · exact HA.out j y h hy
          · obtain rfl : j = k := by omega
            rw [HX.out] at hy; injection hy with hy; subst hy; exact HF.out⟩
        case measure => simp [intOf]; omega
      · rw [hf] at hC
        have HF := Lib.hid (show true = rs.any (hasP x y) from (List.any_eq_true.2 ⟨r, List.mem_of_getElem? HX.out, hf⟩).symm)
        clear hf
        have HCC := Lib.hid hC
        clear hC
        go_wp2_with fail
        refine (HCC.out _).mono ?_
        rintro e w1 ⟨rfl, hb⟩
        have hB1 := hB.trans (hb.mono hB.size)
        clear hb hB
        go_wp2_with fail
        go_ret
        exact ⟨ret_bool HF.out, hB1⟩
    · have HF := Lib.hid (show false = rs.any (hasP x y) from (any_none fun j r hj => HA.out j r (by have h1 := (List.getElem?_eq_some_iff.1 hj).1; have h2 := HN.out; omega) hj).symm)
      go_wp2_with fail
      go_ret
      exact ⟨ret_bool HF.out, hB⟩
end Go.Proofs.Ytfabknabkcfpjaa
