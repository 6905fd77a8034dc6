/- Screens and what closures tell of them: slices.IndexFunc, ContainsFunc, area.firstOf, At, Find. -/
import Derived.Test.YteaeccmlibmmmaaArA
import Derived.Deep.DeepCutAuto
import Derived.Deep.RegionLaw
import Derived.Shelf.Abstract
namespace Go.Proofs.Yteaeccmlibmmmaa.Ar
open Go.RowKit Go.Shelf
/-- A screen: its name, and its rectangle. -/
structure Out where
  n : ByteArray
  x : Int
  y : Int
  w : Int
  h : Int
def encO (o : Out) : List Value := [.string o.n, .int .i64 o.x, .int .i64 o.y, .int .i64 o.w, .int .i64 o.h]
abbrev outV (o : Out) : Value := .agg #[.string o.n, .int .i64 o.x, .int .i64 o.y, .int .i64 o.w, .int .i64 o.h]
abbrev OutB (o : Out) : Obj := .cells #[.string o.n, .int .i64 o.x, .int .i64 o.y, .int .i64 o.w, .int .i64 o.h] 31
theorem RdK.out {w : World} {b o j : Nat} {r : Out} (h : ∀ (i : Nat) (u : Value), (encO r)[i]? = some u → w.cell? ⟨b, o + j * 5 + i, none⟩ = some u) :
    w.cell? ⟨b, o + j * 5, none⟩ = some (.string r.n) ∧ w.cell? ⟨b, o + j * 5 + 1, none⟩ = some (.int .i64 r.x) ∧ w.cell? ⟨b, o + j * 5 + 2, none⟩ = some (.int .i64 r.y) ∧ w.cell? ⟨b, o + j * 5 + 3, none⟩ = some (.int .i64 r.w) ∧ w.cell? ⟨b, o + j * 5 + 4, none⟩ = some (.int .i64 r.h) :=
  ⟨h 0 _ rfl, h 1 _ rfl, h 2 _ rfl, h 3 _ rfl, h 4 _ rfl⟩
/-- What a function handed in tells of a screen, wherever memory has grown. -/
def TellsO (g : Nat) (cb : Array Value) (f : Out → Bool) (B : Nat) (w : World) : Prop :=
  ∀ (r : Out) (W : World), Below B w W → Calls Try.prog g (#[outV r] ++ cb) W fun e w' => e = .returned (.bool (f r)) ∧ Below W.heap.size W w'
/-- The place of the first of which it holds; -1: of none. -/
def firI (f : Out → Bool) (l : List Out) : Int := match l.findIdx? f with
  | some k => (k : Int)
  | none => -1
theorem firI_none {f : Out → Bool} {l : List Out} (h : ∀ (j : Nat) (x : Out), l[j]? = some x → f x = false) : firI f l = -1 := by
  unfold firI
  rw [List.findIdx?_eq_none_iff.2 fun x hx => by
    obtain ⟨j, hj⟩ := List.getElem?_of_mem hx
    exact h j x hj]
theorem firI_some {f : Out → Bool} {l : List Out} {k : Nat} {x : Out} (hx : l[k]? = some x) (hf : f x = true) (h : ∀ (j : Nat) (x : Out), j < k → l[j]? = some x → f x = false) : firI f l = (k : Int) := by
  unfold firI
  obtain ⟨hl, rfl⟩ := List.getElem?_eq_some_iff.1 hx
  rw [show l.findIdx? f = some k from List.findIdx?_eq_some_iff_getElem.2 ⟨hl, hf, fun j hj => by
    have := h j _ hj (List.getElem?_eq_getElem (by omega))
    simp [this]⟩]
theorem firI_any (f : Out → Bool) (l : List Out) : decide (0 ≤ firI f l) = l.any f := by
  unfold firI
  cases h : l.findIdx? f with
  | none =>
    rw [List.findIdx?_eq_none_iff] at h
    have : l.any f = false := by rw [List.any_eq_false]; intro x hx; simp [h x hx]
    rw [this]; rfl
  | some k =>
    obtain ⟨hl, h1, _⟩ := List.findIdx?_eq_some_iff_getElem.1 h
    have : l.any f = true := List.any_eq_true.2 ⟨_, List.getElem_mem hl, h1⟩
    rw [this]; simp
set_option maxHeartbeats 1000000 in
theorem index_o (g : Nat) (cb : Array Value) (f : Out → Bool) (v : Value) (rs : List Out) (w : World) (eg : ∀ args w, (callFunc g args).run Try.prog w = .ok (.enter g args) w) (hT : TellsO g cb f w.heap.size w) (hR : RdK encO 5 w v rs) (hn : rs.length ≤ 9223372036854775807) :
    Calls Try.prog 60 #[v, .func (.func g) #[] cb] w fun e w' => e = .returned (.int .i64 (firI f rs)) ∧ Below w.heap.size w w' := by
  obtain ⟨p, c, rfl, hcell⟩ := hR
  have HC := Lib.hid hcell
  obtain ⟨n, hln⟩ : ∃ n, n = rs.length := ⟨_, rfl⟩
  rw [← hln] at hn ⊢
  have HN := Lib.hid hln
  have HT := Lib.hid hT
  obtain ⟨z, hz⟩ : ∃ z, z = firI f rs := ⟨_, rfl⟩
  rw [← hz]
  have HZ := Lib.hid hz
  clear hcell hln hT hz
  go_enter Try.func60, Try.ntmps60
  go_wp2_with fail
  go_loopw [8] (fun z wr => ∃ k : Nat, k ≤ n ∧ z = .int .i64 k ∧ Below w.heap.size w wr ∧ Asd (∀ (j : Nat) (x : Out), j < k → rs[j]? = some x → f x = false)) (fun z _ => n - (intOf z).toNat)
  case atStart => exact ⟨0, Nat.zero_le _, rfl, Below.refl _ _, fun j x hj => absurd hj (Nat.not_lt_zero j)⟩
  case round =>
    obtain ⟨k, hk, rfl, hB, hA⟩ := hrel
    have HA := Lib.hid (show ∀ (j : Nat) (x : Out), j < k → rs[j]? = some x → f x = false from hA)
    clear hA
    by_cases hlt : k < n
    · obtain ⟨x, hx⟩ : ∃ x, rs[k]? = some x := ⟨_, List.getElem?_eq_getElem (by rw [← HN.out]; exact hlt)⟩
      obtain ⟨b, o, rfl, hb1, hb2⟩ := HC.out k x hx
      obtain ⟨r0, r1, r2, r3, r4⟩ := RdK.out (w := wr) (fun i u hu => (hB.cell (p := ⟨b, o + k * 5 + i, none⟩) hb1).trans (hb2 i u hu))
      have HX := Lib.hid hx
      clear hb2 hx
      have hi0 : (0 : Int) ≤ (k : Int) := by omega
      have hi1 : (k : Int) < (n : Int) := by omega
      have hC := HT.out x wr hB
      cases hf : f x
      · rw [hf] at hC
        have HF := Lib.hid hf
        clear hf
        have HCC := Lib.hid hC
        clear hC
        go_wp2_with fail
        refine HCC.out.mono ?_
        rintro e w1 ⟨rfl, hb⟩
        have hB1 := hB.trans (hb.mono hB.size)
        clear hb hB
        go_wp2_with fail
        go_roundw
        case rel => exact ⟨k + 1, by omega, by go_num, hB1, fun j y hj hy => by
          rcases Nat.lt_or_ge j k with h | h
          · exact HA.out j y h hy
          · obtain rfl : j = k := by omega
            rw [HX.out] at hy; injection hy with hy; subst hy; exact HF.out⟩
        case measure => simp [intOf]; omega
      · rw [hf] at hC
        have HF := Lib.hid (show z = (k : Int) from HZ.out.trans (firI_some HX.out hf HA.out))
        clear hf
        have HCC := Lib.hid hC
        clear hC
        go_wp2_with fail
        refine HCC.out.mono ?_
        rintro e w1 ⟨rfl, hb⟩
        have hB1 := hB.trans (hb.mono hB.size)
        clear hb hB
        go_wp2_with fail
        go_ret
        exact ⟨by rw [HF.out]; rfl, hB1⟩
    · have HF := Lib.hid (show z = -1 from HZ.out.trans (firI_none fun j x hj => HA.out j x (by have h1 := (List.getElem?_eq_some_iff.1 hj).1; have h2 := HN.out; omega) hj))
      go_wp2_with fail
      go_ret
      exact ⟨by rw [HF.out]; rfl, hB⟩
theorem contains_o (g : Nat) (cb : Array Value) (f : Out → Bool) (v : Value) (rs : List Out) (w : World) (eg : ∀ args w, (callFunc g args).run Try.prog w = .ok (.enter g args) w) (hT : TellsO g cb f w.heap.size w) (hR : RdK encO 5 w v rs) (hn : rs.length ≤ 9223372036854775807) :
    Calls Try.prog 38 #[v, .func (.func g) #[] cb] w fun e w' => e = .returned (.bool (rs.any f)) ∧ Below w.heap.size w w' := by
  have HI := Lib.hid (index_o g cb f v rs w eg hT hR hn)
  have HQ := Lib.hid (firI_any f rs)
  obtain ⟨z, hz⟩ : ∃ z, z = firI f rs := ⟨_, rfl⟩
  rw [← hz] at HI HQ
  clear hT hR eg hz
  go_enter Try.func38, Try.ntmps38
  go_wp2_with fail
  refine HI.out.mono ?_
  rintro e w1 ⟨rfl, hb⟩
  go_wp2_with fail
  go_ret
  exact ⟨ret_bool HQ.out, hb⟩
/-- What firstOf tells: the place and true, or 0 and false. -/
def fstR (i : Int) : Value := .tuple #[.int .i64 (max i 0), .bool (decide (0 ≤ i))]
theorem firstOf_c (g : Nat) (cb : Array Value) (f : Out → Bool) (v : Value) (rs : List Out) (w : World) (eg : ∀ args w, (callFunc g args).run Try.prog w = .ok (.enter g args) w) (hT : TellsO g cb f w.heap.size w) (hR : RdK encO 5 w v rs) (hn : rs.length ≤ 9223372036854775807) :
    Calls Try.prog 35 #[v, .func (.func g) #[] cb] w fun e w' => e = .returned (fstR (firI f rs)) ∧ Below w.heap.size w w' := by
  have HI := Lib.hid (index_o g cb f v rs w eg hT hR hn)
  obtain ⟨z, hz⟩ : ∃ z, z = firI f rs := ⟨_, rfl⟩
  rw [← hz] at HI ⊢
  clear hT hR eg hz
  by_cases h0 : 0 ≤ z
  · have HM := Lib.hid (show fstR z = .tuple #[.int .i64 z, .bool true] by unfold fstR; rw [Int.max_eq_left h0, decide_eq_true h0])
    go_enter Try.func35, Try.ntmps35
    go_wp2_with fail
    refine HI.out.mono ?_
    rintro e w1 ⟨rfl, hb⟩
    go_wp2_with fail
    refine bodyPost_ret (results_tmp2 rfl _ _ _) rfl ?_
    exact ⟨by rw [HM.out]; rfl, hb⟩
  · have HM := Lib.hid (show fstR z = .tuple #[.int .i64 0, .bool (decide (0 ≤ z))] by unfold fstR; rw [Int.max_eq_right (by omega)])
    go_enter Try.func35, Try.ntmps35
    go_wp2_with fail
    refine HI.out.mono ?_
    rintro e w1 ⟨rfl, hb⟩
    go_wp2_with fail
    refine bodyPost_ret (results_tmp2 rfl _ _ _) rfl ?_
    exact ⟨by rw [HM.out]; rfl, hb⟩
theorem enters_at : ∀ args w, (callFunc 36 args).run Try.prog w = .ok (.enter 36 args) w := enters_of Try.func36 (by kernel_rfl) rfl
theorem enters_find : ∀ args w, (callFunc 37 args).run Try.prog w = .ok (.enter 37 args) w := enters_of Try.func37 (by kernel_rfl) rfl
theorem enters_one : ∀ args w, (callFunc 54 args).run Try.prog w = .ok (.enter 54 args) w := enters_of Try.func54 (by kernel_rfl) rfl
theorem enters_wrong : ∀ args w, (callFunc 39 args).run Try.prog w = .ok (.enter 39 args) w := enters_of Try.func39 (by kernel_rfl) rfl
def hasO (p q : Int) (o : Out) : Bool := hasB o.x o.y o.w o.h p q
def namedO (s : ByteArray) (o : Out) : Bool := o.n.toList == s.toList
def wrongO (o : Out) : Bool := !rightB o.x o.y o.w o.h
def sharedI (o : Out) (r : Rc) : Int := let i := interR o.x o.y o.w o.h r.x r.y r.w r.h; areaI i.x i.y i.w i.h
theorem tells_at (g : Nat) (p q : Int) (w : World) (hb : Blk w g 36 #[.int .i64 p, .int .i64 q]) : TellsO 36 #[.pointer (some ⟨g, 0, none⟩)] (hasO p q) w.heap.size w := by
  intro r W hW
  obtain ⟨⟨c0, c1⟩, -⟩ := (hb.next hW).c2
  have hg := (hb.next hW).lt
  have HH := Lib.hid (fun W => has_c r.x r.y r.w r.h p q W)
  show Calls Try.prog 36 #[outV r, .pointer (some ⟨g, 0, none⟩)] W _
  go_enter Try.func36, Try.ntmps36
  go_wp2_with (go_at_call 23; ((with_reducible refine (HH.out _).mono ?_); rintro e w1 ⟨rfl, hb1⟩); skip)
  go_ret
  exact ⟨rfl, (((Below.refl _ _).alloc (Nat.le_refl _) _).trans (hb1.mono (by simp)))⟩
theorem tells_find (g : Nat) (s : ByteArray) (w : World) (hb : Blk w g 9 #[.string s]) : TellsO 37 #[.pointer (some ⟨g, 0, none⟩)] (namedO s) w.heap.size w := by
  intro r W hW
  obtain ⟨c0, -⟩ := (hb.next hW).c1
  have hg := (hb.next hW).lt
  show Calls Try.prog 37 #[outV r, .pointer (some ⟨g, 0, none⟩)] W _
  go_enter Try.func37, Try.ntmps37
  go_wp2_with fail
  go_ret
  exact ⟨rfl, (Below.refl _ _).alloc (Nat.le_refl _) _⟩
end Go.Proofs.Yteaeccmlibmmmaa.Ar
