/- slices.EqualFunc with alike: do two bands have the same runs? -/
import Derived.Test.YtfabknabkcfpjaaRhD
namespace Go.Proofs.Ytfabknabkcfpjaa
open Go.RowKit Go.Shelf
def alk (a b : Rc) : Bool := decide (a.x = b.x) && decide (a.w = b.w)
def eqR : List Rc → List Rc → Bool
  | [], [] => true
  | a :: s, b :: t => alk a b && eqR s t
  | _, _ => false
theorem eqR_len : ∀ {s t : List Rc}, eqR s t = true → s.length = t.length
  | [], [], _ => rfl
  | a :: s, b :: t, h => by
    unfold eqR at h
    rw [Bool.and_eq_true] at h
    simp [eqR_len h.2]
  | [], _ :: _, h => by simp [eqR] at h
  | _ :: _, [], h => by simp [eqR] at h
theorem eqR_at : ∀ {s t : List Rc} {j : Nat} {a b : Rc}, s[j]? = some a → t[j]? = some b → alk a b = false → eqR s t = false
  | x :: s, y :: t, 0, a, b, h1, h2, h => by
    simp only [List.getElem?_cons_zero, Option.some.injEq] at h1 h2
    subst h1 h2
    simp [eqR, h]
  | x :: s, y :: t, j + 1, a, b, h1, h2, h => by
    simp only [List.getElem?_cons_succ] at h1 h2
    simp [eqR, eqR_at h1 h2 h]
  | [], _, _, _, _, h1, _, _ => by simp at h1
  | _ :: _, [], _, _, _, _, h2, _ => by simp at h2
theorem eqR_all : ∀ {s t : List Rc}, s.length = t.length → (∀ (j : Nat) (a b : Rc), s[j]? = some a → t[j]? = some b → alk a b = true) → eqR s t = true
  | [], [], _, _ => rfl
  | x :: s, y :: t, hl, h => by
    have h0 := h 0 x y rfl rfl
    have ht := eqR_all (s := s) (t := t) (by simpa using hl) (fun j a b h1 h2 => h (j + 1) a b (by simpa using h1) (by simpa using h2))
    simp [eqR, h0, ht]
  | [], _ :: _, hl, _ => by simp at hl
  | _ :: _, [], hl, _ => by simp at hl
theorem alike_c (a b : Rc) (w : World) : Calls Try.prog 64 #[rcV a, rcV b] w fun e w' => e = .returned (.bool (alk a b)) ∧ Below w.heap.size w w' := by
  obtain ⟨ax, ay, aw, ah⟩ := a
  obtain ⟨bx, bY, bw, bh⟩ := b
  show Calls Try.prog 64 #[.agg #[.int .i64 ax, .int .i64 ay, .int .i64 aw, .int .i64 ah], .agg #[.int .i64 bx, .int .i64 bY, .int .i64 bw, .int .i64 bh]] w _
  by_cases h1 : ax = bx
  · subst h1
    by_cases h2 : aw = bw
    · subst h2
      have e : alk ⟨ax, ay, aw, ah⟩ ⟨ax, bY, aw, bh⟩ = true := by simp [alk]
      rw [e]
      go_enter Try.func64, Try.ntmps64
      go_wp2_with fail
      go_ret
      exact ⟨rfl, by repeat' (first | (with_reducible exact Below.refl _ _) | (with_reducible assumption) | (with_reducible refine Below.alloc ?_ ?_ _) | (with_reducible refine Below.drew ?_) | (with_reducible refine Below.setCell ?_ ?_ _) | (with_reducible refine Below.on (by with_reducible assumption) ?_ ?_) | go_size)⟩
    · have e : alk ⟨ax, ay, aw, ah⟩ ⟨ax, bY, bw, bh⟩ = false := by simp [alk, h2]
      have n2 : (aw == bw) = false := by simpa using h2
      rw [e]
      clear h2
      go_enter Try.func64, Try.ntmps64
      go_wp2_with fail
      go_ret
      exact ⟨rfl, by repeat' (first | (with_reducible exact Below.refl _ _) | (with_reducible assumption) | (with_reducible refine Below.alloc ?_ ?_ _) | (with_reducible refine Below.drew ?_) | (with_reducible refine Below.setCell ?_ ?_ _) | (with_reducible refine Below.on (by with_reducible assumption) ?_ ?_) | go_size)⟩
  · have e : alk ⟨ax, ay, aw, ah⟩ ⟨bx, bY, bw, bh⟩ = false := by simp [alk, h1]
    have n2 : (ax == bx) = false := by simpa using h1
    rw [e]
    clear h1
    go_enter Try.func64, Try.ntmps64
    go_wp2_with fail
    go_ret
    exact ⟨rfl, by repeat' (first | (with_reducible exact Below.refl _ _) | (with_reducible assumption) | (with_reducible refine Below.alloc ?_ ?_ _) | (with_reducible refine Below.drew ?_) | (with_reducible refine Below.setCell ?_ ?_ _) | (with_reducible refine Below.on (by with_reducible assumption) ?_ ?_) | go_size)⟩
theorem enters_alike : ∀ args w, (callFunc 64 args).run Try.prog w = .ok (.enter 64 args) w := enters_of Try.func64 (by kernel_rfl) rfl
set_option maxHeartbeats 2000000 in
theorem equal_c (va vb : Value) (la lb : List Rc) (w : World) (ha : RdK encR 4 w va la) (hb : RdK encR 4 w vb lb) (hla : la.length ≤ 1048576) (hlb : lb.length ≤ 1048576) :
    Calls Try.prog 63 #[va, vb, .func (.func 64) #[] #[]] w fun e w' => e = .returned (.bool (eqR la lb)) ∧ Below w.heap.size w w' := by
  obtain ⟨p, c, rfl, hca⟩ := ha
  obtain ⟨p', c', rfl, hcb⟩ := hb
  have eg := enters_alike
  have HA := Lib.hid hca
  have HB := Lib.hid hcb
  obtain ⟨n, hn⟩ : ∃ n, n = la.length := ⟨_, rfl⟩
  obtain ⟨m, hm⟩ : ∃ m, m = lb.length := ⟨_, rfl⟩
  rw [← hn] at hla ⊢
  rw [← hm] at hlb ⊢
  have HN := Lib.hid hn
  have HM := Lib.hid hm
  clear hca hcb hn hm
  by_cases hne : n = m
  · subst hne
    go_enter Try.func63, Try.ntmps63
    go_wp2_with fail
    go_loopw [17] (fun z wr => ∃ k : Nat, k ≤ n ∧ z = .int .i64 k ∧ Below w.heap.size w wr ∧ Asd (∀ (j : Nat) (a b : Rc), j < k → la[j]? = some a → lb[j]? = some b → alk a b = true)) (fun z _ => n - (intOf z).toNat)
    case atStart => exact ⟨0, Nat.zero_le _, rfl, Below.refl _ _, fun j a b hj => absurd hj (Nat.not_lt_zero j)⟩
    case round =>
      obtain ⟨k, hk, rfl, hB, hA⟩ := hrel
      have HAS := Lib.hid (show ∀ (j : Nat) (a b : Rc), j < k → la[j]? = some a → lb[j]? = some b → alk a b = true from hA)
      clear hA
      by_cases hlt : k < n
      · obtain ⟨a, hx⟩ : ∃ a, la[k]? = some a := ⟨_, List.getElem?_eq_getElem (by rw [← HN.out]; exact hlt)⟩
        obtain ⟨d, hy⟩ : ∃ d, lb[k]? = some d := ⟨_, List.getElem?_eq_getElem (by rw [← HM.out]; exact hlt)⟩
        obtain ⟨b, o, rfl, hb1, hb2⟩ := HA.out k a hx
        obtain ⟨b', o', rfl, hc1, hc2⟩ := HB.out k d hy
        obtain ⟨r0, r1, r2, r3⟩ := RdK.rect (w := wr) (fun i u hu => (hB.cell (p := ⟨b, o + k * 4 + i, none⟩) hb1).trans (hb2 i u hu))
        obtain ⟨s0, s1, s2, s3⟩ := RdK.rect (w := wr) (fun i u hu => (hB.cell (p := ⟨b', o' + k * 4 + i, none⟩) hc1).trans (hc2 i u hu))
        have hl1 : b < wr.heap.size := Nat.lt_of_lt_of_le hb1 hB.size
        have hl2 : b' < wr.heap.size := Nat.lt_of_lt_of_le hc1 hB.size
        have HX := Lib.hid hx
        have HY := Lib.hid hy
        clear hb2 hc2 hx hy
        have hi0 : (0 : Int) ≤ (k : Int) := by omega
        have hi1 : (k : Int) < (n : Int) := by omega
        have hC := fun W => alike_c a d W
        cases hf : alk a d
        · rw [hf] at hC
          have HF := Lib.hid (show false = eqR la lb from (eqR_at HX.out HY.out hf).symm)
          have HC := Lib.hid hC
          clear hf hC
          go_wp2_with fail
          refine (HC.out _).mono ?_
          rintro e w1 ⟨rfl, hb⟩
          have hB1 := ((hB.alloc hB.size (.cells #[.int .i64 a.x, .int .i64 a.y, .int .i64 a.w, .int .i64 a.h] 40)).alloc (by simp; exact Nat.le_trans hB.size (Nat.le_succ _)) (.cells #[.int .i64 d.x, .int .i64 d.y, .int .i64 d.w, .int .i64 d.h] 40)).trans (hb.mono (by simp; exact Nat.le_trans hB.size (Nat.le_trans (Nat.le_succ _) (Nat.le_succ _))))
          clear hb
          go_wp2_with fail
          go_ret
          exact ⟨ret_bool HF.out, hB1⟩
        · rw [hf] at hC
          have HF := Lib.hid hf
          have HC := Lib.hid hC
          clear hf hC
          go_wp2_with fail
          refine (HC.out _).mono ?_
          rintro e w1 ⟨rfl, hb⟩
          have hB1 := ((hB.alloc hB.size (.cells #[.int .i64 a.x, .int .i64 a.y, .int .i64 a.w, .int .i64 a.h] 40)).alloc (by simp; exact Nat.le_trans hB.size (Nat.le_succ _)) (.cells #[.int .i64 d.x, .int .i64 d.y, .int .i64 d.w, .int .i64 d.h] 40)).trans (hb.mono (by simp; exact Nat.le_trans hB.size (Nat.le_trans (Nat.le_succ _) (Nat.le_succ _))))
          clear hb hB
          go_wp2_with fail
          go_roundw
          case rel => exact ⟨k + 1, by omega, by go_num, hB1, fun j x y hj hx hy => by
            rcases Nat.lt_or_ge j k with h | h
            · exact HAS.out j x y h hx hy
            · obtain rfl : j = k := by omega
              rw [HX.out] at hx; rw [HY.out] at hy; injection hx with hx; injection hy with hy; subst hx hy; exact HF.out⟩
          case measure => simp [intOf]; omega
      · have HF := Lib.hid (show true = eqR la lb from (eqR_all (by rw [← HN.out, ← HM.out]) (fun j a b h1 h2 => HAS.out j a b (by have h3 := (List.getElem?_eq_some_iff.1 h1).1; have h4 := HN.out; omega) h1 h2)).symm)
        go_wp2_with fail
        go_ret
        exact ⟨ret_bool HF.out, hB⟩
  · have HF := Lib.hid (show false = eqR la lb by
      cases h : eqR la lb with
      | false => rfl
      | true => exact absurd (eqR_len h) (by rw [← HN.out, ← HM.out]; exact hne))
    have n2 : ((n : Int) != (m : Int)) = true := by simp; omega
    clear hne
    go_enter Try.func63, Try.ntmps63
    go_wp2_with fail
    go_ret
    exact ⟨ret_bool HF.out, Below.refl _ _⟩
end Go.Proofs.Ytfabknabkcfpjaa
