/- slices.symMergeCmpFunc, walked. -/
import Derived.Test.YticfefiiiinadaaStB
import Derived.Lib.Hide
import Derived.WalkLawsBesides
import Derived.Laws.Entries
namespace Go.Proofs.Yticfefiiiinadaa
open Go.Shelf Go.RowKit Go.Lib Go.Sort

section
variable {α : Type} [Inhabited α]

/-- What symMerge does to two halves. -/
abbrev SymDone (enc : α → Value) (lex : α → α → Bool) (blk off a b : Nat) (d : Array α) (w0 : World) (e : Ending) (w' : World) : Prop :=
  e = .returned (.tuple #[]) ∧ ∃ d', SW enc w0 blk off d' w' ∧ d'.size = d.size ∧ PermIn a b d d' ∧ Asc lex a b (at_ d')

theorem half_run {P : Program} (t : TypeId) (x : Int) (h : Int) (hx : x / 2 = h) (w : World) : (binOp .shr t (.int .u64 x) (.int .u64 1)).run P w = .ok (.int .u64 h) w := by
  have e : Op.shift .shr .u64 x .u64 1 = pure (.int .u64 (x / 2 ^ (1 : Int).toNat)) := shift_shr_u64 .u64 x 1 (by decide) (by decide)
  rw [binOp_shr, e, show (2 : Int) ^ (1 : Int).toNat = 2 by decide, hx]
  rfl

set_option maxHeartbeats 16000000 in
set_option maxRecDepth 1000000 in
theorem sym_left (enc : α → Value) (cf : α → α → Int) (lex : α → α → Bool) (bef : α → α → Prop) (T : Stable (ltOf cf) lex bef) (g : Nat) (cb : Array Value) (blk off cap a m b : Nat) (d0 d : Array α) (w0 w : World)
    (eg : ∀ args w, (callFunc g args).run Try.prog w = .ok (.enter g args) w) (hcmp : CmpLays1 Try.prog g cb enc cf blk off d0.size w0) (R : Row1 enc w0 blk off d0) (hs : d0.size = d.size) (S : SW enc w0 blk off d w)
    (ham : m = a + 1) (hmb : m < b) (hb : b ≤ d.size) (hsz : d.size < 4611686018427387904) (H : Halves lex bef a m b (at_ d)) :
    Calls Try.prog 36 #[.slice (some ⟨blk, off, none⟩) d.size cap, .int .i64 a, .int .i64 m, .int .i64 b, .func (.func g) #[] cb] w (SymDone enc lex blk off a b d w0) := by
  have mixed : Try.prog.follows .mixedOrders = true := by kernel_rfl
  have hcl0 := R.hO.cells
  simp only [Value.cells] at hcl0
  have hst := R.hO.store Try.prog
  have S0 : Aside (SW enc w0 blk off d w) := S
  have HC : Aside _ := hcmp
  have HH := Lib.hid H
  clear S hcmp H
  have hm1 : (m : Int) - (a : Int) = 1 := by omega
  have ham1 : a + 1 ≤ m := by omega
  have ham2 : m ≤ a + 1 := by omega
  have HM := Lib.hid ham
  clear ham
  go_enter Try.func36, Try.ntmps36
  go_wp2
  go_loopg [10, 11] b (fun kx vi vj wr => ∃ (i j : Nat), vi = .int .i64 i ∧ vj = .int .i64 j ∧ m ≤ i ∧ i ≤ j ∧ j ≤ b ∧ j - i ≤ kx ∧ Aside (SW enc w0 blk off d wr) ∧ Hid ((m < i → ltOf cf d[i - 1]! d[a]! = true) ∧ (j < b → ltOf cf d[j]! d[a]! = false)))
  case atStart => exact ⟨m, b, rfl, rfl, Nat.le_refl _, by omega, Nat.le_refl _, by omega, S0, fun h => absurd h (by omega), fun h => absurd h (by omega)⟩
  case round =>
    clear S0
    obtain ⟨i, j, rfl, rfl, hmi, hij, hjb, hkx, S1, HI⟩ := hrel
    by_cases hlt : i < j
    · have hltz : (i : Int) < (j : Int) := by omega
      obtain ⟨h, hh⟩ : ∃ h : Nat, h = (i + j) / 2 := ⟨_, rfl⟩
      have hh1 : i ≤ h := by omega
      have hh2 : h < j := by omega
      have hz : ∀ w, (binOp .shr 57 (.int .u64 ((i : Int) + (j : Int))) (.int .u64 1)).run Try.prog w = .ok (.int .u64 (h : Int)) w := half_run _ _ _ (by omega)
      have hwh : IntKind.i64.wrap (h : Int) = (h : Int) := by rw [IntKind.wrap_i64]; omega
      have hz2 : ((i : Int) + (j : Int)) / 2 = (h : Int) := by omega
      clear hh
      have pa1 : (h : Int) < (d.size : Int) := by omega
      have pc1 : (a : Int) < (d.size : Int) := by omega
      obtain ⟨x1, hx1⟩ : ∃ x, x = d[h]! := ⟨_, rfl⟩
      obtain ⟨y1, hy1⟩ : ∃ x, x = d[a]! := ⟨_, rfl⟩
      have l1a := S1.out.cl R (by omega) h (by omega)
      have l1b := S1.out.cl R (by omega) a (by omega)
      rw [← hx1] at l1a
      rw [← hy1] at l1b
      have hc1 := S1.out.cmp HC.out (by omega) x1 y1
      cases hlv : ltOf cf d[h]! d[a]! with
      | true =>
        have hv1 : cf x1 y1 < 0 := by rw [hx1, hy1]; exact of_decide_eq_true hlv
        have hN : Hid ((m < h + 1 → ltOf cf d[h + 1 - 1]! d[a]! = true) ∧ (j < b → ltOf cf d[j]! d[a]! = false)) := ⟨fun _ => hlv, HI.out.2⟩
        clear hx1 hy1 hlv HI
        go_wp2_with fail
        go_quiet_grown (first | (go_at_fn g; refine Calls.grown_of (hc1 _ _)))
        have S2 : Aside (SW enc w0 blk off d (grow (wr.drewN nq) osq)) := S1.out.grown nq osq
        clear l1a l1b hc1 S1
        generalize grow (wr.drewN nq) osq = w2 at S2 ⊢
        clear nq osq
        go_wp2
        go_roundg (j - (h + 1))
        case measure => omega
        case rel => exact ⟨h + 1, j, by go_num, rfl, by omega, by omega, hjb, Nat.le_refl _, S2, hN⟩
      | false =>
        have hv1 : ¬ cf x1 y1 < 0 := by rw [hx1, hy1]; exact of_decide_eq_false hlv
        have hN : Hid ((m < i → ltOf cf d[i - 1]! d[a]! = true) ∧ (h < b → ltOf cf d[h]! d[a]! = false)) := ⟨HI.out.1, fun _ => hlv⟩
        clear hx1 hy1 hlv HI
        go_wp2_with fail
        go_quiet_grown (first | (go_at_fn g; refine Calls.grown_of (hc1 _ _)))
        have S2 : Aside (SW enc w0 blk off d (grow (wr.drewN nq) osq)) := S1.out.grown nq osq
        clear l1a l1b hc1 S1
        generalize grow (wr.drewN nq) osq = w2 at S2 ⊢
        clear nq osq
        go_wp2
        go_roundg (h - i)
        case measure => omega
        case rel => exact ⟨i, h, rfl, rfl, hmi, by omega, by omega, Nat.le_refl _, S2, hN⟩
    · have hltz : ¬ (i : Int) < (j : Int) := by omega
      obtain rfl : i = j := by omega
      have HX : Hid (Asc lex a b (rotF a (a + 1) i (at_ d))) := by
        have := HH.out
        rw [HM.out] at this
        refine base_left T this (by omega) hjb (fun h => HI.out.1 (by omega)) (fun h => HI.out.2 h)
      clear HI HC HH
      go_wp2
      go_loopg [13] b (fun kx vk wr => ∃ (k : Nat) (dk : Array α), vk = .int .i64 k ∧ a ≤ k ∧ k + 1 ≤ i ∧ i - k ≤ kx ∧ dk.size = d.size ∧ Aside (SW enc w0 blk off dk wr) ∧ Hid (PermIn a b d dk ∧ ∀ x, dk[x]! = rotF a (a + 1) (k + 1) (at_ d) x))
      case atStart => exact ⟨a, d, rfl, Nat.le_refl _, by omega, by omega, rfl, S1, permIn_refl _ _ _, fun x => (rotF_right _ _ _ _).symm⟩
      case round =>
        clear S1
        obtain ⟨k, dk, rfl, hak, hki, hkx2, hsk, S1, HI⟩ := hrel
        by_cases hlt2 : k + 1 < i
        · have hltz2 : (k : Int) < (i : Int) - 1 := by omega
          go_wp2_with fail
          obtain ⟨jN1, hjN1⟩ : ∃ q, q = k + 1 := ⟨_, rfl⟩
          have ea1 : ((k : Int) + 1).toNat = jN1 := by omega
          have pa1 : (0 : Int) ≤ (k : Int) + 1 := by omega
          have ba1 : (k : Int) + 1 < (d.size : Int) := by omega
          have bc1 : (k : Int) < (d.size : Int) := by omega
          have ra1 : IntKind.i64.wrap ((k : Int) + 1) = (k : Int) + 1 := by rw [IntKind.wrap_i64]; omega
          obtain ⟨x1, hx1⟩ : ∃ x, x = dk[k]! := ⟨_, rfl⟩
          obtain ⟨y1, hy1⟩ : ∃ x, x = dk[k + 1]! := ⟨_, rfl⟩
          have S2 : Aside (SW enc w0 blk off (swp dk k (k + 1)) ((wr.setCell ⟨blk, off + k, none⟩ (enc y1)).setCell ⟨blk, off + jN1, none⟩ (enc x1)).drew) := by rw [hjN1, hx1, hy1]; exact S1.out.swapped R k (k + 1) (by omega) (by omega)
          have c1a := S1.out.c1 R (by omega) k (by omega)
          have c1b := S1.out.c1 R (by omega) (k + 1) (by omega)
          have f1a := S1.out.f1 R (by omega) k (by omega)
          have f1b := S1.out.f1 R (by omega) (k + 1) (by omega)
          obtain ⟨u1, c1c⟩ := S1.out.c2 R (by omega) k (k + 1) (by omega) (by omega) (enc y1)
          rw [← hjN1] at c1c
          rw [← hx1] at c1a
          rw [← hy1, ← hjN1] at c1b
          rw [← hjN1] at f1b
          have HN : Hid (PermIn a b d (swp dk k (k + 1)) ∧ ∀ x, (swp dk k (k + 1))[x]! = rotF a (a + 1) (k + 1 + 1) (at_ d) x) :=
            ⟨permIn_trans _ _ _ _ _ HI.out.1 (swp_permIn dk a b k (k + 1) (by omega) (by omega) (by omega) (by omega) (by omega)), fun x => rot_up hak (by omega) HI.out.2 x⟩
          have hsN : (swp dk k (k + 1)).size = d.size := by rw [size_swp]; exact hsk
          clear S1 hx1 hy1 hjN1 HI
          go_wp2_with fail
          go_big_region_o
          clear c1a c1b c1c f1a f1b
          generalize ((wr.setCell ⟨blk, off + k, none⟩ (enc y1)).setCell ⟨blk, off + jN1, none⟩ (enc x1)).drew = w2 at S2 ⊢
          clear ea1
          go_wp2
          go_roundg (i - (k + 1))
          case measure => omega
          case rel => exact ⟨k + 1, _, by go_num, by omega, by omega, Nat.le_refl _, hsN, S2, HN⟩
        · have hltz2 : ¬ (k : Int) < (i : Int) - 1 := by omega
          have hki' : k + 1 = i := by omega
          go_wp2
          go_end0
          refine ⟨rfl, dk, S1, hsk, HI.out.1, ?_⟩
          have he : at_ dk = rotF a (a + 1) i (at_ d) := funext fun x => by rw [← hki']; exact HI.out.2 x
          rw [he]; exact HX.out
set_option maxHeartbeats 16000000 in
set_option maxRecDepth 1000000 in
theorem sym_right (enc : α → Value) (cf : α → α → Int) (lex : α → α → Bool) (bef : α → α → Prop) (T : Stable (ltOf cf) lex bef) (g : Nat) (cb : Array Value) (blk off cap a m b : Nat) (d0 d : Array α) (w0 w : World)
    (eg : ∀ args w, (callFunc g args).run Try.prog w = .ok (.enter g args) w) (hcmp : CmpLays1 Try.prog g cb enc cf blk off d0.size w0) (R : Row1 enc w0 blk off d0) (hs : d0.size = d.size) (S : SW enc w0 blk off d w)
    (ham : a + 1 < m) (hmb : b = m + 1) (hb : b ≤ d.size) (hsz : d.size < 4611686018427387904) (H : Halves lex bef a m b (at_ d)) :
    Calls Try.prog 36 #[.slice (some ⟨blk, off, none⟩) d.size cap, .int .i64 a, .int .i64 m, .int .i64 b, .func (.func g) #[] cb] w (SymDone enc lex blk off a b d w0) := by
  have mixed : Try.prog.follows .mixedOrders = true := by kernel_rfl
  have hcl0 := R.hO.cells
  simp only [Value.cells] at hcl0
  have hst := R.hO.store Try.prog
  have S0 : Aside (SW enc w0 blk off d w) := S
  have HC : Aside _ := hcmp
  have HH := Lib.hid H
  clear S hcmp H
  have hm1 : ¬ (m : Int) - (a : Int) = 1 := by omega
  have hm1b : ((m : Int) - (a : Int) == 1) = false := by rw [beq_eq_false_iff_ne]; exact hm1
  have hm2 : (b : Int) - (m : Int) = 1 := by omega
  have hmb1 : m + 1 ≤ b := by omega
  have hmb2 : b ≤ m + 1 := by omega
  have HM := Lib.hid hmb
  clear hmb
  go_enter Try.func36, Try.ntmps36
  go_wp2
  go_loopg [14, 15] b (fun kx vi vj wr => ∃ (i j : Nat), vi = .int .i64 i ∧ vj = .int .i64 j ∧ a ≤ i ∧ i ≤ j ∧ j ≤ m ∧ j - i ≤ kx ∧ Aside (SW enc w0 blk off d wr) ∧ Hid ((a < i → ltOf cf d[m]! d[i - 1]! = false) ∧ (j < m → ltOf cf d[m]! d[j]! = true)))
  case atStart => exact ⟨a, m, rfl, rfl, Nat.le_refl _, by omega, Nat.le_refl _, by omega, S0, fun h => absurd h (by omega), fun h => absurd h (by omega)⟩
  case round =>
    clear S0
    obtain ⟨i, j, rfl, rfl, hmi, hij, hjb, hkx, S1, HI⟩ := hrel
    by_cases hlt : i < j
    · have hltz : (i : Int) < (j : Int) := by omega
      obtain ⟨h, hh⟩ : ∃ h : Nat, h = (i + j) / 2 := ⟨_, rfl⟩
      have hh1 : i ≤ h := by omega
      have hh2 : h < j := by omega
      have hz : ∀ w, (binOp .shr 57 (.int .u64 ((i : Int) + (j : Int))) (.int .u64 1)).run Try.prog w = .ok (.int .u64 (h : Int)) w := half_run _ _ _ (by omega)
      have hwh : IntKind.i64.wrap (h : Int) = (h : Int) := by rw [IntKind.wrap_i64]; omega
      have hz2 : ((i : Int) + (j : Int)) / 2 = (h : Int) := by omega
      clear hh
      have pa1 : (h : Int) < (d.size : Int) := by omega
      have pc1 : (m : Int) < (d.size : Int) := by omega
      obtain ⟨x1, hx1⟩ : ∃ x, x = d[m]! := ⟨_, rfl⟩
      obtain ⟨y1, hy1⟩ : ∃ x, x = d[h]! := ⟨_, rfl⟩
      have l1a := S1.out.cl R (by omega) m (by omega)
      have l1b := S1.out.cl R (by omega) h (by omega)
      rw [← hx1] at l1a
      rw [← hy1] at l1b
      have hc1 := S1.out.cmp HC.out (by omega) x1 y1
      cases hlv : ltOf cf d[m]! d[h]! with
      | true =>
        have hv1 : cf x1 y1 < 0 := by rw [hx1, hy1]; exact of_decide_eq_true hlv
        have hd1 : decide (cf x1 y1 < 0) = true := decide_eq_true hv1
        have hN : Hid ((a < i → ltOf cf d[m]! d[i - 1]! = false) ∧ (h < m → ltOf cf d[m]! d[h]! = true)) := ⟨HI.out.1, fun _ => hlv⟩
        clear hx1 hy1 hlv HI
        go_wp2_with fail
        go_quiet_grown (first | (go_at_fn g; refine Calls.grown_of (hc1 _ _)))
        have S2 : Aside (SW enc w0 blk off d (grow (wr.drewN nq) osq)) := S1.out.grown nq osq
        clear l1a l1b hc1 S1
        generalize grow (wr.drewN nq) osq = w2 at S2 ⊢
        clear nq osq
        go_wp2
        go_roundg (h - i)
        case measure => omega
        case rel => exact ⟨i, h, rfl, rfl, hmi, by omega, by omega, Nat.le_refl _, S2, hN⟩
      | false =>
        have hv1 : ¬ cf x1 y1 < 0 := by rw [hx1, hy1]; exact of_decide_eq_false hlv
        have hd1 : decide (cf x1 y1 < 0) = false := decide_eq_false hv1
        have hN : Hid ((a < h + 1 → ltOf cf d[m]! d[h + 1 - 1]! = false) ∧ (j < m → ltOf cf d[m]! d[j]! = true)) := ⟨fun _ => hlv, HI.out.2⟩
        clear hx1 hy1 hlv HI
        go_wp2_with fail
        go_quiet_grown (first | (go_at_fn g; refine Calls.grown_of (hc1 _ _)))
        have S2 : Aside (SW enc w0 blk off d (grow (wr.drewN nq) osq)) := S1.out.grown nq osq
        clear l1a l1b hc1 S1
        generalize grow (wr.drewN nq) osq = w2 at S2 ⊢
        clear nq osq
        go_wp2
        go_roundg (j - (h + 1))
        case measure => omega
        case rel => exact ⟨h + 1, j, by go_num, rfl, by omega, by omega, hjb, Nat.le_refl _, S2, hN⟩
    · have hltz : ¬ (i : Int) < (j : Int) := by omega
      obtain rfl : i = j := by omega
      have HX : Hid (Asc lex a b (rotF i m (m + 1) (at_ d))) := by
        have := HH.out
        rw [HM.out] at this ⊢
        exact base_right T this hmi hjb (fun h => HI.out.1 h) (fun h => HI.out.2 h)
      clear HI HC HH
      go_wp2
      go_loopg [17] b (fun kx vk wr => ∃ (k : Nat) (dk : Array α), vk = .int .i64 k ∧ i ≤ k ∧ k ≤ m ∧ k - i ≤ kx ∧ dk.size = d.size ∧ Aside (SW enc w0 blk off dk wr) ∧ Hid (PermIn a b d dk ∧ ∀ x, dk[x]! = rotF k m (m + 1) (at_ d) x))
      case atStart => exact ⟨m, d, rfl, hjb, Nat.le_refl _, by omega, rfl, S1, permIn_refl _ _ _, fun x => (rotF_left _ _ _ _).symm⟩
      case round =>
        clear S1
        obtain ⟨k, dk, rfl, hak, hki, hkx2, hsk, S1, HI⟩ := hrel
        by_cases hlt2 : i < k
        · have hltz2 : (i : Int) < (k : Int) := by omega
          obtain ⟨q, hq⟩ : ∃ q, k = q + 1 := ⟨k - 1, by omega⟩
          subst hq
          go_wp2_with fail
          obtain ⟨jN1, hjN1⟩ : ∃ z, z = q + 1 := ⟨_, rfl⟩
          have ea1 : ((q : Int) + 1).toNat = jN1 := by omega
          have pa1 : (0 : Int) ≤ (q : Int) + 1 := by omega
          have ba1 : (q : Int) + 1 < (d.size : Int) := by omega
          have bc1 : (q : Int) < (d.size : Int) := by omega
          have ra1 : IntKind.i64.wrap ((q : Int) + 1) = (q : Int) + 1 := by rw [IntKind.wrap_i64]; omega
          have rc1 : IntKind.i64.wrap (q : Int) = (q : Int) := by rw [IntKind.wrap_i64]; omega
          obtain ⟨x1, hx1⟩ : ∃ x, x = dk[q + 1]! := ⟨_, rfl⟩
          obtain ⟨y1, hy1⟩ : ∃ x, x = dk[q]! := ⟨_, rfl⟩
          have S2 : Aside (SW enc w0 blk off (swp dk (q + 1) q) ((wr.setCell ⟨blk, off + jN1, none⟩ (enc y1)).setCell ⟨blk, off + q, none⟩ (enc x1)).drew) := by rw [hjN1, hx1, hy1]; exact S1.out.swapped R (q + 1) q (by omega) (by omega)
          have c1a := S1.out.c1 R (by omega) (q + 1) (by omega)
          have c1b := S1.out.c1 R (by omega) q (by omega)
          have f1a := S1.out.f1 R (by omega) (q + 1) (by omega)
          have f1b := S1.out.f1 R (by omega) q (by omega)
          obtain ⟨u1, c1c⟩ := S1.out.c2 R (by omega) (q + 1) q (by omega) (by omega) (enc y1)
          rw [← hjN1] at c1c
          rw [← hx1, ← hjN1] at c1a
          rw [← hy1] at c1b
          rw [← hjN1] at f1a
          have HN : Hid (PermIn a b d (swp dk (q + 1) q) ∧ ∀ x, (swp dk (q + 1) q)[x]! = rotF q m (m + 1) (at_ d) x) :=
            ⟨permIn_trans _ _ _ _ _ HI.out.1 (swp_permIn dk a b (q + 1) q (by omega) (by omega) (by omega) (by omega) (by omega)), fun x => rot_down (by omega) (by omega) HI.out.2 x⟩
          have hsN : (swp dk (q + 1) q).size = d.size := by rw [size_swp]; exact hsk
          clear S1 hx1 hy1 hjN1 HI
          go_wp2_with fail
          go_big_region_o
          clear c1a c1b c1c f1a f1b
          generalize ((wr.setCell ⟨blk, off + jN1, none⟩ (enc y1)).setCell ⟨blk, off + q, none⟩ (enc x1)).drew = w2 at S2 ⊢
          clear ea1
          go_wp2
          go_roundg (q - i)
          case measure => omega
          case rel => exact ⟨q, _, by first | rfl | go_num | (congr 1; omega), by omega, by omega, Nat.le_refl _, hsN, S2, HN⟩
        · have hltz2 : ¬ (i : Int) < (k : Int) := by omega
          obtain rfl : k = i := by omega
          go_wp2
          go_end0
          refine ⟨rfl, dk, S1, hsk, HI.out.1, ?_⟩
          have he : at_ dk = rotF k m (m + 1) (at_ d) := funext fun x => HI.out.2 x
          rw [he]; exact HX.out
end
end Go.Proofs.Yticfefiiiinadaa
