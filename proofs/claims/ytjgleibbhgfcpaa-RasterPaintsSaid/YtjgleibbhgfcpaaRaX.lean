import Derived.Test.YtjgleibbhgfcpaaRaW
import Derived.LoopTactic
namespace Go.Proofs.Ytjgleibbhgfcpaa
open Go.RowKit
theorem wf_u8 {a : Int} (h : (Lit.int .u8 a).wf = true) : 0 ≤ a ∧ a ≤ 255 := by
  simp only [Lit.wf, decide_eq_true_eq, Bool.and_eq_true] at h
  have h1 : IntKind.u8.min = 0 := rfl
  have h2 : IntKind.u8.max = 255 := rfl
  omega
/-- Outside of what may be painted on all is 5. -/
def Five (W H : Nat) (c : Rc) (pix : List Int) : Prop := ∀ x y : Nat, x < W → y < H → hasB c.x c.y c.w c.h x y = false → pix[y * W + x]? = some 5
/-- The canvas of the law, while it is painted on. -/
def Cst (w0 : World) (g b W H : Nat) (c : Rc) (n0 : Nat) (R : Array Value) (pix : List Int) (wx : World) : Prop :=
  Canv wx g (some b) W H c pix ∧ Blk wx n0 40 R ∧ Below w0.heap.size w0 wx ∧ n0 ≠ g ∧ n0 ≠ b ∧ w0.heap.size ≤ g ∧ w0.heap.size ≤ b ∧ w0.heap.size ≤ n0
section
variable {w0 wx w1 : World} {g b W H : Nat} {c : Rc} {n0 : Nat} {R : Array Value} {pix pix' : List Int}
theorem Cst.next (h : Cst w0 g b W H c n0 R pix wx) (hb : Below wx.heap.size wx w1) : Cst w0 g b W H c n0 R pix w1 := ⟨h.1.next hb, h.2.1.next hb, h.2.2.1.trans (hb.mono h.2.2.1.size), h.2.2.2⟩
theorem Cst.step (h : Cst w0 g b W H c n0 R pix wx) (hC : Canv w1 g (some b) W H c pix') (hk : Kept (Off g (some b)) wx w1) : Cst w0 g b W H c n0 R pix' w1 :=
  ⟨hC, hk.blk h.2.1 ⟨h.2.2.2.1, fun e => h.2.2.2.2.1 (by injection e)⟩, Kept.below h.2.2.1 hk h.2.2.1.size (fun i hi => ⟨by have := h.2.2.2.2.2.1; omega, fun e => by injection e with e; have := h.2.2.2.2.2.2.1; omega⟩), h.2.2.2⟩
end
set_option maxRecDepth 100000 in
set_option maxHeartbeats 8000000 in
theorem clips_w (a0 a1 : Int) (x y a e : Int) (v : Value) (ts : List Pt) (w : World) (h0 : (Lit.int .u8 a0).wf = true) (h1 : (Lit.int .u8 a1).wf = true) (hv : IsPaints w.heap.size w v ts) :
    Calls Try.prog 11 #[.int .u8 a0, .int .u8 a1, .agg #[.int .i64 x, .int .i64 y, .int .i64 a, .int .i64 e], v] w fun e' w' => e' = .returned (.bool true) ∧ Below w.heap.size w w' := by
  obtain ⟨u1, u2⟩ := wf_u8 h0
  obtain ⟨u3, u4⟩ := wf_u8 h1
  clear h0 h1
  obtain ⟨W, hW⟩ : ∃ W : Nat, a0 % 40 = (W : Int) := ⟨(a0 % 40).toNat, by omega⟩
  obtain ⟨H, hH⟩ : ∃ H : Nat, a1 % 40 = (H : Int) := ⟨(a1 % 40).toNat, by omega⟩
  have hW4 : W < 40 := by omega
  have hH4 : H < 40 := by omega
  obtain ⟨p, cp, rfl, hn, hts⟩ := hv
  obtain ⟨n, hn'⟩ : ∃ n, n = ts.length := ⟨_, rfl⟩
  have HV := Lib.hid (show IsPaints w.heap.size w (.slice p ts.length cp) ts from ⟨p, cp, rfl, hn, hts⟩)
  rw [← hn'] at hn ⊢
  have HN := Lib.hid hn'
  clear hts hn'
  go_enter Try.func11, Try.ntmps11
  go_wp2_with (first
    | (go_at_call 31; refine (new_yes W H 5 _ (by omega) (by omega) (by omega)).mono ?_; rintro e1 w1 ⟨g, b, rfl, hC, hg, hbg, hb⟩; have P1 : Cst w g b W H _ w.heap.size #[.int .i64 x, .int .i64 y, .int .i64 a, .int .i64 e] (List.replicate (W * H) 5) w1 := ⟨hC, (Blk.new w _ _).next hb, ((Below.refl _ w).alloc (Nat.le_refl _) _).trans (hb.mono (by simp)), by simp at hg; omega, by simp at hbg; omega, by simp at hg; omega, by simp at hbg; omega, Nat.le_refl _⟩; obtain ⟨⟨c0, c1, c2, c3⟩, _⟩ := P1.2.1.c4; clear hb hC hg hbg)
    | (go_at_call 41; refine (clip_c g (some b) W H _ _ x y a e _ P1.1).mono ?_; rintro e2 w2 ⟨rfl, hC2, hg2⟩; have P2 : Cst w g b W H (int ⟨x, y, a, e⟩ ⟨0, 0, W, H⟩) w.heap.size #[.int .i64 x, .int .i64 y, .int .i64 a, .int .i64 e] (List.replicate (W * H) 5) w2 := ⟨hC2, P1.2.1.grown hg2 (fun e => P1.2.2.2.1 (by injection e)), P1.2.2.1.grown hg2 P1.2.2.1.size (fun k hk => by injection hk with hk; have := P1.2.2.2.2.2.1; omega), P1.2.2.2⟩; clear hC2 hg2 P1))
  have hCi : ∀ i j, hasB (int ⟨x, y, a, e⟩ ⟨0, 0, W, H⟩).x (int ⟨x, y, a, e⟩ ⟨0, 0, W, H⟩).y (int ⟨x, y, a, e⟩ ⟨0, 0, W, H⟩).w (int ⟨x, y, a, e⟩ ⟨0, 0, W, H⟩).h i j = true → hasB x y a e i j = true := by
    intro i j hij
    rw [has_int, Bool.and_eq_true] at hij
    exact hij.1
  have HCI := Lib.hid hCi
  clear hCi
  generalize int ⟨x, y, a, e⟩ ⟨0, 0, W, H⟩ = C at HCI P2
  have hF : Five W H C (List.replicate (W * H) 5) := fun i j hi hj _ => List.getElem?_replicate_of_lt (place_lt hi hj)
  clear c0 c1 c2 c3
  go_loopw [11] (fun z wr => ∃ k : Nat, z = .int .i64 k ∧ k ≤ n ∧ ∃ pix, Cst w g b W H C w.heap.size #[.int .i64 x, .int .i64 y, .int .i64 a, .int .i64 e] pix wr ∧ Five W H C pix) (fun z _ => n - (intOf z).toNat)
  case atStart => exact ⟨0, rfl, Nat.zero_le _, _, P2, hF⟩
  case round =>
    obtain ⟨k, rfl, hk, pix, P3, hF3⟩ := hrel
    clear P2 hF
    have HF3 := Lib.hid hF3
    clear hF3
    by_cases hlt : k < n ∧ k < 20
    · obtain ⟨hlt, hl20⟩ := hlt
      obtain ⟨t, ht⟩ : ∃ t, ts[k]? = some t := ⟨_, List.getElem?_eq_getElem (by rw [← HN.out]; exact hlt)⟩
      obtain ⟨p', cp', hpe, _, hts⟩ := HV.out.below P3.2.2.1
      simp only [Value.slice.injEq] at hpe
      obtain ⟨bb, o, s, hp', hbb, hcell, hz, hok⟩ := hts k t ht
      have hpp : p = some ⟨bb, o, none⟩ := hpe.1.trans hp'
      subst hpp
      clear hpe hts hp'
      have d0 : wr.cell? ⟨bb, o + k * 10, none⟩ = some (.int .i64 t.k) := hcell 0 _ rfl
      have d1 := hcell 1 _ rfl
      have d2 := hcell 2 _ rfl
      have d3 := hcell 3 _ rfl
      have d4 := hcell 4 _ rfl
      have d5 := hcell 5 _ rfl
      have d6 := hcell 6 _ rfl
      have d7 := hcell 7 _ rfl
      have d8 := hcell 8 _ rfl
      have d9 := hcell 9 _ rfl
      have hD := does_c g (some b) W H C pix t s wr P3.1 (hz.rdA P3.2.2.1.size (fun b' hb' => by injection hb' with hb'; have := P3.2.2.2.2.2.2.1; omega)) hok
      unfold Pt.val at hD
      have HD := Lib.hid hD
      clear hD hcell hz hok ht
      have hi0 : (0 : Int) ≤ (k : Int) := by omega
      have hi1 : (k : Int) < (n : Int) := by omega
      by_cases h4 : t.k = 4
      · have e4 : (t.k != 4) = false := by simp [h4]
        clear h4
        go_wp2
        go_roundw
        case rel => exact ⟨k + 1, by go_num, by omega, pix, P3, HF3.out⟩
        case measure => simp [intOf]; omega
      · have e4 : (t.k != 4) = true := by simp [h4]
        have H4 := Lib.hid (show stepClip W H C t = C by unfold stepClip; rw [if_neg h4])
        clear h4
        go_wp2_with (go_at_call 33; refine HD.out.mono ?_; rintro e3 w3 ⟨rfl, hC4, hk4⟩)
        go_roundw
        case rel =>
          rw [H4.out] at hC4
          exact ⟨k + 1, by go_num, by omega, _, P3.step hC4 hk4, fun i j hi hj hn => by rw [step_out hi hn]; exact HF3.out i j hi hj hn⟩
        case measure => simp [intOf]; omega
    · have hlen : pix.length = W * H := P3.1.2.2.2.1
      obtain ⟨N, hN⟩ : ∃ N, N = W * H := ⟨_, rfl⟩
      have HNN := Lib.hid hN
      have hWH : (W : Int) * (H : Int) = (N : Int) := by rw [hN, Int.natCast_mul]
      rw [← hN] at hlen
      have hNb : N ≤ 1600 := by rw [hN]; exact Nat.le_trans (Nat.mul_le_mul (Nat.le_of_lt hW4) (Nat.le_of_lt hH4)) (by omega)
      clear hN
      have HI := Lib.hid (image_c g b W H C pix wr P3.1)
      have HL := Lib.hid hlen
      have hcase : ¬ k < n ∨ (k < n ∧ ¬ k < 20) := by omega
      clear hlt hlen
      rcases hcase with hlt | ⟨hlt, hl20⟩
      all_goals
        go_wp2_with (go_at_call 40; refine HI.out.mono ?_; rintro e3 w3 ⟨v, rfl, hO, hb⟩; obtain ⟨p', cp', rfl⟩ := hO.slice; rw [HL.out] at hO ⊢; have P4 := P3.next hb; obtain ⟨⟨c0, c1, c2, c3⟩, _⟩ := P4.2.1.c4; have hl0 := P4.2.1.lt)
        have hR4 : Rd (w3.alloc (.cells #[.int .i64 W, .int .i64 H, .slice p' N cp'] 54)) (.slice p' N cp') pix := hO.rd.below ((Below.refl _ _).alloc (Nat.le_refl _) _)
        obtain ⟨p2, cp2, hpe, hrd⟩ := hR4
        simp only [Value.slice.injEq] at hpe
        obtain ⟨rfl, _, _⟩ := hpe
        have HRD := Lib.hid hrd
        have hB4 : Below w.heap.size w (w3.alloc (.cells #[.int .i64 W, .int .i64 H, .slice p' N cp'] 54)) := P4.2.2.1.alloc P4.2.2.1.size _
        have M4 := Blk.new w3 54 #[.int .i64 W, .int .i64 H, .slice p' N cp']
        have R4 := P4.2.1.alloc (.cells #[.int .i64 W, .int .i64 H, .slice p' N cp'] 54)
        clear hrd hO hb P4 c0 c1 c2 c3 hl0 P3
        generalize w3.alloc (.cells #[.int .i64 W, .int .i64 H, .slice p' N cp'] 54) = w4 at HRD hB4 M4 R4 ⊢
        generalize w3.heap.size = mb at M4 ⊢
        obtain ⟨⟨m0, m1, m2⟩, _⟩ := M4.c3
        obtain ⟨⟨r0, r1, r2, r3⟩, _⟩ := R4.c4
        clear M4 R4
        go_loop [13] (fun z => ∃ j : Nat, z = .int .i64 j ∧ j ≤ H) (fun z => H - (intOf z).toNat)
        case atStart => exact ⟨0, rfl, Nat.zero_le _⟩
        case round =>
          obtain ⟨j, rfl, hj⟩ := hrel
          by_cases hjl : j < H
          · go_wp2
            go_loop [14] (fun z => ∃ i : Nat, z = .int .i64 i ∧ i ≤ W) (fun z => W - (intOf z).toNat)
            case atStart => exact ⟨0, rfl, Nat.zero_le _⟩
            case round =>
              obtain ⟨i, rfl, hi⟩ := hrel
              by_cases hil : i < W
              · obtain ⟨q, hq⟩ : ∃ q, q = j * W + i := ⟨_, rfl⟩
                have hqN : q < N := by rw [hq, HNN.out]; exact place_lt hil hjl
                have hqw : (j : Int) * (W : Int) = ((j * W : Nat) : Int) := by rw [Int.natCast_mul]
                have hq2 : (j : Int) * (W : Int) + (i : Int) = (q : Int) := by rw [hq, hqw]; omega
                have hq3 : 0 ≤ (j : Int) * (W : Int) := by rw [hqw]; omega
                have hq4 : (j : Int) * (W : Int) ≤ 1600 := by omega
                have hq5 : (q : Int) < (N : Int) := by omega
                obtain ⟨u, hu⟩ : ∃ u, pix[q]? = some u := ⟨_, List.getElem?_eq_getElem (by rw [HL.out]; exact hqN)⟩
                obtain ⟨bb, o, rfl, _, hcell⟩ := HRD.out q u hu
                have HQ := Lib.hid hq
                cases hC : hasB C.x C.y C.w C.h i j
                · have hu5 : u = 5 := by
                    have h5 := HF3.out i j hil hjl hC
                    rw [← HQ.out, hu] at h5
                    injection h5
                  subst hu5
                  clear hC hq hqw hu
                  go_wp2
                  all_goals
                    go_round
                    case rel => exact ⟨i + 1, by go_num, by omega⟩
                    case measure => simp [intOf]; omega
                · obtain ⟨hE, k1, k2, k3, k4⟩ := (hasB_iff _ _ _ _ _ _).1 (HCI.out i j hC)
                  obtain ⟨⟨g1, g2, g3, g4⟩, g5, g6, g7, g8⟩ := (emptyB_iff _ _ _ _).1 hE
                  have l1 : (i : Int) - a < x := by omega
                  have l2 : (j : Int) - e < y := by omega
                  clear hC hq hqw hu hE
                  go_wp2
                  go_round
                  case rel => exact ⟨i + 1, by go_num, by omega⟩
                  case measure => simp [intOf]; omega
              · go_wp2
                go_round
                case rel => exact ⟨j + 1, by go_num, by omega⟩
                case measure => simp [intOf]; omega
          · go_wp2_with (go_at_call 30; refine (awake_c _).mono ?_; rintro e5 w5 ⟨rfl, hb5⟩)
            go_ret
            exact ⟨rfl, hB4.trans (hb5.mono hB4.size)⟩
end Go.Proofs.Ytjgleibbhgfcpaa
