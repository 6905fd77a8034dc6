import Derived.Test.YtedhgdjlcddchaaRcD
namespace Go.Proofs.Ytedhgdjlcddchaa
open Go.RowKit Go.Shelf
set_option maxRecDepth 100000 in
set_option maxHeartbeats 8000000 in
theorem rdoes_frame (W H b n cc : Nat) (c : Rc) (pix : List Int) (k x y a e col wd mw mh : Int) (zs : List Int) (p : Option Addr) (m pc : Nat) (w : World) (hW : W ≤ 1024) (hH : H ≤ 1024) (hn : n = W * H) (hR : Row w b n pix) (hcols : Cols pix)
    (hm : m = zs.length) (_hs : RdB w.heap.size w (.slice p m pc) zs) (ht : (Pt.mk k x y a e col wd mw mh zs).ok) (hk : k = 3) (hwd : 1 ≤ wd) :
    Calls Try.prog 69 #[.agg #[.int .i64 W, .int .i64 H, .slice (some ⟨b, 0, none⟩) n cc, .int .i64 c.x, .int .i64 c.y, .int .i64 c.w, .int .i64 c.h], .agg #[.int .i64 3, .int .i64 x, .int .i64 y, .int .i64 a, .int .i64 e, .int .u32 col, .int .i64 wd, .int .i64 mw, .int .i64 mh, .slice p m pc]] w fun e' w' => ∃ G cap, e' = .returned (.agg #[.int .i64 W, .int .i64 H, .slice (some ⟨G, 0, none⟩) n cap, .int .i64 c.x, .int .i64 c.y, .int .i64 c.w, .int .i64 c.h]) ∧
      Row w' G n (pnt W (inB c x y a e) (colF ⟨k, x, y, a, e, col, wd, mw, mh, zs⟩) pix) ∧ w.heap.size ≤ G ∧ Below w.heap.size w w' := by
  subst hk
  have n3 : ¬ wd < 1 := by omega
  have n4 : decide (wd < 1) = false := by simpa using n3
  have hnb : n ≤ 1048576 := by rw [hn]; exact Nat.le_trans (Nat.mul_le_mul hW hH) (by omega)
  have hlen : pix.length = n := by obtain ⟨_, _, _, h, _⟩ := hR; exact h
  have hbl := hR.lt
  -- the colour of each place
  have hcol : ∀ (wx : World) (i j : Nat) (u : Int), Below w.heap.size w wx → (0 ≤ u ∧ u < 4294967296) → i < W → j < H → inB c x y a e i j = true →
      Calls Try.prog 95 #[.agg #[.int .i64 3, .int .i64 x, .int .i64 y, .int .i64 a, .int .i64 e, .int .u32 col, .int .i64 wd, .int .i64 mw, .int .i64 mh, .slice p m pc], .int .i64 i, .int .i64 j, .int .u32 u] wx fun e' w' => e' = .returned (.int .u32 (colF ⟨3, x, y, a, e, col, wd, mw, mh, zs⟩ i j u)) ∧ Below wx.heap.size wx w' := by
    intro wx i j u hb hu hi hj hq
    refine rcol_c ⟨3, x, y, a, e, col, wd, mw, mh, zs⟩ p m pc i j u wx ht hu ⟨by show (0 : Int) ≤ 3; omega, by show 3 ≤ (3 : Int); omega⟩ hm ?_
    intro hk2
    dsimp only at hk2; omega
  have HCOL := Lib.hid hcol
  obtain ⟨f, hf⟩ : ∃ f, f = colF ⟨3, x, y, a, e, col, wd, mw, mh, zs⟩ := ⟨_, rfl⟩
  rw [← hf] at HCOL ⊢
  clear hcol hf ht _hs hwd
  have HN := Lib.hid hn
  have HM := Lib.hid hm
  have HL := Lib.hid hlen
  obtain ⟨i0, hi, hz0, hz1, hz2⟩ := info_parts u32_info
  have HC1 := Lib.hid (show (pix.map (Value.int .u32)).length = n * 1 by simp [hlen])
  have HC3 := Lib.hid (show ∀ u ∈ pix.map (Value.int .u32), u.oneCell' = true from fun u hu => by obtain ⟨x, _, rfl⟩ := List.mem_map.1 hu; rfl)
  have HR := Lib.hid hR
  have hown0 : ((((w.alloc (.cells #[.int .i64 W, .int .i64 H, .slice (some ⟨b, 0, none⟩) n cc, .int .i64 c.x, .int .i64 c.y, .int .i64 c.w, .int .i64 c.h] 58)).alloc (.cells #[.int .i64 3, .int .i64 x, .int .i64 y, .int .i64 a, .int .i64 e, .int .u32 col, .int .i64 wd, .int .i64 mw, .int .i64 mh, .slice p m pc] 96)).alloc (.cells #[.int .i64 0, .int .i64 0, .slice none 0 0, .int .i64 0, .int .i64 0, .int .i64 0, .int .i64 0] 58)).alloc (.cells #[] 50)).ownsRow w.heap.size 50 1 (.slice (some ⟨w.heap.size + 1 + 1 + 1, 0, none⟩) 0 0) 0 [] := by
    have h := World.ownsRow_made (base := w.heap.size) (e := 50) (size := 1) (((w.alloc (.cells #[.int .i64 W, .int .i64 H, .slice (some ⟨b, 0, none⟩) n cc, .int .i64 c.x, .int .i64 c.y, .int .i64 c.w, .int .i64 c.h] 58)).alloc (.cells #[.int .i64 3, .int .i64 x, .int .i64 y, .int .i64 a, .int .i64 e, .int .u32 col, .int .i64 wd, .int .i64 mw, .int .i64 mh, .slice p m pc] 96)).alloc (.cells #[.int .i64 0, .int .i64 0, .slice none 0 0, .int .i64 0, .int .i64 0, .int .i64 0, .int .i64 0] 58)) #[] 0 (by simp; omega) (Nat.zero_le _) rfl
    simpa using h
  have HOWN := Lib.hid hown0
  clear hown0
  clear hn hm hlen hR
  go_enter Try.func69, Try.ntmps69
  go_wp2_with (at_builtin; (refine wpList_append_own _ rfl _ _ 54 rfl w.heap.size 50 i0 (.int .u32 0) 1 4 Try.underlying54 hi hz0 hz1 hz2 rfl (by decide) _ _ _ rfl HOWN.out ⟨b, 0, none⟩ n cc (pix.map (Value.int .u32)) rfl HC1.out ?qc2 HC3.out ?qc4 ?qc5 ?qc6 ?_))
  case qc2 =>
    intro j u hj
    have h := (((((HR.out.next ((Below.refl _ _).alloc (Nat.le_refl _) (.cells #[.int .i64 W, .int .i64 H, .slice (some ⟨b, 0, none⟩) n cc, .int .i64 c.x, .int .i64 c.y, .int .i64 c.w, .int .i64 c.h] 58))).next ((Below.refl _ _).alloc (Nat.le_refl _) (.cells #[.int .i64 3, .int .i64 x, .int .i64 y, .int .i64 a, .int .i64 e, .int .u32 col, .int .i64 wd, .int .i64 mw, .int .i64 mh, .slice p m pc] 96))).next ((Below.refl _ _).alloc (Nat.le_refl _) (.cells #[.int .i64 0, .int .i64 0, .slice none 0 0, .int .i64 0, .int .i64 0, .int .i64 0, .int .i64 0] 58))).next ((Below.refl _ _).alloc (Nat.le_refl _) (.cells #[] 50)))).cell hj
    exact h.1
  case qc4 => unfold maxLen; omega
  case qc5 => omega
  case qc6 => first | omega | (simp; omega)
  intro v' w1 hown hgrow hnil
  rcases hown.2 with ⟨rfl, _⟩ | ⟨G, cap, cur, rfl, hge, hh, hcap, _, hsz, hp⟩
  · exact absurd rfl hnil
  have P1 := rst_start (P := #[.int .i64 3, .int .i64 x, .int .i64 y, .int .i64 a, .int .i64 e, .int .u32 col, .int .i64 wd, .int .i64 mw, .int .i64 mh, .slice p m pc]) hgrow hge hh (n := n) (L := pix) (by rw [hsz]; omega) HL.out (fun j u hu => by
    have hj : j < n := by rw [← HL.out]; exact (List.getElem?_eq_some_iff.1 hu).1
    have h2 : (cur.toList.take (n * 1))[j]? = some (.int .u32 u) := by rw [hp, List.getElem?_map, hu]; rfl
    rw [List.getElem?_take_of_lt (by omega)] at h2
    rw [← h2]; simp)
  clear hown hgrow hnil hge hh hsz hp hcap hi
  obtain ⟨z0, z1, z3, z4, z5, z6⟩ := P1.clip
  go_wp2
  clear z0 z1 z3 z4 z5 z6
  go_loopw [6] (fun z wr => ∃ j : Nat, z = .int .i64 j ∧ j ≤ H ∧ Rst w w.heap.size (w.heap.size + 1) (w.heap.size + 1 + 1) G #[.int .i64 W, .int .i64 H, .slice (some ⟨b, 0, none⟩) n cc, .int .i64 c.x, .int .i64 c.y, .int .i64 c.w, .int .i64 c.h] #[.int .i64 3, .int .i64 x, .int .i64 y, .int .i64 a, .int .i64 e, .int .u32 col, .int .i64 wd, .int .i64 mw, .int .i64 mh, .slice p m pc] #[.int .i64 0, .int .i64 0, .slice none 0 0, .int .i64 0, .int .i64 0, .int .i64 0, .int .i64 0] n (pnt W (fun a' b' => inB c x y a e a' b' && don j 0 a' b') f pix) wr) (fun z _ => H - (intOf z).toNat)
  case atStart => exact ⟨0, rfl, Nat.zero_le _, P1.to (pnt_id fun i j => by rw [don_start, Bool.and_false]).symm⟩
  case round =>
    obtain ⟨j, rfl, hj, P2⟩ := hrel
    clear P1
    obtain ⟨z0, z1, z3, z4, z5, z6⟩ := P2.clip
    by_cases hjl : j < H
    · rename_i _ _ wo
      go_wp2
      clear z0 z1 z3 z4 z5 z6
      go_loopw [7] (fun z wr => ∃ i : Nat, z = .int .i64 i ∧ i ≤ W ∧ Rst w w.heap.size (w.heap.size + 1) (w.heap.size + 1 + 1) G #[.int .i64 W, .int .i64 H, .slice (some ⟨b, 0, none⟩) n cc, .int .i64 c.x, .int .i64 c.y, .int .i64 c.w, .int .i64 c.h] #[.int .i64 3, .int .i64 x, .int .i64 y, .int .i64 a, .int .i64 e, .int .u32 col, .int .i64 wd, .int .i64 mw, .int .i64 mh, .slice p m pc] #[.int .i64 0, .int .i64 0, .slice none 0 0, .int .i64 0, .int .i64 0, .int .i64 0, .int .i64 0] n (pnt W (fun a' b' => inB c x y a e a' b' && don j i a' b') f pix) wr) (fun z _ => W - (intOf z).toNat)
      case atStart => exact ⟨0, rfl, Nat.zero_le _, P2⟩
      case round =>
        obtain ⟨i, rfl, hi, P3⟩ := hrel
        obtain ⟨z0, z1, z3, z4, z5, z6⟩ := P3.clip
        by_cases hil : i < W
        · obtain ⟨y0, y1, y2, y3, y4, y5, y6, y7, y8, y9⟩ := P3.paint
          have l0 := P3.1.lt
          have l1 := P3.2.1.lt
          have hH1 := fun W1 => rhas_c c.x c.y c.w c.h i j W1
          have hH2 := fun W1 => rhas_c x y a e i j W1
          have hskip : inB c x y a e i j = false → pnt W (fun a' b' => inB c x y a e a' b' && don j i a' b') f pix = pnt W (fun a' b' => inB c x y a e a' b' && don j (i + 1) a' b') f pix := fun hq => by
            congr 1; funext a' b'; exact don_skip j i hq a' b'
          have HSK := Lib.hid hskip
          clear hskip
          cases h1 : hasB c.x c.y c.w c.h i j
          · rw [h1] at hH1
            have HH1 := Lib.hid hH1
            have HSK2 := Lib.hid (HSK.out (by unfold inB; rw [h1]; rfl))
            clear hH1 hH2 h1
            go_wp2_with (go_at_call 55; refine (HH1.out _).mono ?_; rintro e1 w3 ⟨rfl, hb⟩; have P4 := (P3.next ((Below.refl _ _).alloc (Nat.le_refl _) _)).next hb)
            go_roundw
            case rel => exact ⟨i + 1, by go_num, by omega, P4.to HSK2.out⟩
            case measure => simp [intOf]; omega
          · rw [h1] at hH1
            have HH1 := Lib.hid hH1
            cases h2 : hasB x y a e i j
            · rw [h2] at hH2
              have HH2 := Lib.hid hH2
              have HSK2 := Lib.hid (HSK.out (by unfold inB; rw [h2, Bool.and_false]))
              clear hH1 hH2 h1 h2
              go_wp2_with (first
                | (go_at_call 55; (with_reducible refine (HH1.out _).mono ?_); rintro e1 w3 ⟨rfl, hb⟩; have P4 := (P3.next ((Below.refl _ _).alloc (Nat.le_refl _) _)).next hb; have A4 := (Blk.new wr 32 #[.int .i64 i, .int .i64 j]).next hb; obtain ⟨⟨q0, q1⟩, _⟩ := A4.c2; clear y0 y1 y2 y3 y4 y5 y6 y7 y8 y9; obtain ⟨y0, y1, y2, y3, y4, y5, y6, y7, y8, y9⟩ := P4.paint)
                | (go_at_call 55; (with_reducible refine (HH2.out _).mono ?_); rintro e2 w4 ⟨rfl, hb2⟩; have P5 := P4.next hb2))
              go_roundw
              case rel => exact ⟨i + 1, by go_num, by omega, P5.to HSK2.out⟩
              case measure => simp [intOf]; omega
            · rw [h2] at hH2
              have HH2 := Lib.hid hH2
              have hq3 : inB c x y a e i j = true := by unfold inB; rw [h1, h2]; rfl
              have HQ3 := Lib.hid hq3
              clear hH1 hH2 h1 h2 hq3
              go_wp2_with (first
                | (go_at_call 55; (with_reducible refine (HH1.out _).mono ?_); rintro e1 w3 ⟨rfl, hb⟩; have P4 := (P3.next ((Below.refl _ _).alloc (Nat.le_refl _) _)).next hb; have A4 := (Blk.new wr 32 #[.int .i64 i, .int .i64 j]).next hb; obtain ⟨⟨q0, q1⟩, _⟩ := A4.c2; clear y0 y1 y2 y3 y4 y5 y6 y7 y8 y9; obtain ⟨y0, y1, y2, y3, y4, y5, y6, y7, y8, y9⟩ := P4.paint)
                | (go_at_call 55; (with_reducible refine (HH2.out _).mono ?_); rintro e2 w4 ⟨rfl, hb2⟩; have P5 := P4.next hb2))
              clear hb hb2 A4 q0 q1 y0 y1 y2 y3 y4 y5 y6 y7 y8 y9 z0 z1 z3 z4 z5 z6 P4 P3 P2
              obtain ⟨q, hq⟩ : ∃ q, q = j * W + i := ⟨_, rfl⟩
              obtain ⟨jw, hjw⟩ : ∃ jw, jw = j * W := ⟨_, rfl⟩
              have hqn : q < n := by rw [hq, HN.out]; exact place_lt hil hjl
              have hjw2 : (j : Int) * (W : Int) = (jw : Int) := by rw [hjw, Int.natCast_mul]
              have r1 : IntKind.i64.wrap ((j : Int) * (W : Int)) = (jw : Int) := by rw [hjw2]; exact IntWalk.i64_in _ (by omega)
              have r2 : IntKind.i64.wrap ((jw : Int) + (i : Int)) = (q : Int) := by rw [IntWalk.i64_in _ (by omega)]; omega
              have hi0 : (0 : Int) ≤ (q : Int) := by omega
              have hi1 : (q : Int) < (n : Int) := by omega
              have hi2 : (q : Int) < (cap : Int) ∨ True := .inr trivial
              obtain ⟨u, hu⟩ : ∃ u, pix[q]? = some u := ⟨_, List.getElem?_eq_getElem (by rw [HL.out]; exact hqn)⟩
              have hu0 := hcols u (List.mem_of_getElem? hu)
              have hLu : (pnt W (fun a' b' => inB c x y a e a' b' && don j i a' b') f pix)[q]? = some u := by
                rw [hq, pnt_at hil, ← hq, hu, Option.map_some, don_now, Bool.and_false, if_neg (by simp)]
              have HLU := Lib.hid hLu
              obtain ⟨d0, f0⟩ := P5.2.2.2.1.cell hLu
              have hstep : (pnt W (fun a' b' => inB c x y a e a' b' && don j i a' b') f pix).set q (f i j u) = pnt W (fun a' b' => inB c x y a e a' b' && don j (i + 1) a' b') f pix := by
                rw [hq, pnt_step hil (by rw [← hq]; exact hu)]
                congr 1; funext a' b'; exact don_step j i HQ3.out a' b'
              have HST := Lib.hid hstep
              clear hstep hq hjw hjw2 hu hLu hqn
              refine wp_region_noPanic ?_
              refine wp_region_held_drew (S := fun wx => (wx.cell? ⟨w.heap.size, 0, none⟩ = some (.int .i64 W)) ∧ (wx.cell? ⟨w.heap.size + 1, 0, none⟩ = some (.int .i64 3) ∧ wx.cell? ⟨w.heap.size + 1, 1, none⟩ = some (.int .i64 x) ∧ wx.cell? ⟨w.heap.size + 1, 2, none⟩ = some (.int .i64 y) ∧ wx.cell? ⟨w.heap.size + 1, 3, none⟩ = some (.int .i64 a) ∧ wx.cell? ⟨w.heap.size + 1, 4, none⟩ = some (.int .i64 e) ∧ wx.cell? ⟨w.heap.size + 1, 5, none⟩ = some (.int .u32 col) ∧ wx.cell? ⟨w.heap.size + 1, 6, none⟩ = some (.int .i64 wd) ∧ wx.cell? ⟨w.heap.size + 1, 7, none⟩ = some (.int .i64 mw) ∧ wx.cell? ⟨w.heap.size + 1, 8, none⟩ = some (.int .i64 mh) ∧ wx.cell? ⟨w.heap.size + 1, 9, none⟩ = some (.slice p m pc))) (by kernel_rfl) (by exact ⟨P5.drew.clip.1, P5.drew.paint⟩) (fun hHeld => ?_)
              refine wpAnyH_take (i := 0) (v := ?v0) rfl (by kernel_rfl) (by kernel_rfl) (by kernel_rfl) (fun _ _ _ h => h) (Or.inl ⟨by kernel_rfl, ?y0⟩) (by assumption) ?r0
              case y0 => (intro wq hSw; (try dsimp only at hSw); go_simp; (try with_reducible rfl))
              (try simp only [Act.put, List.getElem_toArray, List.getElem_cons_zero, List.setIfInBounds_toArray, List.set_cons_zero, List.set_cons_succ])
              refine wpAnyH_take (i := 1) (v := ?v1) rfl (by kernel_rfl) (by kernel_rfl) (by kernel_rfl) (fun _ _ _ h => h) (Or.inl ⟨by kernel_rfl, ?y1⟩) (by assumption) ?r1
              case y1 => (intro wq hSw; (try dsimp only at hSw); go_simp; (try with_reducible rfl))
              (try simp only [Act.put, List.getElem_toArray, List.getElem_cons_succ, List.getElem_cons_zero, List.setIfInBounds_toArray, List.set_cons_zero, List.set_cons_succ])
              refine wpAnyH_take (i := 2) (v := ?v2) rfl (by kernel_rfl) (by kernel_rfl) (by kernel_rfl) (fun _ _ _ h => h) (Or.inl ⟨by kernel_rfl, ?y2⟩) (by assumption) ?r2
              case y2 => (intro wq hSw; (try dsimp only at hSw); go_simp; (try with_reducible rfl))
              (try simp only [Act.put, List.getElem_toArray, List.getElem_cons_succ, List.getElem_cons_zero, List.setIfInBounds_toArray, List.set_cons_zero, List.set_cons_succ])
              refine wpAnyH_take (i := 3) (v := ?v3) rfl (by kernel_rfl) (by kernel_rfl) (by kernel_rfl) (fun _ _ _ h => h) (Or.inl ⟨by kernel_rfl, ?y3⟩) (by assumption) ?r3
              case y3 => (intro wq hSw; (try dsimp only at hSw); go_simp; (try with_reducible rfl))
              (try simp only [Act.put, List.getElem_toArray, List.getElem_cons_succ, List.getElem_cons_zero, List.setIfInBounds_toArray, List.set_cons_zero, List.set_cons_succ])
              refine wpAnyH_take (i := 4) (v := ?v4) rfl (by kernel_rfl) (by kernel_rfl) (by kernel_rfl) (fun _ _ _ h => h) (Or.inl ⟨by kernel_rfl, ?y4⟩) (by assumption) ?r4
              case y4 => (intro wq hSw; (try dsimp only at hSw); go_simp; (try with_reducible rfl))
              (try simp only [Act.put, List.getElem_toArray, List.getElem_cons_succ, List.getElem_cons_zero, List.setIfInBounds_toArray, List.set_cons_zero, List.set_cons_succ])
              refine wpAnyH_take (i := 5) (v := ?v5) rfl (by kernel_rfl) (by kernel_rfl) (by kernel_rfl) (fun _ _ _ h => h) (Or.inl ⟨by kernel_rfl, ?y5⟩) (by assumption) ?r5
              case y5 => (intro wq hSw; (try dsimp only at hSw); go_simp; (try with_reducible rfl))
              (try simp only [Act.put, List.getElem_toArray, List.getElem_cons_succ, List.getElem_cons_zero, List.setIfInBounds_toArray, List.set_cons_zero, List.set_cons_succ])
              refine wpAnyH_take (i := 6) (v := ?v6) rfl (by kernel_rfl) (by kernel_rfl) (by kernel_rfl) (fun _ _ _ h => h) (Or.inl ⟨by kernel_rfl, ?y6⟩) (by assumption) ?r6
              case y6 => (intro wq hSw; (try dsimp only at hSw); go_simp; (try with_reducible rfl))
              (try simp only [Act.put, List.getElem_toArray, List.getElem_cons_succ, List.getElem_cons_zero, List.setIfInBounds_toArray, List.set_cons_zero, List.set_cons_succ])
              refine wpAnyH_take (i := 7) (v := ?v7) rfl (by kernel_rfl) (by kernel_rfl) (by kernel_rfl) (fun _ _ _ h => h) (Or.inl ⟨by kernel_rfl, ?y7⟩) (by assumption) ?r7
              case y7 => (intro wq hSw; (try dsimp only at hSw); go_simp; (try with_reducible rfl))
              (try simp only [Act.put, List.getElem_toArray, List.getElem_cons_succ, List.getElem_cons_zero, List.setIfInBounds_toArray, List.set_cons_zero, List.set_cons_succ])
              refine wpAnyH_take (i := 8) (v := ?v8) rfl (by kernel_rfl) (by kernel_rfl) (by kernel_rfl) (fun _ _ _ h => h) (Or.inl ⟨by kernel_rfl, ?y8⟩) (by assumption) ?r8
              case y8 => (intro wq hSw; (try dsimp only at hSw); go_simp; (try with_reducible rfl))
              (try simp only [Act.put, List.getElem_toArray, List.getElem_cons_succ, List.getElem_cons_zero, List.setIfInBounds_toArray, List.set_cons_zero, List.set_cons_succ])
              refine wpAnyH_take (i := 9) (v := ?v9) rfl (by kernel_rfl) (by kernel_rfl) (by kernel_rfl) (fun _ _ _ h => h) (Or.inl ⟨by kernel_rfl, ?y9⟩) (by assumption) ?r9
              case y9 => (intro wq hSw; (try dsimp only at hSw); go_simp; (try with_reducible rfl))
              (try simp only [Act.put, List.getElem_toArray, List.getElem_cons_succ, List.getElem_cons_zero, List.setIfInBounds_toArray, List.set_cons_zero, List.set_cons_succ])
              refine wpAnyH_take (i := 10) (v := ?v10) rfl (by kernel_rfl) (by kernel_rfl) (by kernel_rfl) (fun _ _ _ h => h) (Or.inl ⟨by kernel_rfl, ?y10⟩) (by assumption) ?r10
              case y10 => (intro wq hSw; (try dsimp only at hSw); go_simp; (try with_reducible rfl))
              (try simp only [Act.put, List.getElem_toArray, List.getElem_cons_succ, List.getElem_cons_zero, List.setIfInBounds_toArray, List.set_cons_zero, List.set_cons_succ])
              refine wpAnyH_take (i := 11) (v := ?v11) rfl (by kernel_rfl) (by kernel_rfl) (by kernel_rfl) (fun _ _ _ h => h) (Or.inl ⟨by kernel_rfl, ?y11⟩) (by assumption) ?r11
              case y11 => (intro wq hSw; (try dsimp only at hSw); go_simp; (try with_reducible rfl))
              (try simp only [Act.put, List.getElem_toArray, List.getElem_cons_succ, List.getElem_cons_zero, List.setIfInBounds_toArray, List.set_cons_zero, List.set_cons_succ])
              refine wpAnyH_take (i := 12) (v := ?v12) rfl (by kernel_rfl) (by kernel_rfl) (by kernel_rfl) (fun _ _ _ h => h) (Or.inl ⟨by kernel_rfl, ?y12⟩) (by assumption) ?r12
              case y12 => (intro wq hSw; (try dsimp only at hSw); go_simp; (try with_reducible rfl))
              (try simp only [Act.put, List.getElem_toArray, List.getElem_cons_succ, List.getElem_cons_zero, List.setIfInBounds_toArray, List.set_cons_zero, List.set_cons_succ])
              refine wpAnyH_take (i := 13) (v := ?v13) rfl (by kernel_rfl) (by kernel_rfl) (by kernel_rfl) (fun _ _ _ h => h) (Or.inl ⟨by kernel_rfl, ?y13⟩) (by assumption) ?r13
              case y13 => (intro wq hSw; (try dsimp only at hSw); go_simp; (try with_reducible rfl))
              (try simp only [Act.put, List.getElem_toArray, List.getElem_cons_succ, List.getElem_cons_zero, List.setIfInBounds_toArray, List.set_cons_zero, List.set_cons_succ])
              refine wpAnyH_take (i := 14) (v := ?v14) rfl (by kernel_rfl) (by kernel_rfl) (by kernel_rfl) (fun _ _ _ h => h) (Or.inl ⟨by kernel_rfl, ?y14⟩) (by assumption) ?r14
              case y14 => (intro wq hSw; (try dsimp only at hSw); go_simp; (try with_reducible rfl))
              (try simp only [Act.put, List.getElem_toArray, List.getElem_cons_succ, List.getElem_cons_zero, List.setIfInBounds_toArray, List.set_cons_zero, List.set_cons_succ])
              refine wpAnyH_take (i := 15) (v := ?v15) rfl (by kernel_rfl) (by kernel_rfl) (by kernel_rfl) (fun _ _ _ h => h) (Or.inl ⟨by kernel_rfl, ?y15⟩) (by assumption) ?r15
              case y15 => (intro wq hSw; (try dsimp only at hSw); go_simp; (try with_reducible rfl))
              (try simp only [Act.put, List.getElem_toArray, List.getElem_cons_succ, List.getElem_cons_zero, List.setIfInBounds_toArray, List.set_cons_zero, List.set_cons_succ])
              refine wpAnyH_take (i := 16) (v := ?v16) rfl (by kernel_rfl) (by kernel_rfl) (by kernel_rfl) (fun _ _ _ h => h) (Or.inl ⟨by kernel_rfl, ?y16⟩) (by assumption) ?r16
              case y16 => (intro wq hSw; (try dsimp only at hSw); go_simp; (try with_reducible rfl))
              (try simp only [Act.put, List.getElem_toArray, List.getElem_cons_succ, List.getElem_cons_zero, List.setIfInBounds_toArray, List.set_cons_zero, List.set_cons_succ])
              refine wpAnyH_take (i := 17) (v := ?v17) rfl (by kernel_rfl) (by kernel_rfl) (by kernel_rfl) (fun _ _ _ h => h) (Or.inl ⟨by kernel_rfl, ?y17⟩) (by assumption) ?r17
              case y17 => (intro wq hSw; (try dsimp only at hSw); go_simp; (try with_reducible rfl))
              (try simp only [Act.put, List.getElem_toArray, List.getElem_cons_succ, List.getElem_cons_zero, List.setIfInBounds_toArray, List.set_cons_zero, List.set_cons_succ])
              refine wpAnyH_take (i := 18) (v := ?v18) rfl (by kernel_rfl) (by kernel_rfl) (by kernel_rfl) (fun _ _ _ h => h) (Or.inl ⟨by kernel_rfl, ?y18⟩) (by assumption) ?r18
              case y18 => (intro wq hSw; (try dsimp only at hSw); go_simp; (try with_reducible rfl))
              (try simp only [Act.put, List.getElem_toArray, List.getElem_cons_succ, List.getElem_cons_zero, List.setIfInBounds_toArray, List.set_cons_zero, List.set_cons_succ])
              refine wpAnyH_take (i := 19) (v := ?v19) rfl (by kernel_rfl) (by kernel_rfl) (by kernel_rfl) (fun _ _ _ h => h) (Or.inl ⟨by kernel_rfl, ?y19⟩) (by assumption) ?r19
              case y19 => (intro wq hSw; (try dsimp only at hSw); go_simp; (try with_reducible rfl))
              (try simp only [Act.put, List.getElem_toArray, List.getElem_cons_succ, List.getElem_cons_zero, List.setIfInBounds_toArray, List.set_cons_zero, List.set_cons_succ])
              refine wpAnyH_ready (rs := [20]) (by kernel_rfl) (by simp) ?_
              refine AllReadyH.cons rfl (fun K hK => ?_) AllReadyH.nil
              go_simp
              refine hK.out _ _ (by exact ⟨P5.drew.clip.1, P5.drew.paint⟩) (fun hHeld => ?_)
              clear hK K
              (try simp only [Act.put, List.getElem_toArray, List.getElem_cons_succ, List.getElem_cons_zero, List.setIfInBounds_toArray, List.set_cons_zero, List.set_cons_succ])
              refine wpAnyH_ready (rs := [21]) (by kernel_rfl) (by simp) ?_
              refine AllReadyH.cons rfl (fun K hK => ?_) AllReadyH.nil
              go_simp
              refine (HCOL.out w4.drew i j u P5.drew.2.2.2.2.1 hu0 hil hjl HQ3.out).mono ?_
              rintro e3 w6 ⟨rfl, hb⟩; have P7 := P5.drew.next hb; clear hb; obtain ⟨d0, f0⟩ := P7.2.2.2.1.cell HLU.out
              (try dsimp only)
              refine hK.out _ _ (by exact ⟨P7.clip.1, P7.paint⟩) (fun hHeld => ?_)
              clear hK K
              (try simp only [Act.put, List.getElem_toArray, List.getElem_cons_succ, List.getElem_cons_zero, List.setIfInBounds_toArray, List.set_cons_zero, List.set_cons_succ])
              refine wpAnyH_take (i := 22) (v := ?v22) rfl (by kernel_rfl) (by kernel_rfl) (by kernel_rfl) (fun _ _ _ h => h) (Or.inl ⟨by kernel_rfl, ?y22⟩) (by assumption) ?r22
              case y22 => (intro wq hSw; (try dsimp only at hSw); go_simp; (try with_reducible rfl))
              (try simp only [Act.put, List.getElem_toArray, List.getElem_cons_succ, List.getElem_cons_zero, List.setIfInBounds_toArray, List.set_cons_zero, List.set_cons_succ])
              refine wpAnyH_ready (rs := [23]) (by kernel_rfl) (by simp) ?_
              refine AllReadyH.cons rfl (fun K hK => ?_) AllReadyH.nil
              go_simp
              refine hK.out _ _ (by exact ⟨(P7.set q _).clip.1, (P7.set q _).paint⟩) (fun hHeld => ?_)
              clear hK K
              (try simp only [Act.put, List.getElem_toArray, List.getElem_cons_succ, List.getElem_cons_zero, List.setIfInBounds_toArray, List.set_cons_zero, List.set_cons_succ])
              refine wpAnyH_done (by kernel_rfl) ?_ _
              refine NoPanic.normal ?_
              have P8 := (P7.set q (f i j u)).to HST.out
              clear hHeld d0 f0 P7 P5
              go_wp2
              go_roundw
              case rel => exact ⟨i + 1, by go_num, by omega, P8⟩
              case measure => simp [intOf]; omega
        · have hiW : i = W := by omega
          have HE := Lib.hid (show pnt W (fun a' b' => inB c x y a e a' b' && don j i a' b') f pix = pnt W (fun a' b' => inB c x y a e a' b' && don (j + 1) 0 a' b') f pix by
            rw [hiW]
            exact pnt_congr (H := H) (by rw [HL.out, HN.out]) fun a' b' ha _ u => by rw [don_row j a' b' ha])
          clear hiW
          go_wp2
          go_roundw
          case rel => exact ⟨j + 1, by go_num, by omega, P3.to HE.out⟩
          case measure => simp [intOf]; omega
    · obtain ⟨⟨k0, k1, k2', k3', k4', k5', k6'⟩, g0, g1, g2, g3, g4, g5, g6⟩ := P2.2.2.1.c7
      have hjH : j = H := by omega
      have HE := Lib.hid (show pnt W (fun a' b' => inB c x y a e a' b' && don j 0 a' b') f pix = pnt W (inB c x y a e) f pix by
        rw [hjH]
        exact pnt_congr (H := H) (by rw [HL.out, HN.out]) fun a' b' _ hb _ => by rw [don_end a' b' hb, Bool.and_true])
      have hge : w.heap.size ≤ G := P2.2.2.2.2.2
      have P3 := P2.to HE.out
      have HP3 := Lib.hid P3
      clear hjH P3
      go_wp2
      refine bodyPost_ret (v := .agg #[.int .i64 W, .int .i64 H, .slice (some ⟨G, 0, none⟩) n cap, .int .i64 c.x, .int .i64 c.y, .int .i64 c.w, .int .i64 c.h]) (by simp [results, Try.results69, go_sem, *]) rfl ?_
      have P3 := HP3.out
      have hne : G ≠ w.heap.size + 1 + 1 := fun e => P3.2.2.2.1.ne_ P3.2.2.1 (by decide) e.symm
      refine ⟨G, cap, rfl, ?_, P3.2.2.2.2.2, ?_⟩
      · exact (((((((P3.2.2.2.1.far (p := ⟨w.heap.size + 1 + 1, 0, none⟩) hne _).far (p := ⟨w.heap.size + 1 + 1, 1, none⟩) hne _).far (p := ⟨w.heap.size + 1 + 1, 2, none⟩) hne _).far (p := ⟨w.heap.size + 1 + 1, 3, none⟩) hne _).far (p := ⟨w.heap.size + 1 + 1, 4, none⟩) hne _).far (p := ⟨w.heap.size + 1 + 1, 5, none⟩) hne _).far (p := ⟨w.heap.size + 1 + 1, 6, none⟩) hne _)
      · have hB := P3.2.2.2.2.1
        repeat' (first | (with_reducible exact Below.refl _ _) | (with_reducible assumption) | (with_reducible refine Below.alloc ?_ ?_ _) | (with_reducible refine Below.drew ?_) | (with_reducible refine Below.setCell ?_ ?_ _) | (with_reducible refine Below.on (by with_reducible assumption) ?_ ?_) | go_size)
end Go.Proofs.Ytedhgdjlcddchaa
