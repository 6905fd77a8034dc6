/- Are two containers the same: the document's Same. -/
import Derived.Test.YtjeabkcbaielhaaCoC
namespace Go.Proofs.Ytjeabkcbaielhaa.Co
open Go.RowKit
mutual
def sameB : Con → Con → Bool
  | .mk a ks, y => (a.k == y.a.k && a.w == y.a.w && a.c == y.a.c && a.s == y.a.s && ks.length == y.ks.length) && sameL ks y.ks
def sameL : List Con → List Con → Bool
  | [], _ => true
  | x :: r, l => match l with
    | [] => false
    | y :: s => sameB x y && sameL r s
end
theorem D.ext_ {a b : D} (h1 : a.k = b.k) (h2 : a.w = b.w) (h3 : a.c = b.c) (h4 : a.s = b.s) : a = b := by cases a; cases b; simp_all
theorem sameL_iff (ks : List Con) (h : ∀ x ∈ ks, ∀ y, sameB x y = true ↔ x = y) : ∀ l : List Con, (ks.length = l.length ∧ sameL ks l = true) ↔ ks = l := by
  induction ks with
  | nil => intro l; cases l <;> simp [sameL]
  | cons x r ih =>
    intro l
    cases l with
    | nil => simp
    | cons y s =>
      have := ih (fun z hz => h z (by simp [hz])) s
      simp only [sameL, Bool.and_eq_true, List.length_cons, List.cons.injEq, h x (by simp) y]
      rw [← this, Nat.add_right_cancel_iff]; exact ⟨fun ⟨h1, h2, h3⟩ => ⟨h2, h1, h3⟩, fun ⟨h1, h2, h3⟩ => ⟨h2, h1, h3⟩⟩
theorem sameB_iff : ∀ x y : Con, sameB x y = true ↔ x = y := by
  intro x
  induction x using Tr.ind with
  | h a ks ih =>
    intro y
    obtain ⟨b, ls⟩ := y
    have := sameL_iff ks ih ls
    simp only [sameB, Bool.and_eq_true, beq_iff_eq, Tr.a_mk, Tr.ks_mk, Tr.mk.injEq]
    constructor
    · rintro ⟨⟨⟨⟨⟨h1, h2⟩, h3⟩, h4⟩, h5⟩, h6⟩; exact ⟨D.ext_ h1 h2 h3 h4, this.1 ⟨h5, h6⟩⟩
    · rintro ⟨rfl, h⟩; have := this.2 h; exact ⟨⟨⟨⟨⟨rfl, rfl⟩, rfl⟩, rfl⟩, this.1⟩, this.2⟩
theorem sameB_refl (x : Con) : sameB x x = true := (sameB_iff x x).2 rfl
theorem sameL_step {ks ls : List Con} {i : Nat} {x y : Con} (hx : ks[i]? = some x) (hy : ls[i]? = some y) (h : sameB x y = false) : sameL ks ls = false := by
  induction ks generalizing ls i with
  | nil => simp at hx
  | cons a r ih =>
    cases ls with
    | nil => simp at hy
    | cons b s =>
      simp only [sameL]
      cases i with
      | zero => simp at hx hy; subst hx hy; simp [h]
      | succ i => simp at hx hy; rw [ih hx hy]; simp
theorem sameL_all {ks ls : List Con} (hl : ks.length = ls.length) (h : ∀ (i : Nat) (x y : Con), ks[i]? = some x → ls[i]? = some y → sameB x y = true) : sameL ks ls = true := by
  induction ks generalizing ls with
  | nil => rfl
  | cons a r ih =>
    cases ls with
    | nil => simp at hl
    | cons b s =>
      simp only [sameL, Bool.and_eq_true]
      exact ⟨h 0 a b rfl rfl, ih (by simpa using hl) fun i x y hx hy => h (i + 1) x y (by simpa using hx) (by simpa using hy)⟩
/-- The same, so far. -/
def Sofar (ks ls : List Con) (k : Nat) : Prop := ∀ (i : Nat) (x y : Con), i < k → ks[i]? = some x → ls[i]? = some y → sameB x y = true
theorem same_c (Z Z' : Nat → Prop) : ∀ (x y : Con) (sv sw : Value) (w : World), KV w Z x.ks sv → KV w Z' y.ks sw →
    Calls Try.prog 21 #[conV x.a sv, conV y.a sw] w fun e w' => e = .returned (.bool (sameB x y)) ∧ Below w.heap.size w w' := by
  intro x
  induction x using Tr.ind with
  | h a ks ih =>
    rintro ⟨b, ls⟩ sv sw w hK hL
    obtain ⟨p, cap, rfl, hl⟩ : ∃ p cap, sv = .slice p ks.length cap ∧ ks.length ≤ 1152921504606846976 := hK.slice
    obtain ⟨p', cap', rfl, hl'⟩ : ∃ p cap, sw = .slice p ls.length cap ∧ ls.length ≤ 1152921504606846976 := hL.slice
    have hK : KV w Z ks (.slice p ks.length cap) := hK
    have hL : KV w Z' ls (.slice p' ls.length cap') := hL
    show Calls Try.prog 21 #[.agg #[.int .i64 a.k, .int .i64 a.w, .int .i64 a.c, .int .i64 a.s, .slice p ks.length cap], .agg #[.int .i64 b.k, .int .i64 b.w, .int .i64 b.c, .int .i64 b.s, .slice p' ls.length cap']] w fun e w' => e = .returned (.bool (sameB (.mk a ks) (.mk b ls))) ∧ Below w.heap.size w w'
    have hB := ((Below.refl w.heap.size w).alloc (Nat.le_refl _) (.cells #[.int .i64 a.k, .int .i64 a.w, .int .i64 a.c, .int .i64 a.s, .slice p ks.length cap] 24)).alloc (by simp) (.cells #[.int .i64 b.k, .int .i64 b.w, .int .i64 b.c, .int .i64 b.s, .slice p' ls.length cap'] 24)
    by_cases hd : a.k = b.k ∧ a.w = b.w ∧ a.c = b.c ∧ a.s = b.s ∧ ks.length = ls.length
    · obtain ⟨h1, h2, h3, h4, h5⟩ := hd
      obtain rfl : a = b := D.ext_ h1 h2 h3 h4
      clear h1 h2 h3 h4 hl'
      rw [← h5] at hL hB ⊢
      have he : sameB (.mk a ks) (.mk a ls) = sameL ks ls := by simp [sameB, h5]
      rw [he]
      obtain ⟨m, hm⟩ : ∃ m, m = ks.length := ⟨_, rfl⟩
      rw [← hm] at hl hK hL hB h5 ⊢
      have HM := Lib.hid hm
      have H5 := Lib.hid h5
      have HK := Lib.hid hK
      have HL := Lib.hid hL
      have IH := Lib.hid ih
      clear hm hK hL ih he h5
      have hQ : Blk (w.alloc (.cells #[.int .i64 a.k, .int .i64 a.w, .int .i64 a.c, .int .i64 a.s, .slice p m cap] 24)) w.heap.size 24 #[.int .i64 a.k, .int .i64 a.w, .int .i64 a.c, .int .i64 a.s, .slice p m cap] := Blk.new w _ _
      have hR := Blk.new (w.alloc (.cells #[.int .i64 a.k, .int .i64 a.w, .int .i64 a.c, .int .i64 a.s, .slice p m cap] 24)) 24 #[.int .i64 a.k, .int .i64 a.w, .int .i64 a.c, .int .i64 a.s, .slice p' m cap']
      have hQ := hQ.alloc (.cells #[.int .i64 a.k, .int .i64 a.w, .int .i64 a.c, .int .i64 a.s, .slice p' m cap'] 24)
      rw [World.size_alloc] at hR
      go_enter Try.func21, Try.ntmps21
      go_wp2_with fail
      go_loopw [5] (fun z wr => ∃ k : Nat, k ≤ m ∧ z = .int .i64 k ∧ Below w.heap.size w wr ∧ Blk wr w.heap.size 24 #[.int .i64 a.k, .int .i64 a.w, .int .i64 a.c, .int .i64 a.s, .slice p m cap] ∧ Blk wr (w.heap.size + 1) 24 #[.int .i64 a.k, .int .i64 a.w, .int .i64 a.c, .int .i64 a.s, .slice p' m cap'] ∧ Asd (Sofar ks ls k)) (fun z _ => m - (intOf z).toNat)
      case atStart => exact ⟨0, Nat.zero_le _, rfl, hB, hQ, hR, fun i x y hi => absurd hi (Nat.not_lt_zero i)⟩
      case round =>
        obtain ⟨k, hk, rfl, hW, hq, hr, hs0⟩ := hrel
        have hs := Lib.hid (show Sofar ks ls k from hs0)
        clear hs0
        obtain ⟨q4, qf⟩ : wr.cell? ⟨w.heap.size, 4, none⟩ = some (.slice p m cap) ∧ wr.frozen? ⟨w.heap.size, 4, none⟩ = false := ⟨hq.at_ (i := 4) rfl, hq.frozen 4⟩
        obtain ⟨r4, rf⟩ : wr.cell? ⟨w.heap.size + 1, 4, none⟩ = some (.slice p' m cap') ∧ wr.frozen? ⟨w.heap.size + 1, 4, none⟩ = false := ⟨hr.at_ (i := 4) rfl, hr.frozen 4⟩
        by_cases hlt : k < m
        · obtain ⟨x, hx⟩ : ∃ x, ks[k]? = some x := ⟨_, List.getElem?_eq_getElem (by rw [← HM.out]; exact hlt)⟩
          obtain ⟨y, hy⟩ : ∃ x, ls[k]? = some x := ⟨_, List.getElem?_eq_getElem (by rw [← H5.out]; exact hlt)⟩
          have hK1 := HK.out.same (Z' := Z) (w' := wr) (fun _ h => h) hW.size fun b _ hl => hW.block b hl
          have hL1 := HL.out.same (Z' := Z') (w' := wr) (fun _ h => h) hW.size fun b _ hl => hW.block b hl
          obtain ⟨-, b, o, s', rfl, -, hb1, -, hk1, c0, c1, c2, c3, c4⟩ := hK1.kid hx
          obtain ⟨-, b', o', t', rfl, -, hb1', -, hl1, d0, d1, d2, d3, d4⟩ := hL1.kid hy
          have HI := Lib.hid (fun (W : World) (hB : Below wr.heap.size wr W) => IH.out x (List.mem_of_getElem? hx) y s' t' W (hk1.next hB) (hl1.next hB))
          have HX := Lib.hid hx
          have HY := Lib.hid hy
          clear hK1 hk1 hx hL1 hl1 hy
          obtain ⟨xa, xk⟩ := x
          obtain ⟨ya, yk⟩ := y
          have hbq := hq.lt
          have hbr := hr.lt
          go_upto_region 6 with fail
          obtain ⟨sb, hsb⟩ : ∃ sb, sb = sameB (.mk xa xk) (.mk ya yk) := ⟨_, rfl⟩
          rw [← hsb] at HI
          have HSB := Lib.hid hsb
          clear hsb
          refine wp_region_noPanic ?_
          refine wp_region_held_drew (S := fun wx => (wx.cell? ⟨w.heap.size, 4, none⟩ = some (.slice (some ⟨b, o, none⟩) m cap) ∧ wx.cell? ⟨w.heap.size + 1, 4, none⟩ = some (.slice (some ⟨b', o', none⟩) m cap')) ∧ (wx.cell? ⟨b, o + k * 5, none⟩ = some (.int .i64 xa.k) ∧ wx.cell? ⟨b, o + k * 5 + 1, none⟩ = some (.int .i64 xa.w) ∧ wx.cell? ⟨b, o + k * 5 + 2, none⟩ = some (.int .i64 xa.c) ∧ wx.cell? ⟨b, o + k * 5 + 3, none⟩ = some (.int .i64 xa.s) ∧ wx.cell? ⟨b, o + k * 5 + 4, none⟩ = some (s')) ∧ (wx.cell? ⟨b', o' + k * 5, none⟩ = some (.int .i64 ya.k) ∧ wx.cell? ⟨b', o' + k * 5 + 1, none⟩ = some (.int .i64 ya.w) ∧ wx.cell? ⟨b', o' + k * 5 + 2, none⟩ = some (.int .i64 ya.c) ∧ wx.cell? ⟨b', o' + k * 5 + 3, none⟩ = some (.int .i64 ya.s) ∧ wx.cell? ⟨b', o' + k * 5 + 4, none⟩ = some (t'))) (by kernel_rfl) (by exact ⟨⟨q4, r4⟩, ⟨c0, c1, c2, c3, c4⟩, ⟨d0, d1, d2, d3, d4⟩⟩) (fun hHeld => ?_)
          refine wpAnyH_take (i := 0) (v := ?v0) rfl (by kernel_rfl) (by kernel_rfl) (by kernel_rfl) (fun _ _ _ h => h) (Or.inl ⟨by kernel_rfl, ?y0⟩) (by assumption) ?r0
          case y0 => (intro wq hSw; (try dsimp only at hSw); go_simp; (try with_reducible rfl))
          (try simp only [Act.put, List.getElem_toArray, List.getElem_cons_zero, List.setIfInBounds_toArray, List.set_cons_zero, List.set_cons_succ])
          refine wpAnyH_take (i := 1) (v := ?v1) rfl (by kernel_rfl) (by kernel_rfl) (by kernel_rfl) (fun _ _ _ h => h) (Or.inl ⟨by kernel_rfl, ?y1⟩) (by assumption) ?r1
          case y1 => (intro wq hSw; (try dsimp only at hSw); go_simp; (try with_reducible rfl))
          (try simp only [Act.put, List.getElem_toArray, List.getElem_cons_succ, List.getElem_cons_zero, List.setIfInBounds_toArray, List.set_cons_zero, List.set_cons_succ])
          refine wpAnyH_take (i := 2) (v := ?v2) rfl (by kernel_rfl) (by kernel_rfl) (by kernel_rfl) (fun _ _ _ h => h) (Or.inl ⟨by kernel_rfl, ?y2⟩) (by assumption) ?r2
          case y2 => (intro wq hSw; (try dsimp only at hSw); go_simp; (try with_reducible rfl))
          (try simp only [Act.put, List.getElem_toArray, List.getElem_cons_succ, List.getElem_cons_zero, List.setIfInBounds_toArray, List.set_cons_zero, List.set_cons_succ])
          refine wpAnyH_take (i := 3) (v := ?v3) rfl (by kernel_rfl) (by kernel_rfl) (by kernel_rfl) (fun _ _ _ h => h) (Or.inl ⟨by kernel_rfl, ?y3⟩) (by assumption) ?r3
          case y3 => (intro wq hSw; (try dsimp only at hSw); go_simp; (try with_reducible rfl))
          (try simp only [Act.put, List.getElem_toArray, List.getElem_cons_succ, List.getElem_cons_zero, List.setIfInBounds_toArray, List.set_cons_zero, List.set_cons_succ])
          refine wpAnyH_take (i := 4) (v := ?v4) rfl (by kernel_rfl) (by kernel_rfl) (by kernel_rfl) (fun _ _ _ h => h) (Or.inl ⟨by kernel_rfl, ?y4⟩) (by assumption) ?r4
          case y4 => (intro wq hSw; (try dsimp only at hSw); go_simp; (try with_reducible rfl))
          (try simp only [Act.put, List.getElem_toArray, List.getElem_cons_succ, List.getElem_cons_zero, List.setIfInBounds_toArray, List.set_cons_zero, List.set_cons_succ])
          refine wpAnyH_take (i := 5) (v := ?v5) rfl (by kernel_rfl) (by kernel_rfl) (by kernel_rfl) (fun _ _ _ h => h) (Or.inl ⟨by kernel_rfl, ?y5⟩) (by assumption) ?r5
          case y5 => (intro wq hSw; (try dsimp only at hSw); go_simp; (try with_reducible rfl))
          (try simp only [Act.put, List.getElem_toArray, List.getElem_cons_succ, List.getElem_cons_zero, List.setIfInBounds_toArray, List.set_cons_zero, List.set_cons_succ])
          refine wpAnyH_take (i := 6) (v := ?v6) rfl (by kernel_rfl) (by kernel_rfl) (by kernel_rfl) (fun _ _ _ h => h) (Or.inl ⟨by kernel_rfl, ?y6⟩) (by assumption) ?r6
          case y6 => (intro wq hSw; (try dsimp only at hSw); go_simp; (try with_reducible rfl))
          (try simp only [Act.put, List.getElem_toArray, List.getElem_cons_succ, List.getElem_cons_zero, List.setIfInBounds_toArray, List.set_cons_zero, List.set_cons_succ])
          refine wpAnyH_take (i := 7) (v := ?v7) rfl (by kernel_rfl) (by kernel_rfl) (by kernel_rfl) (fun _ _ _ h => h) (Or.inl ⟨by kernel_rfl, ?y7⟩) (by assumption) ?r7
          case y7 => (intro wq hSw; (try dsimp only at hSw); go_simp; (try with_reducible rfl))
          (try simp only [Act.put, List.getElem_toArray, List.getElem_cons_succ, List.getElem_cons_zero, List.setIfInBounds_toArray, List.set_cons_zero, List.set_cons_succ])
          refine wpAnyH_take (i := 8) (v := ?v8) rfl (by kernel_rfl) (by kernel_rfl) (by kernel_rfl) (fun _ _ _ h => h) (Or.inl ⟨by kernel_rfl, ?y8⟩) (by assumption) ?r8
          case y8 => (intro wq hSw; (try dsimp only at hSw); go_simp; (try with_reducible rfl))
          (try simp only [Act.put, List.getElem_toArray, List.getElem_cons_succ, List.getElem_cons_zero, List.setIfInBounds_toArray, List.set_cons_zero, List.set_cons_succ])
          refine wpAnyH_take (i := 9) (v := ?v9) rfl (by kernel_rfl) (by kernel_rfl) (by kernel_rfl) (fun _ _ _ h => h) (Or.inl ⟨by kernel_rfl, ?y9⟩) (by assumption) ?r9
          case y9 => (intro wq hSw; (try dsimp only at hSw); go_simp; (try with_reducible rfl))
          (try simp only [Act.put, List.getElem_toArray, List.getElem_cons_succ, List.getElem_cons_zero, List.setIfInBounds_toArray, List.set_cons_zero, List.set_cons_succ])
          refine wpAnyH_ready (rs := [10]) (by kernel_rfl) (by simp) ?_
          refine AllReadyH.cons rfl (fun K hK => ?_) AllReadyH.nil
          go_simp
          refine (HI.out _ (Below.refl _ _).drew).mono ?_
          rintro ex w4 ⟨rfl, hb4⟩; have S1 := And.intro (And.intro ((hb4.cell (p := ⟨w.heap.size, 4, none⟩) hbq).trans q4) ((hb4.cell (p := ⟨w.heap.size + 1, 4, none⟩) hbr).trans r4)) (And.intro (cells5 hb4 hb1 ⟨c0, c1, c2, c3, c4⟩) (cells5 hb4 hb1' ⟨d0, d1, d2, d3, d4⟩)); have HB4 := Lib.hid hb4; clear hb4
          (try dsimp only)
          refine hK.out _ _ (by exact S1) (fun hHeld => ?_)
          clear hK K
          (try simp only [Act.put, List.getElem_toArray, List.getElem_cons_succ, List.getElem_cons_zero, List.setIfInBounds_toArray, List.set_cons_zero, List.set_cons_succ])
          refine wpAnyH_take (i := 11) (v := ?v11) rfl (by kernel_rfl) (by kernel_rfl) (by kernel_rfl) (fun _ _ _ h => h) (Or.inl ⟨by kernel_rfl, ?y11⟩) (by assumption) ?r11
          case y11 => (intro wq hSw; (try dsimp only at hSw); go_simp; (try with_reducible rfl))
          (try simp only [Act.put, List.getElem_toArray, List.getElem_cons_succ, List.getElem_cons_zero, List.setIfInBounds_toArray, List.set_cons_zero, List.set_cons_succ])
          refine wpAnyH_done (by kernel_rfl) ?_ _
          refine NoPanic.normal ?_
          have hBq := hW.trans ((Below.refl wr.heap.size wr).drew.trans HB4.out |>.mono hW.size)
          have hq4 := (hq.drew).next HB4.out
          have hr4 := (hr.drew).next HB4.out
          clear hW hq hr hbq hbr hb1 hb1' c0 c1 c2 c3 c4 d0 d1 d2 d3 d4 q4 qf r4 rf S1 HB4 HI
          cases sb
          · have HE := Lib.hid (sameL_step HX.out HY.out HSB.out.symm)
            go_wp2_with fail
            go_ret
            exact ⟨ret_bool HE.out.symm, hBq⟩
          · have HE := Lib.hid (show Sofar ks ls (k + 1) from fun i x y hi hx hy => by
              rcases Nat.lt_or_ge i k with h | h
              · exact hs.out i x y h hx hy
              · obtain rfl : i = k := by omega
                rw [HX.out] at hx; rw [HY.out] at hy; injection hx with hx; injection hy with hy; subst hx hy; exact HSB.out.symm)
            go_wp2_with fail
            go_roundw
            case rel => exact ⟨k + 1, by omega, by go_num, hBq, hq4, hr4, HE.out⟩
            case measure => simp [intOf]; omega
        · have HE := Lib.hid (sameL_all (by rw [← HM.out, H5.out]) fun i x y hx hy => hs.out i x y (by have := (List.getElem?_eq_some_iff.1 hx).1; have := HM.out; omega) hx hy)
          go_wp2_with fail
          go_ret
          exact ⟨ret_bool HE.out.symm, hW⟩
    · have he : sameB (.mk a ks) (.mk b ls) = false := by
        rw [Bool.eq_false_iff]; intro h
        have := (sameB_iff _ _).1 h
        injection this with h1 h2
        subst h1 h2
        exact hd ⟨rfl, rfl, rfl, rfl, rfl⟩
      rw [he]
      clear he hK hL ih
      by_cases h1 : a.k = b.k
      · by_cases h2 : a.w = b.w
        · by_cases h3 : a.c = b.c
          · by_cases h4 : a.s = b.s
            · have h5 : ¬ ((ks.length : Int) = ls.length) := fun h => hd ⟨h1, h2, h3, h4, by omega⟩
              clear hd
              obtain ⟨ak, aw, ac, az⟩ := a
              obtain ⟨bk, bw, bc, bz⟩ := b
              simp only at h1 h2 h3 h4 hB ⊢
              subst h1 h2 h3 h4
              go_enter Try.func21, Try.ntmps21
              go_wp2_with fail
              go_ret
              exact ⟨rfl, hB⟩
            · clear hd
              obtain ⟨ak, aw, ac, az⟩ := a
              obtain ⟨bk, bw, bc, bz⟩ := b
              simp only at h1 h2 h3 h4 hB ⊢
              subst h1 h2 h3
              go_enter Try.func21, Try.ntmps21
              go_wp2_with fail
              go_ret
              exact ⟨rfl, hB⟩
          · clear hd
            obtain ⟨ak, aw, ac, az⟩ := a
            obtain ⟨bk, bw, bc, bz⟩ := b
            simp only at h1 h2 h3 hB ⊢
            subst h1 h2
            go_enter Try.func21, Try.ntmps21
            go_wp2_with fail
            go_ret
            exact ⟨rfl, hB⟩
        · clear hd
          obtain ⟨ak, aw, ac, az⟩ := a
          obtain ⟨bk, bw, bc, bz⟩ := b
          simp only at h1 h2 hB ⊢
          subst h1
          go_enter Try.func21, Try.ntmps21
          go_wp2_with fail
          go_ret
          exact ⟨rfl, hB⟩
      · clear hd
        go_enter Try.func21, Try.ntmps21
        go_wp2_with fail
        go_ret
        exact ⟨rfl, hB⟩
end Go.Proofs.Ytjeabkcbaielhaa.Co
