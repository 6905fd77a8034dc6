/- The document's At, Find, Nearest, walked. -/
import Derived.Test.YteaeccmlibmmmaaArE
import Derived.Test.YteaeccmlibmmmaaPlainB
namespace Go.Proofs.Yteaeccmlibmmmaa.Ar
open Go.RowKit Go.Shelf
theorem between_c (a n b m : Int) (w : World) (h1 : -32768 ≤ a ∧ a ≤ 32767) (h2 : 0 ≤ n ∧ a + n ≤ 32768) (h3 : -32768 ≤ b ∧ b ≤ 32767) (h4 : 0 ≤ m ∧ b + m ≤ 32768) :
    Calls Try.prog 46 #[.int .i64 a, .int .i64 n, .int .i64 b, .int .i64 m] w fun e w' => e = .returned (.int .i64 (gapI b (b + m) a (a + n))) ∧ w' = w := by
  have e1 : IntKind.i64.wrap (a + n) = a + n := IntWalk.i64_in _ (by omega)
  have e2 : IntKind.i64.wrap (b + m) = b + m := IntWalk.i64_in _ (by omega)
  have e3 : IntKind.i64.wrap (b - a) = b - a := IntWalk.i64_in _ (by omega)
  have e4 : IntKind.i64.wrap (b - a - n) = b - a - n := IntWalk.i64_in _ (by omega)
  have e5 : IntKind.i64.wrap (a - b) = a - b := IntWalk.i64_in _ (by omega)
  have e6 : IntKind.i64.wrap (a - b - m) = a - b - m := IntWalk.i64_in _ (by omega)
  by_cases c1 : a + n < b
  · have HG : Hid (gapI b (b + m) a (a + n) = b - a - n) := by show _ = _; unfold gapI; omega
    clear h1 h2 h3 h4
    go_enter Try.func46, Try.ntmps46
    go_wp2_with fail
    go_ret
    exact ⟨by rw [HG.out]; rfl, rfl⟩
  · by_cases c2 : b + m < a
    · have HG : Hid (gapI b (b + m) a (a + n) = a - b - m) := by show _ = _; unfold gapI; omega
      clear h1 h2 h3 h4
      go_enter Try.func46, Try.ntmps46
      go_wp2_with fail
      go_ret
      exact ⟨by rw [HG.out]; rfl, rfl⟩
    · have HG : Hid (gapI b (b + m) a (a + n) = 0) := by show _ = _; unfold gapI; omega
      clear h1 h2 h3 h4
      go_enter Try.func46, Try.ntmps46
      go_wp2_with fail
      go_ret
      exact ⟨by rw [HG.out]; rfl, rfl⟩
theorem firI_at {f : Out → Bool} {l : List Out} {k : Nat} {x : Out} (hx : l[k]? = some x) (hf : f x = true) (h : ∀ (j : Nat) (x : Out), j < k → l[j]? = some x → f x = false) : Ending.returned (.int .i64 (k : Int)) = .returned (.int .i64 (firI f l)) := by rw [firI_some hx hf h]
set_option maxHeartbeats 4000000 in
theorem rat_c (v : Value) (l : List Out) (p q : Int) (w : World) (hR : RdK encO 5 w v l) (hn : l.length ≤ 9223372036854775807) :
    Calls Try.prog 18 #[v, .agg #[.int .i64 p, .int .i64 q]] w fun e w' => e = .returned (.int .i64 (firI (hasO p q) l)) ∧ Below w.heap.size w w' := by
  obtain ⟨pp, c, rfl, hcell⟩ := hR
  have HC := Lib.hid hcell
  obtain ⟨n, hln⟩ : ∃ n, n = l.length := ⟨_, rfl⟩
  rw [← hln] at hn ⊢
  have HN := Lib.hid hln
  have HF := Lib.hid (fun k x => @firI_at (hasO p q) l k x)
  have HFN := Lib.hid (@firI_none (hasO p q) l)
  obtain ⟨z, hz⟩ : ∃ z, z = firI (hasO p q) l := ⟨_, rfl⟩
  rw [← hz] at HF HFN ⊢
  have hQ0 := Blk.new w 36 #[.int .i64 p, .int .i64 q]
  have hB0 := (Below.refl w.heap.size w).alloc (Nat.le_refl _) (.cells #[.int .i64 p, .int .i64 q] 36)
  clear hcell hln hz
  go_enter Try.func18, Try.ntmps18
  go_upto_region 2 with fail
  go_loopw [5] (fun y wr => ∃ k : Nat, k ≤ n ∧ y = .int .i64 k ∧ Below w.heap.size w wr ∧ Blk wr w.heap.size 36 #[.int .i64 p, .int .i64 q] ∧ Asd (∀ (j : Nat) (x : Out), j < k → l[j]? = some x → hasO p q x = false)) (fun y _ => n - (intOf y).toNat)
  case atStart => exact ⟨0, Nat.zero_le _, rfl, hB0, hQ0, fun j x hj => absurd hj (Nat.not_lt_zero j)⟩
  case round =>
    clear hB0 hQ0
    obtain ⟨k, hk, rfl, hB, hQ, hA⟩ := hrel
    have HA := Lib.hid (show ∀ (j : Nat) (x : Out), j < k → l[j]? = some x → hasO p q x = false from hA)
    clear hA
    by_cases hlt : k < n
    · obtain ⟨x, hx⟩ : ∃ x, l[k]? = some x := ⟨_, List.getElem?_eq_getElem (by rw [← HN.out]; exact hlt)⟩
      obtain ⟨b, o, rfl, hb1, hb2⟩ := HC.out k x hx
      have HX := Lib.hid hx
      have hi0 : (0 : Int) ≤ (k : Int) := by omega
      have hi1 : (k : Int) < (n : Int) := by omega
      have HSS : Hid (∀ W, Below wr.heap.size wr W → W.cell? ⟨w.heap.size, 0, none⟩ = some (.int .i64 p) ∧ W.cell? ⟨w.heap.size, 1, none⟩ = some (.int .i64 q) ∧ W.cell? ⟨b, o + k * 5, none⟩ = some (.string x.n) ∧ W.cell? ⟨b, o + k * 5 + 1, none⟩ = some (.int .i64 x.x) ∧ W.cell? ⟨b, o + k * 5 + 2, none⟩ = some (.int .i64 x.y) ∧ W.cell? ⟨b, o + k * 5 + 3, none⟩ = some (.int .i64 x.w) ∧ W.cell? ⟨b, o + k * 5 + 4, none⟩ = some (.int .i64 x.h)) := fun W h => by
        obtain ⟨⟨a0, a1⟩, -⟩ := (hQ.next h).c2
        obtain ⟨y0, y1, y2, y3, y4⟩ := RdK.out (w := W) (fun i u hu => ((hB.trans (h.mono hB.size)).cell (p := ⟨b, o + k * 5 + i, none⟩) hb1).trans (hb2 i u hu))
        exact ⟨a0, a1, y0, y1, y2, y3, y4⟩
      have HBd := Lib.hid (Below.refl wr.heap.size wr).drew
      have HH := Lib.hid (fun W => rhas_c x.x x.y x.w x.h p q W)
      have HFX := Lib.hid (HF.out k x hx)
      obtain ⟨hf, hfe⟩ : ∃ b, b = hasB x.x x.y x.w x.h p q := ⟨_, rfl⟩
      have HFE : Hid (hasO p q x = hf) := hfe.symm
      rw [← hfe] at HH
      have HBB := Lib.hid hB
      have HQQ := Lib.hid hQ
      clear hb1 hb2 hx hfe hB hQ
      go_upto_region 4 with fail
      refine wp_region_noPanic ?_
      refine wp_region_held_drew (S := fun wx => wx.cell? ⟨w.heap.size, 0, none⟩ = some (.int .i64 p) ∧ wx.cell? ⟨w.heap.size, 1, none⟩ = some (.int .i64 q) ∧ wx.cell? ⟨b, o + k * 5, none⟩ = some (.string x.n) ∧ wx.cell? ⟨b, o + k * 5 + 1, none⟩ = some (.int .i64 x.x) ∧ wx.cell? ⟨b, o + k * 5 + 2, none⟩ = some (.int .i64 x.y) ∧ wx.cell? ⟨b, o + k * 5 + 3, none⟩ = some (.int .i64 x.w) ∧ wx.cell? ⟨b, o + k * 5 + 4, none⟩ = some (.int .i64 x.h)) (by kernel_rfl) (by exact HSS.out _ HBd.out) (fun hHeld => ?_)
      refine wpAnyH_take (i := 0) (v := ?v0) rfl (by kernel_rfl) (by kernel_rfl) (by kernel_rfl) (fun _ _ _ h => h) (Or.inl ⟨by kernel_rfl, ?y0⟩) (by assumption) ?r0
      case y0 => (intro wq hSw; (try dsimp only at hSw); go_simp; (try with_reducible rfl))
      (try simp only [Act.put, List.getElem_toArray, List.getElem_cons_zero, List.setIfInBounds_toArray, List.set_cons_zero, List.set_cons_succ])
      refine wpAnyH_take (i := 1) (v := ?v1) rfl (by kernel_rfl) (by kernel_rfl) (by kernel_rfl) (fun _ _ _ h => h) (Or.inl ⟨by kernel_rfl, ?y1⟩) (by assumption) ?r1
      case y1 => (intro wq hSw; (try dsimp only at hSw); go_simp; (try with_reducible rfl))
      (try simp only [Act.put, List.getElem_toArray, List.getElem_cons_succ, List.getElem_cons_zero, List.setIfInBounds_toArray, List.set_cons_zero, List.set_cons_succ])
      refine wpAnyH_take (i := 2) (v := ?v2) rfl (by kernel_rfl) (by kernel_rfl) (by kernel_rfl) (fun _ _ _ h => h) (Or.inl ⟨by kernel_rfl, ?y2⟩) (by assumption) ?r2
      case y2 => (intro wq hSw; (try dsimp only at hSw); go_simp; (try with_reducible rfl))
      (try simp only [Act.put, List.getElem_toArray, List.getElem_cons_succ, List.getElem_cons_zero, List.setIfInBounds_toArray, List.set_cons_zero, List.set_cons_succ])
      refine wpAnyH_take (i := 3) (v := ?v3) rfl (by kernel_rfl) (by kernel_rfl) (by kernel_rfl) (fun _ _ _ h => h) (Or.inl ⟨by kernel_rfl, ?y3⟩) (by assumption) ?r3
      case y3 => (intro wq hSw; (try dsimp only at hSw); go_simp; (try with_reducible rfl))
      (try simp only [Act.put, List.getElem_toArray, List.getElem_cons_succ, List.getElem_cons_zero, List.setIfInBounds_toArray, List.set_cons_zero, List.set_cons_succ])
      refine wpAnyH_take (i := 4) (v := ?v4) rfl (by kernel_rfl) (by kernel_rfl) (by kernel_rfl) (fun _ _ _ h => h) (Or.inl ⟨by kernel_rfl, ?y4⟩) (by assumption) ?r4
      case y4 => (intro wq hSw; (try dsimp only at hSw); go_simp; (try with_reducible rfl))
      (try simp only [Act.put, List.getElem_toArray, List.getElem_cons_succ, List.getElem_cons_zero, List.setIfInBounds_toArray, List.set_cons_zero, List.set_cons_succ])
      refine wpAnyH_take (i := 5) (v := ?v5) rfl (by kernel_rfl) (by kernel_rfl) (by kernel_rfl) (fun _ _ _ h => h) (Or.inl ⟨by kernel_rfl, ?y5⟩) (by assumption) ?r5
      case y5 => (intro wq hSw; (try dsimp only at hSw); go_simp; (try with_reducible rfl))
      (try simp only [Act.put, List.getElem_toArray, List.getElem_cons_succ, List.getElem_cons_zero, List.setIfInBounds_toArray, List.set_cons_zero, List.set_cons_succ])
      refine wpAnyH_ready (rs := [6]) (by kernel_rfl) (by simp) ?_
      refine AllReadyH.cons rfl (fun K hK => ?_) AllReadyH.nil
      go_simp
      refine (HH.out _).mono ?_
      rintro ex w3 ⟨rfl, hb⟩; have HB3 := Lib.hid (HBd.out.trans (hb.mono HBd.out.size)); have hS3 : w3.cell? ⟨w.heap.size, 0, none⟩ = some (.int .i64 p) ∧ w3.cell? ⟨w.heap.size, 1, none⟩ = some (.int .i64 q) ∧ w3.cell? ⟨b, o + k * 5, none⟩ = some (.string x.n) ∧ w3.cell? ⟨b, o + k * 5 + 1, none⟩ = some (.int .i64 x.x) ∧ w3.cell? ⟨b, o + k * 5 + 2, none⟩ = some (.int .i64 x.y) ∧ w3.cell? ⟨b, o + k * 5 + 3, none⟩ = some (.int .i64 x.w) ∧ w3.cell? ⟨b, o + k * 5 + 4, none⟩ = some (.int .i64 x.h) := HSS.out _ HB3.out; clear hb
      (try dsimp only)
      refine hK.out _ _ (by exact hS3) (fun hHeld => ?_)
      clear hK K
      (try simp only [Act.put, List.getElem_toArray, List.getElem_cons_succ, List.getElem_cons_zero, List.setIfInBounds_toArray, List.set_cons_zero, List.set_cons_succ])
      refine wpAnyH_done (by kernel_rfl) ?_ _
      refine NoPanic.normal ?_
      have HB4 := Lib.hid (HBB.out.trans (HB3.out.mono HBB.out.size))
      have HQ4 := Lib.hid (HQQ.out.next HB3.out)
      clear hS3 hHeld HSS
      cases hf
      · go_wp2_with fail
        go_roundw
        case rel => exact ⟨k + 1, by omega, by go_num, HB4.out, HQ4.out, fun j y hj hy => by
          rcases Nat.lt_or_ge j k with h | h
          · exact HA.out j y h hy
          · obtain rfl : j = k := by omega
            rw [HX.out] at hy; injection hy with hy; subst hy; exact HFE.out⟩
        case measure => simp [intOf]; omega
      · go_wp2_with fail
        go_ret
        exact ⟨HFX.out HFE.out HA.out, HB4.out⟩
    · have HZ := Lib.hid (HFN.out fun j x hj => HA.out j x (by have h1 := (List.getElem?_eq_some_iff.1 hj).1; have h2 := HN.out; omega) hj)
      clear HFN
      go_wp2_with fail
      go_ret
      exact ⟨by rw [HZ.out]; rfl, hB⟩
set_option maxHeartbeats 4000000 in
theorem rfind_c (v : Value) (l : List Out) (s : ByteArray) (w : World) (hR : RdK encO 5 w v l) (hn : l.length ≤ 9223372036854775807) :
    Calls Try.prog 19 #[v, .string s] w fun e w' => e = .returned (.int .i64 (firI (namedO s) l)) ∧ w = w' := by
  obtain ⟨pp, c, rfl, hcell⟩ := hR
  have HC := Lib.hid hcell
  obtain ⟨n, hln⟩ : ∃ n, n = l.length := ⟨_, rfl⟩
  rw [← hln] at hn ⊢
  have HN := Lib.hid hln
  have HF := Lib.hid (fun k x => @firI_at (namedO s) l k x)
  have HFN := Lib.hid (@firI_none (namedO s) l)
  obtain ⟨z, hz⟩ : ∃ z, z = firI (namedO s) l := ⟨_, rfl⟩
  rw [← hz] at HF HFN ⊢
  clear hcell hln hz
  go_enter Try.func19, Try.ntmps19
  go_upto_region 2 with fail
  go_loop [5] (fun y => ∃ k : Nat, k ≤ n ∧ y = .int .i64 k ∧ Asd (∀ (j : Nat) (x : Out), j < k → l[j]? = some x → namedO s x = false)) (fun y => n - (intOf y).toNat)
  case atStart => exact ⟨0, Nat.zero_le _, rfl, fun j x hj => absurd hj (Nat.not_lt_zero j)⟩
  case round =>
    obtain ⟨k, hk, rfl, hA⟩ := hrel
    have HA := Lib.hid (show ∀ (j : Nat) (x : Out), j < k → l[j]? = some x → namedO s x = false from hA)
    clear hA
    by_cases hlt : k < n
    · obtain ⟨x, hx⟩ : ∃ x, l[k]? = some x := ⟨_, List.getElem?_eq_getElem (by rw [← HN.out]; exact hlt)⟩
      obtain ⟨b, o, rfl, hb1, hb2⟩ := HC.out k x hx
      obtain ⟨y0, y1, y2, y3, y4⟩ := RdK.out (w := w) (fun i u hu => hb2 i u hu)
      have HX := Lib.hid hx
      have hi0 : (0 : Int) ≤ (k : Int) := by omega
      have hi1 : (k : Int) < (n : Int) := by omega
      have HFX := Lib.hid (HF.out k x hx)
      clear hb1 hb2 hx
      cases hf : (x.n.toList == s.toList)
      · have HFE : Hid (namedO s x = false) := hf
        go_wp2_with fail
        go_round
        case rel => exact ⟨k + 1, by omega, by go_num, fun j y hj hy => by
          rcases Nat.lt_or_ge j k with h | h
          · exact HA.out j y h hy
          · obtain rfl : j = k := by omega
            rw [HX.out] at hy; injection hy with hy; subst hy; exact HFE.out⟩
        case measure => simp [intOf]; omega
      · have HFE : Hid (namedO s x = true) := hf
        go_wp2_with fail
        go_ret
        exact ⟨HFX.out HFE.out HA.out, rfl⟩
    · have HZ := Lib.hid (HFN.out fun j x hj => HA.out j x (by have h1 := (List.getElem?_eq_some_iff.1 hj).1; have h2 := HN.out; omega) hj)
      clear HFN
      go_wp2_with fail
      go_ret
      exact ⟨by rw [HZ.out]; rfl, rfl⟩
end Go.Proofs.Yteaeccmlibmmmaa.Ar
