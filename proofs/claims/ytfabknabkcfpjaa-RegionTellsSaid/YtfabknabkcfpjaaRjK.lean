/- What is around a set, by the reference; few. -/
import Derived.Test.YtfabknabkcfpjaaRhC
import Derived.Test.YtfabknabkcfpjaaRiC
namespace Go.Proofs.Ytfabknabkcfpjaa
open Go.RowKit Go.Shelf
set_option maxRecDepth 100000 in
set_option maxHeartbeats 4000000 in
theorem rfBounds_c (v : Value) (rs : List Rc) (w : World) (hR : RdK encR 4 w v rs) (hn : rs.length ≤ 1152921504606846976) :
    Calls Try.prog 21 #[v] w fun e w' => e = .returned (rcV (boundsR rs)) ∧ Below w.heap.size w w' := by
  obtain ⟨p, c, rfl, hcell⟩ := hR
  have HC := Lib.hid hcell
  obtain ⟨n, hln⟩ : ∃ n, n = rs.length := ⟨_, rfl⟩
  rw [← hln] at hn ⊢
  have HN := Lib.hid hln
  have P0 : Bst w w.heap.size (w.heap.size + 1) #[.int .i64 0, .int .i64 0, .int .i64 0, .int .i64 0] #[.int .i64 0, .int .i64 0, .int .i64 0, .int .i64 0] ((w.alloc (.cells #[.int .i64 0, .int .i64 0, .int .i64 0, .int .i64 0] 40)).alloc (.cells #[.int .i64 0, .int .i64 0, .int .i64 0, .int .i64 0] 40)) :=
    ⟨(Blk.new w _ _).alloc _, by have := Blk.new (w.alloc (.cells #[.int .i64 0, .int .i64 0, .int .i64 0, .int .i64 0] 40)) 40 #[.int .i64 0, .int .i64 0, .int .i64 0, .int .i64 0]; simpa using this, ((Below.refl _ w).alloc (Nat.le_refl _) _).alloc (by simp) _, Nat.le_refl _, by omega, by omega⟩
  have Q0 := P0.four rfl (.int .i64 0) (.int .i64 0) (.int .i64 0) (.int .i64 0)
  obtain ⟨⟨a0, a1, a2, a3⟩, f0, f1, f2, f3⟩ := P0.2.1.c4
  have hl1 := P0.2.1.lt
  clear hcell hln
  go_enter Try.func21, Try.ntmps21
  go_wp2_with fail
  go_loopw [4] (fun z wr => ∃ k : Nat, k ≤ n ∧ z = .int .i64 k ∧ Bst w w.heap.size (w.heap.size + 1) #[.int .i64 0, .int .i64 0, .int .i64 0, .int .i64 0] #[.int .i64 (boundsR (rs.take k)).x, .int .i64 (boundsR (rs.take k)).y, .int .i64 (boundsR (rs.take k)).w, .int .i64 (boundsR (rs.take k)).h] wr) (fun z _ => n - (intOf z).toNat)
  case atStart => first
    | exact ⟨0, Nat.zero_le _, rfl, Q0⟩
    | exact ⟨0, Nat.zero_le _, rfl, P0⟩
  case round =>
    obtain ⟨k, hk, rfl, P1⟩ := hrel
    clear P0 Q0 a0 a1 a2 a3 f0 f1 f2 f3 hl1
    by_cases hlt : k < n
    · obtain ⟨r, hx⟩ : ∃ r, rs[k]? = some r := ⟨_, List.getElem?_eq_getElem (by rw [← HN.out]; exact hlt)⟩
      have HX := Lib.hid (bounds_snoc hx)
      obtain ⟨b, o, rfl, hb1, hb2⟩ := HC.out k r hx
      have HCL := Lib.hid (fun (W : World) (h : Below w.heap.size w W) => RdK.rect (w := W) (fun i u hu => (h.cell (p := ⟨b, o + k * 4 + i, none⟩) hb1).trans (hb2 i u hu)))
      generalize boundsR (rs.take k) = acc at *
      have P2 : Bst w w.heap.size (w.heap.size + 1) #[.int .i64 0, .int .i64 0, .int .i64 0, .int .i64 0] #[.int .i64 acc.x, .int .i64 acc.y, .int .i64 acc.w, .int .i64 acc.h] wr.drew := P1.next ((Below.refl _ _).drew)
      obtain ⟨⟨a0, a1, a2, a3⟩, f0, f1, f2, f3⟩ := P2.2.1.c4
      have hl1 := P2.2.1.lt
      clear hb2 hx
      have hi0 : (0 : Int) ≤ (k : Int) := by omega
      have hi1 : (k : Int) < (n : Int) := by omega
      go_upto_region 5 with fail
      refine wp_region_noPanic ?_
      refine wp_region_held_drew (S := fun wx => wx.cell? ⟨b, o + k * 4, none⟩ = some (.int .i64 r.x) ∧ wx.cell? ⟨b, o + k * 4 + 1, none⟩ = some (.int .i64 r.y) ∧ wx.cell? ⟨b, o + k * 4 + 2, none⟩ = some (.int .i64 r.w) ∧ wx.cell? ⟨b, o + k * 4 + 3, none⟩ = some (.int .i64 r.h)) (by kernel_rfl) (by exact HCL.out _ P2.2.2.1) (fun hHeld => ?_)
      refine wpAnyH_take (i := 1) (v := ?va1) rfl (by kernel_rfl) (by kernel_rfl) (by kernel_rfl) (fun _ _ _ h => h) (Or.inl ⟨by kernel_rfl, ?ya1⟩) (by assumption) ?ra1
      case ya1 => (intro wq hSw; (try dsimp only at hSw); go_simp; (try with_reducible rfl))
      (try simp only [Act.put, List.getElem_toArray, List.getElem_cons_succ, List.getElem_cons_zero, List.setIfInBounds_toArray, List.set_cons_zero, List.set_cons_succ])
      refine wpAnyH_take (i := 2) (v := ?va2) rfl (by kernel_rfl) (by kernel_rfl) (by kernel_rfl) (fun _ _ _ h => h) (Or.inl ⟨by kernel_rfl, ?ya2⟩) (by assumption) ?ra2
      case ya2 => (intro wq hSw; (try dsimp only at hSw); go_simp; (try with_reducible rfl))
      (try simp only [Act.put, List.getElem_toArray, List.getElem_cons_succ, List.getElem_cons_zero, List.setIfInBounds_toArray, List.set_cons_zero, List.set_cons_succ])
      refine wpAnyH_take (i := 3) (v := ?va3) rfl (by kernel_rfl) (by kernel_rfl) (by kernel_rfl) (fun _ _ _ h => h) (Or.inl ⟨by kernel_rfl, ?ya3⟩) (by assumption) ?ra3
      case ya3 => (intro wq hSw; (try dsimp only at hSw); go_simp; (try with_reducible rfl))
      (try simp only [Act.put, List.getElem_toArray, List.getElem_cons_succ, List.getElem_cons_zero, List.setIfInBounds_toArray, List.set_cons_zero, List.set_cons_succ])
      refine wpAnyH_take (i := 4) (v := ?va4) rfl (by kernel_rfl) (by kernel_rfl) (by kernel_rfl) (fun _ _ _ h => h) (Or.inl ⟨by kernel_rfl, ?ya4⟩) (by assumption) ?ra4
      case ya4 => (intro wq hSw; (try dsimp only at hSw); go_simp; (try with_reducible rfl))
      (try simp only [Act.put, List.getElem_toArray, List.getElem_cons_succ, List.getElem_cons_zero, List.setIfInBounds_toArray, List.set_cons_zero, List.set_cons_succ])
      refine wpAnyH_ready (rs := [0]) (by kernel_rfl) (by simp) ?_
      refine AllReadyH.cons rfl (fun K hK => ?_) AllReadyH.nil
      go_simp
      refine hK.out _ _ (by exact HCL.out _ P2.2.2.1) (fun hHeld => ?_)
      clear hK K
      (try simp only [Act.put, List.getElem_toArray, List.getElem_cons_succ, List.getElem_cons_zero, List.setIfInBounds_toArray, List.set_cons_zero, List.set_cons_succ])
      refine wpAnyH_ready (rs := [5]) (by kernel_rfl) (by simp) ?_
      refine AllReadyH.cons rfl (fun K hK => ?_) AllReadyH.nil
      go_simp
      refine (rhull_c acc.x acc.y acc.w acc.h r.x r.y r.w r.h _).mono ?_
      rintro e w1 ⟨rfl, hb⟩; have P3 := P2.next hb; clear hb a0 a1 a2 a3 f0 f1 f2 f3; obtain ⟨⟨a0, a1, a2, a3⟩, f0, f1, f2, f3⟩ := P3.2.1.c4; have hl1 := P3.2.1.lt
      (try dsimp only)
      refine hK.out _ _ (by exact HCL.out _ P3.2.2.1) (fun hHeld => ?_)
      clear hK K
      (try simp only [Act.put, List.getElem_toArray, List.getElem_cons_succ, List.getElem_cons_zero, List.setIfInBounds_toArray, List.set_cons_zero, List.set_cons_succ])
      refine wpAnyH_ready (rs := [6]) (by kernel_rfl) (by simp) ?_
      refine AllReadyH.cons rfl (fun K hK => ?_) AllReadyH.nil
      go_simp
      refine hK.out _ _ (by exact HCL.out _ (P3.four rfl _ _ _ _).2.2.1) (fun hHeld => ?_)
      clear hK K
      (try simp only [Act.put, List.getElem_toArray, List.getElem_cons_succ, List.getElem_cons_zero, List.setIfInBounds_toArray, List.set_cons_zero, List.set_cons_succ])
      refine wpAnyH_done (by kernel_rfl) ?_ _
      refine NoPanic.normal ?_
      clear hHeld
      go_wp2_with fail
      go_roundw
      case rel => exact ⟨k + 1, by omega, by go_num, by rw [HX.out]; exact P3.four rfl _ _ _ _⟩
      case measure => simp [intOf]; omega
    · obtain rfl : k = n := by omega
      obtain ⟨_, g0, g1, g2, g3⟩ := P1.1.c4
      obtain ⟨⟨a0, a1, a2, a3⟩, _⟩ := P1.2.1.c4
      have hl0 := P1.1.lt
      have hl1 := P1.2.1.lt
      have HT := Lib.hid (show boundsR (rs.take k) = boundsR rs by rw [HN.out, List.take_length])
      generalize boundsR (rs.take k) = acc at *
      go_wp2_with fail
      refine bodyPost_ret (v := rcV acc) (by simp [results, Try.results21, go_sem, *]; try rfl) rfl ?_
      exact ⟨by rw [HT.out], P1.last _ _ _ _⟩
set_option maxHeartbeats 4000000 in
theorem few_c (g n : Nat) (w : World) (hn : n ≤ 100) (hc : ∀ j, j < n → ∃ p m c, w.cell? ⟨g, j, none⟩ = some (.slice p m c)) :
    Calls Try.prog 9 #[.slice (some ⟨g, 0, none⟩) n n] w fun e w' => ∃ t : Bool, e = .returned (.bool t) ∧ Below w.heap.size w w' := by
  have HC := Lib.hid hc
  clear hc
  go_enter Try.func9, Try.ntmps9
  go_wp2_with fail
  go_loopw [4, 7] (fun a z wr => ∃ k q : Nat, k ≤ n ∧ z = .int .i64 k ∧ wr = w.drewN q) (fun _ z _ => n - (intOf z).toNat)
  case atStart => exact ⟨0, 0, Nat.zero_le _, rfl, rfl⟩
  case round =>
    obtain ⟨k, q, hk, rfl, rfl⟩ := hrel
    have hi0 : (0 : Int) ≤ (k : Int) := by omega
    by_cases hlt : k < n
    · obtain ⟨p, m, c, c0⟩ := HC.out k hlt
      have hi1 : (k : Int) < (n : Int) := by omega
      by_cases h1 : 24 < m
      · have k1 : (24 : Int) < (m : Int) := by omega
        by_cases h2 : m ≤ 256
        · have k2 : (m : Int) ≤ (256 : Int) := by omega
          go_wp2_with fail
          go_ret
          exact ⟨_, rfl, below_drewN (Below.refl _ _) _⟩
        · have k2 : ¬ (m : Int) ≤ (256 : Int) := by omega
          go_wp2_with fail
          go_roundw
          case rel => exact ⟨k + 1, q, by omega, by go_num, rfl⟩
          case measure => simp [intOf]; omega
      · have k1 : ¬ (24 : Int) < (m : Int) := by omega
        go_wp2_with fail
        go_roundw
        case rel => exact ⟨k + 1, q, by omega, by go_num, rfl⟩
        case measure => simp [intOf]; omega
    · go_wp2_with fail
      go_ret
      exact ⟨_, rfl, below_drewN (Below.refl _ _) _⟩
end Go.Proofs.Ytfabknabkcfpjaa
