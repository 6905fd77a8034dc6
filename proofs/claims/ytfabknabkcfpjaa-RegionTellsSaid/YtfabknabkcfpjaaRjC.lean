/- The reference's edges. -/
import Derived.Test.YtfabknabkcfpjaaRjA
import Derived.Test.YtfabknabkcfpjaaRjB
namespace Go.Proofs.Ytfabknabkcfpjaa
open Go.RowKit Go.Shelf
def edg (down : Bool) (acc : List Int) (r : Rc) : List Int := if emptyB r.x r.y r.w r.h = true then acc else if down = true then putL (putL acc r.y) (r.y + r.h) else putL (putL acc r.x) (r.x + r.w)
def edgL (down : Bool) (zs : List Int) (la : List Rc) : List Int := la.foldl (edg down) zs
theorem edgL_snoc {down : Bool} {zs : List Int} {la : List Rc} {k : Nat} {r : Rc} (h : la[k]? = some r) : edgL down zs (la.take (k + 1)) = edg down (edgL down zs (la.take k)) r := by
  rw [take_snoc_get h]; unfold edgL; rw [List.foldl_append]; rfl
theorem edg_len (down : Bool) (acc : List Int) (r : Rc) : (edg down acc r).length ≤ acc.length + 2 := by
  have h1 := put_len (n := r.y) acc
  have h2 := put_len (n := r.y + r.h) (putL acc r.y)
  have h3 := put_len (n := r.x) acc
  have h4 := put_len (n := r.x + r.w) (putL acc r.x)
  unfold edg
  split
  · omega
  · split <;> omega
theorem edgL_len (down : Bool) (zs : List Int) (la : List Rc) : (edgL down zs la).length ≤ zs.length + 2 * la.length := by
  unfold edgL
  induction la generalizing zs with
  | nil => simp
  | cons r t ih =>
    have := ih (edg down zs r)
    have := edg_len down zs r
    rw [List.foldl_cons, List.length_cons]; omega
theorem edgL_up (down : Bool) (zs : List Int) (la : List Rc) (h : zs.Pairwise (· < ·)) : (edgL down zs la).Pairwise (· < ·) := by
  unfold edgL
  induction la generalizing zs with
  | nil => exact h
  | cons r t ih =>
    refine ih _ ?_
    unfold edg
    split
    · exact h
    · split
      · exact put_up _ (put_up _ h)
      · exact put_up _ (put_up _ h)
theorem edgL_mem (down : Bool) (y : Int) (zs : List Int) (la : List Rc) : y ∈ edgL down zs la ↔ y ∈ zs ∨ ∃ r ∈ la, emptyB r.x r.y r.w r.h = false ∧ (if down = true then y = r.y ∨ y = r.y + r.h else y = r.x ∨ y = r.x + r.w) := by
  unfold edgL
  induction la generalizing zs with
  | nil => simp
  | cons r t ih =>
    rw [List.foldl_cons, ih]
    have hs : y ∈ edg down zs r ↔ y ∈ zs ∨ (emptyB r.x r.y r.w r.h = false ∧ (if down = true then y = r.y ∨ y = r.y + r.h else y = r.x ∨ y = r.x + r.w)) := by
      unfold edg
      split
      · next h => exact ⟨.inl, fun h' => h'.elim id fun h' => by rw [h] at h'; cases h'.1⟩
      · next h =>
        have hf : emptyB r.x r.y r.w r.h = false := by cases hh : emptyB r.x r.y r.w r.h with
          | false => rfl
          | true => exact absurd hh h
        split
        · rw [put_mem, put_mem]; exact ⟨fun h => h.elim (fun h => .inr ⟨hf, .inr h⟩) fun h => h.elim (fun h => .inr ⟨hf, .inl h⟩) .inl, fun h => h.elim (fun h => .inr (.inr h)) fun h => h.2.elim (fun h => .inr (.inl h)) .inl⟩
        · rw [put_mem, put_mem]; exact ⟨fun h => h.elim (fun h => .inr ⟨hf, .inr h⟩) fun h => h.elim (fun h => .inr ⟨hf, .inl h⟩) .inl, fun h => h.elim (fun h => .inr (.inr h)) fun h => h.2.elim (fun h => .inr (.inl h)) .inl⟩
    rw [hs]
    constructor
    · rintro ((h | h) | ⟨s, h1, h2⟩)
      · exact .inl h
      · exact .inr ⟨r, List.mem_cons_self .., h⟩
      · exact .inr ⟨s, List.mem_cons_of_mem _ h1, h2⟩
    · rintro (h | ⟨s, h1, h2⟩)
      · exact .inl (.inl h)
      · rcases List.mem_cons.1 h1 with rfl | h1
        · exact .inl (.inr h2)
        · exact .inr ⟨s, h1, h2⟩
def Edst (w0 : World) (v : Value) (zs : List Int) (wx : World) : Prop := w0.heap.size ≤ wx.heap.size ∧ OI wx v zs ∧ Below w0.heap.size w0 wx
section
variable {w0 wx w1 : World} {v v1 : Value} {zs zs1 : List Int}
theorem Edst.next (h : Edst w0 v zs wx) (hb : Below wx.heap.size wx w1) : Edst w0 v zs w1 := ⟨Nat.le_trans h.1 hb.size, h.2.1.below hb, below_then h.2.2 hb⟩
theorem Edst.drew (h : Edst w0 v zs wx) : Edst w0 v zs wx.drew := ⟨h.1, h.2.1, h.2.2.drew⟩
theorem Edst.step (h : Edst w0 v zs wx) (hb : Below wx.heap.size wx w1) (hO : OI w1 v1 zs1) : Edst w0 v1 zs1 w1 := ⟨Nat.le_trans h.1 hb.size, hO, below_then h.2.2 hb⟩
end
set_option maxRecDepth 100000 in
set_option maxHeartbeats 8000000 in
theorem edges_c (down : Bool) (va vo : Value) (la : List Rc) (zs0 : List Int) (w : World) (ha : RdK encR 4 w va la) (ho : OI w vo zs0) (hok : ∀ r ∈ la, badR r = false) (hl : zs0.length + 2 * la.length ≤ 1000000) :
    Calls Try.prog 25 #[va, .bool down, vo] w fun e w' => ∃ v', e = .returned v' ∧ OI w' v' (edgL down zs0 la) ∧ Below w.heap.size w w' := by
  obtain ⟨p, c, rfl, hcell⟩ := ha
  have HC := Lib.hid hcell
  have HOK := Lib.hid hok
  have HL := Lib.hid hl
  obtain ⟨n, hn⟩ : ∃ n, n = la.length := ⟨_, rfl⟩
  have hn2 : n ≤ 1000000 := by omega
  rw [← hn]
  have HN := Lib.hid hn
  have P0 : Edst w vo zs0 w := ⟨Nat.le_refl _, ho, Below.refl _ _⟩
  clear hcell hok hl hn ho
  go_enter Try.func25, Try.ntmps25
  go_wp2_with fail
  go_loopw [2, 7] (fun v z wr => ∃ k : Nat, k ≤ n ∧ z = .int .i64 k ∧ Edst w v (edgL down zs0 (la.take k)) wr) (fun _ z _ => n - (intOf z).toNat)
  case atStart => exact ⟨0, Nat.zero_le _, rfl, P0⟩
  case round =>
    obtain ⟨k, hk, rfl, P1⟩ := hrel
    clear P0
    by_cases hlt : k < n
    · obtain ⟨r, hx⟩ : ∃ r, la[k]? = some r := ⟨_, List.getElem?_eq_getElem (by rw [← HN.out]; exact hlt)⟩
      obtain ⟨b, o, rfl, hb1, hb2⟩ := HC.out k r hx
      have HCR := Lib.hid (fun (W : World) (h : Below w.heap.size w W) (i : Nat) (u : Value) (hu : (encR r)[i]? = some u) => (h.cell (p := ⟨b, o + k * 4 + i, none⟩) hb1).trans (hb2 i u hu))
      have HSN := Lib.hid (edgL_snoc (down := down) (zs := zs0) hx)
      have hbd := HOK.out r (List.mem_of_getElem? hx)
      have HLZ := Lib.hid (show (edgL down zs0 (la.take k)).length ≤ 1000000 by have h1 := edgL_len down zs0 (la.take k); have h2 := HL.out; rw [List.length_take] at h1; omega)
      unfold badR at hbd
      rw [Bool.not_eq_false', rightB_iff] at hbd
      have hw1 : IntKind.i64.wrap (r.y + r.h) = r.y + r.h := IntWalk.i64_in _ (by omega)
      have hw2 : IntKind.i64.wrap (r.x + r.w) = r.x + r.w := IntWalk.i64_in _ (by omega)
      clear hb2 hx
      have hi0 : (0 : Int) ≤ (k : Int) := by omega
      have hi1 : (k : Int) < (n : Int) := by omega
      generalize edgL down zs0 (la.take k) = zs at P1 HLZ HSN
      unfold edg at HSN
      obtain ⟨r0, r1, r2, r3⟩ := RdK.rect (HCR.out _ P1.2.2)
      have HEM := Lib.hid (fun W => rempty_c r.x r.y r.w r.h W)
      cases he : emptyB r.x r.y r.w r.h
      · rw [he] at HEM
        have HE := Lib.hid he
        clear he
        have HSN2 := Lib.hid (show edgL down zs0 (la.take (k + 1)) = if down = true then putL (putL zs r.y) (r.y + r.h) else putL (putL zs r.x) (r.x + r.w) by rw [HSN.out, if_neg (by rw [HE.out]; decide)])
        clear HSN
        go_upto_region 5 with (go_at_call 43; (with_reducible refine (HEM.out _).mono ?_); rintro e1 w1 ⟨rfl, hb⟩; have P1' := P1.next hb; clear hb P1; have P1 := P1'; clear P1')
        clear r0 r1 r2 r3
        cases down
        · go_upto_region 7 with fail
          refine wp_region_noPanic ?_
          refine wp_region_held_drew (S := fun wx => wx.cell? ⟨b, o + k * 4, none⟩ = some (.int .i64 r.x) ∧ wx.cell? ⟨b, o + k * 4 + 2, none⟩ = some (.int .i64 r.w)) (by kernel_rfl) (by have ⟨q0, q1, q2, q3⟩ := RdK.rect (HCR.out _ P1.drew.2.2); exact ⟨q0, q2⟩) (fun hHeld => ?_)
          refine wpAnyH_take (i := 0) (v := ?va0) rfl (by kernel_rfl) (by kernel_rfl) (by kernel_rfl) (fun _ _ _ h => h) (Or.inl ⟨by kernel_rfl, ?ya0⟩) (by assumption) ?ra0
          case ya0 => (intro wq hSw; (try dsimp only at hSw); go_simp; (try with_reducible rfl))
          (try simp only [Act.put, List.getElem_toArray, List.getElem_cons_zero, List.setIfInBounds_toArray, List.set_cons_zero, List.set_cons_succ])
          refine wpAnyH_take (i := 1) (v := ?va1) rfl (by kernel_rfl) (by kernel_rfl) (by kernel_rfl) (fun _ _ _ h => h) (Or.inl ⟨by kernel_rfl, ?ya1⟩) (by assumption) ?ra1
          case ya1 => (intro wq hSw; (try dsimp only at hSw); go_simp; (try with_reducible rfl))
          (try simp only [Act.put, List.getElem_toArray, List.getElem_cons_succ, List.getElem_cons_zero, List.setIfInBounds_toArray, List.set_cons_zero, List.set_cons_succ])
          refine wpAnyH_take (i := 2) (v := ?va2) rfl (by kernel_rfl) (by kernel_rfl) (by kernel_rfl) (fun _ _ _ h => h) (Or.inl ⟨by kernel_rfl, ?ya2⟩) (by assumption) ?ra2
          case ya2 => (intro wq hSw; (try dsimp only at hSw); go_simp; (try with_reducible rfl))
          (try simp only [Act.put, List.getElem_toArray, List.getElem_cons_succ, List.getElem_cons_zero, List.setIfInBounds_toArray, List.set_cons_zero, List.set_cons_succ])
          refine wpAnyH_take (i := 3) (v := ?va3) rfl (by kernel_rfl) (by kernel_rfl) (by kernel_rfl) (fun _ _ _ h => h) (Or.inl ⟨by kernel_rfl, ?ya3⟩) (by assumption) ?ra3
          case ya3 => (intro wq hSw; (try dsimp only at hSw); go_simp; (try with_reducible rfl))
          (try simp only [Act.put, List.getElem_toArray, List.getElem_cons_succ, List.getElem_cons_zero, List.setIfInBounds_toArray, List.set_cons_zero, List.set_cons_succ])
          refine wpAnyH_take (i := 4) (v := ?va4) rfl (by kernel_rfl) (by kernel_rfl) (by kernel_rfl) (fun _ _ _ h => h) (Or.inl ⟨by kernel_rfl, ?ya4⟩) (by assumption) ?ra4
          case ya4 => (intro wq hSw; (try dsimp only at hSw); go_simp; (try with_reducible rfl))
          (try simp only [Act.put, List.getElem_toArray, List.getElem_cons_succ, List.getElem_cons_zero, List.setIfInBounds_toArray, List.set_cons_zero, List.set_cons_succ])
          refine wpAnyH_take (i := 5) (v := ?va5) rfl (by kernel_rfl) (by kernel_rfl) (by kernel_rfl) (fun _ _ _ h => h) (Or.inl ⟨by kernel_rfl, ?ya5⟩) (by assumption) ?ra5
          case ya5 => (intro wq hSw; (try dsimp only at hSw); go_simp; (try with_reducible rfl))
          (try simp only [Act.put, List.getElem_toArray, List.getElem_cons_succ, List.getElem_cons_zero, List.setIfInBounds_toArray, List.set_cons_zero, List.set_cons_succ])
          refine wpAnyH_take (i := 7) (v := ?va7) rfl (by kernel_rfl) (by kernel_rfl) (by kernel_rfl) (fun _ _ _ h => h) (Or.inl ⟨by kernel_rfl, ?ya7⟩) (by assumption) ?ra7
          case ya7 => (intro wq hSw; (try dsimp only at hSw); go_simp; (try with_reducible rfl))
          (try simp only [Act.put, List.getElem_toArray, List.getElem_cons_succ, List.getElem_cons_zero, List.setIfInBounds_toArray, List.set_cons_zero, List.set_cons_succ])
          refine wpAnyH_take (i := 8) (v := ?va8) rfl (by kernel_rfl) (by kernel_rfl) (by kernel_rfl) (fun _ _ _ h => h) (Or.inl ⟨by kernel_rfl, ?ya8⟩) (by assumption) ?ra8
          case ya8 => (intro wq hSw; (try dsimp only at hSw); go_simp; (try with_reducible rfl))
          (try simp only [Act.put, List.getElem_toArray, List.getElem_cons_succ, List.getElem_cons_zero, List.setIfInBounds_toArray, List.set_cons_zero, List.set_cons_succ])
          refine wpAnyH_take (i := 9) (v := ?va9) rfl (by kernel_rfl) (by kernel_rfl) (by kernel_rfl) (fun _ _ _ h => h) (Or.inl ⟨by kernel_rfl, ?ya9⟩) (by assumption) ?ra9
          case ya9 => (intro wq hSw; (try dsimp only at hSw); go_simp; (try with_reducible rfl))
          (try simp only [Act.put, List.getElem_toArray, List.getElem_cons_succ, List.getElem_cons_zero, List.setIfInBounds_toArray, List.set_cons_zero, List.set_cons_succ])
          refine wpAnyH_take (i := 10) (v := ?va10) rfl (by kernel_rfl) (by kernel_rfl) (by kernel_rfl) (fun _ _ _ h => h) (Or.inl ⟨by kernel_rfl, ?ya10⟩) (by assumption) ?ra10
          case ya10 => (intro wq hSw; (try dsimp only at hSw); go_simp; (try with_reducible rfl))
          (try simp only [Act.put, List.getElem_toArray, List.getElem_cons_succ, List.getElem_cons_zero, List.setIfInBounds_toArray, List.set_cons_zero, List.set_cons_succ])
          refine wpAnyH_take (i := 11) (v := ?va11) rfl (by kernel_rfl) (by kernel_rfl) (by kernel_rfl) (fun _ _ _ h => h) (Or.inl ⟨by kernel_rfl, ?ya11⟩) (by assumption) ?ra11
          case ya11 => (intro wq hSw; (try dsimp only at hSw); go_simp; (try with_reducible rfl))
          (try simp only [Act.put, List.getElem_toArray, List.getElem_cons_succ, List.getElem_cons_zero, List.setIfInBounds_toArray, List.set_cons_zero, List.set_cons_succ])
          refine wpAnyH_take (i := 12) (v := ?va12) rfl (by kernel_rfl) (by kernel_rfl) (by kernel_rfl) (fun _ _ _ h => h) (Or.inl ⟨by kernel_rfl, ?ya12⟩) (by assumption) ?ra12
          case ya12 => (intro wq hSw; (try dsimp only at hSw); go_simp; (try with_reducible rfl))
          (try simp only [Act.put, List.getElem_toArray, List.getElem_cons_succ, List.getElem_cons_zero, List.setIfInBounds_toArray, List.set_cons_zero, List.set_cons_succ])
          refine wpAnyH_take (i := 13) (v := ?va13) rfl (by kernel_rfl) (by kernel_rfl) (by kernel_rfl) (fun _ _ _ h => h) (Or.inl ⟨by kernel_rfl, ?ya13⟩) (by assumption) ?ra13
          case ya13 => (intro wq hSw; (try dsimp only at hSw); go_simp; (try with_reducible rfl))
          (try simp only [Act.put, List.getElem_toArray, List.getElem_cons_succ, List.getElem_cons_zero, List.setIfInBounds_toArray, List.set_cons_zero, List.set_cons_succ])
          refine wpAnyH_take (i := 14) (v := ?va14) rfl (by kernel_rfl) (by kernel_rfl) (by kernel_rfl) (fun _ _ _ h => h) (Or.inl ⟨by kernel_rfl, ?ya14⟩) (by assumption) ?ra14
          case ya14 => (intro wq hSw; (try dsimp only at hSw); go_simp; (try with_reducible rfl))
          (try simp only [Act.put, List.getElem_toArray, List.getElem_cons_succ, List.getElem_cons_zero, List.setIfInBounds_toArray, List.set_cons_zero, List.set_cons_succ])
          refine wpAnyH_take (i := 15) (v := ?va15) rfl (by kernel_rfl) (by kernel_rfl) (by kernel_rfl) (fun _ _ _ h => h) (Or.inl ⟨by kernel_rfl, ?ya15⟩) (by assumption) ?ra15
          case ya15 => (intro wq hSw; (try dsimp only at hSw); go_simp; (try with_reducible rfl))
          (try simp only [Act.put, List.getElem_toArray, List.getElem_cons_succ, List.getElem_cons_zero, List.setIfInBounds_toArray, List.set_cons_zero, List.set_cons_succ])
          refine wpAnyH_take (i := 16) (v := ?va16) rfl (by kernel_rfl) (by kernel_rfl) (by kernel_rfl) (fun _ _ _ h => h) (Or.inl ⟨by kernel_rfl, ?ya16⟩) (by assumption) ?ra16
          case ya16 => (intro wq hSw; (try dsimp only at hSw); go_simp; (try with_reducible rfl))
          (try simp only [Act.put, List.getElem_toArray, List.getElem_cons_succ, List.getElem_cons_zero, List.setIfInBounds_toArray, List.set_cons_zero, List.set_cons_succ])
          refine wpAnyH_take (i := 17) (v := ?va17) rfl (by kernel_rfl) (by kernel_rfl) (by kernel_rfl) (fun _ _ _ h => h) (Or.inl ⟨by kernel_rfl, ?ya17⟩) (by assumption) ?ra17
          case ya17 => (intro wq hSw; (try dsimp only at hSw); go_simp; (try with_reducible rfl))
          (try simp only [Act.put, List.getElem_toArray, List.getElem_cons_succ, List.getElem_cons_zero, List.setIfInBounds_toArray, List.set_cons_zero, List.set_cons_succ])
          refine wpAnyH_ready (rs := [6]) (by kernel_rfl) (by simp) ?_
          refine AllReadyH.cons rfl (fun K hK => ?_) AllReadyH.nil
          go_simp
          refine (put_c _ _ _ _ P1.drew.2.1 (by have := HLZ.out; omega)).mono ?_
          rintro e2 w2 ⟨v2, rfl, hO2, hb⟩; have P2 := P1.drew.step hb hO2; clear hb hO2
          (try dsimp only)
          refine hK.out _ _ (by have ⟨q0, q1, q2, q3⟩ := RdK.rect (HCR.out _ P2.2.2); exact ⟨q0, q2⟩) (fun hHeld => ?_)
          clear hK K
          (try simp only [Act.put, List.getElem_toArray, List.getElem_cons_succ, List.getElem_cons_zero, List.setIfInBounds_toArray, List.set_cons_zero, List.set_cons_succ])
          refine wpAnyH_ready (rs := [18]) (by kernel_rfl) (by simp) ?_
          refine AllReadyH.cons rfl (fun K hK => ?_) AllReadyH.nil
          go_simp
          refine (put_c _ _ _ _ P2.2.1 (by have := HLZ.out; have := put_len (n := r.x) zs; omega)).mono ?_
          rintro e3 w3 ⟨v3, rfl, hO3, hb⟩; have P3 := P2.step hb hO3; clear hb hO3
          (try dsimp only)
          refine hK.out _ _ (by have ⟨q0, q1, q2, q3⟩ := RdK.rect (HCR.out _ P3.2.2); exact ⟨q0, q2⟩) (fun hHeld => ?_)
          clear hK K
          (try simp only [Act.put, List.getElem_toArray, List.getElem_cons_succ, List.getElem_cons_zero, List.setIfInBounds_toArray, List.set_cons_zero, List.set_cons_succ])
          refine wpAnyH_take (i := 19) (v := ?va19) rfl (by kernel_rfl) (by kernel_rfl) (by kernel_rfl) (fun _ _ _ h => h) (Or.inl ⟨by kernel_rfl, ?ya19⟩) (by assumption) ?ra19
          case ya19 => (intro wq hSw; (try dsimp only at hSw); go_simp; (try with_reducible rfl))
          (try simp only [Act.put, List.getElem_toArray, List.getElem_cons_succ, List.getElem_cons_zero, List.setIfInBounds_toArray, List.set_cons_zero, List.set_cons_succ])
          refine wpAnyH_done (by kernel_rfl) ?_ _
          refine NoPanic.normal ?_
          clear hHeld
          go_wp2_with fail
          go_roundw
          case rel => exact ⟨k + 1, by omega, by go_num, by rw [HSN2.out]; exact P3⟩
          case measure => simp [intOf]; omega
        · go_upto_region 6 with fail
          refine wp_region_noPanic ?_
          refine wp_region_held_drew (S := fun wx => wx.cell? ⟨b, o + k * 4 + 1, none⟩ = some (.int .i64 r.y) ∧ wx.cell? ⟨b, o + k * 4 + 3, none⟩ = some (.int .i64 r.h)) (by kernel_rfl) (by have ⟨q0, q1, q2, q3⟩ := RdK.rect (HCR.out _ P1.drew.2.2); exact ⟨q1, q3⟩) (fun hHeld => ?_)
          refine wpAnyH_take (i := 0) (v := ?vb0) rfl (by kernel_rfl) (by kernel_rfl) (by kernel_rfl) (fun _ _ _ h => h) (Or.inl ⟨by kernel_rfl, ?yb0⟩) (by assumption) ?rb0
          case yb0 => (intro wq hSw; (try dsimp only at hSw); go_simp; (try with_reducible rfl))
          (try simp only [Act.put, List.getElem_toArray, List.getElem_cons_zero, List.setIfInBounds_toArray, List.set_cons_zero, List.set_cons_succ])
          refine wpAnyH_take (i := 1) (v := ?vb1) rfl (by kernel_rfl) (by kernel_rfl) (by kernel_rfl) (fun _ _ _ h => h) (Or.inl ⟨by kernel_rfl, ?yb1⟩) (by assumption) ?rb1
          case yb1 => (intro wq hSw; (try dsimp only at hSw); go_simp; (try with_reducible rfl))
          (try simp only [Act.put, List.getElem_toArray, List.getElem_cons_succ, List.getElem_cons_zero, List.setIfInBounds_toArray, List.set_cons_zero, List.set_cons_succ])
          refine wpAnyH_take (i := 2) (v := ?vb2) rfl (by kernel_rfl) (by kernel_rfl) (by kernel_rfl) (fun _ _ _ h => h) (Or.inl ⟨by kernel_rfl, ?yb2⟩) (by assumption) ?rb2
          case yb2 => (intro wq hSw; (try dsimp only at hSw); go_simp; (try with_reducible rfl))
          (try simp only [Act.put, List.getElem_toArray, List.getElem_cons_succ, List.getElem_cons_zero, List.setIfInBounds_toArray, List.set_cons_zero, List.set_cons_succ])
          refine wpAnyH_take (i := 3) (v := ?vb3) rfl (by kernel_rfl) (by kernel_rfl) (by kernel_rfl) (fun _ _ _ h => h) (Or.inl ⟨by kernel_rfl, ?yb3⟩) (by assumption) ?rb3
          case yb3 => (intro wq hSw; (try dsimp only at hSw); go_simp; (try with_reducible rfl))
          (try simp only [Act.put, List.getElem_toArray, List.getElem_cons_succ, List.getElem_cons_zero, List.setIfInBounds_toArray, List.set_cons_zero, List.set_cons_succ])
          refine wpAnyH_take (i := 4) (v := ?vb4) rfl (by kernel_rfl) (by kernel_rfl) (by kernel_rfl) (fun _ _ _ h => h) (Or.inl ⟨by kernel_rfl, ?yb4⟩) (by assumption) ?rb4
          case yb4 => (intro wq hSw; (try dsimp only at hSw); go_simp; (try with_reducible rfl))
          (try simp only [Act.put, List.getElem_toArray, List.getElem_cons_succ, List.getElem_cons_zero, List.setIfInBounds_toArray, List.set_cons_zero, List.set_cons_succ])
          refine wpAnyH_take (i := 5) (v := ?vb5) rfl (by kernel_rfl) (by kernel_rfl) (by kernel_rfl) (fun _ _ _ h => h) (Or.inl ⟨by kernel_rfl, ?yb5⟩) (by assumption) ?rb5
          case yb5 => (intro wq hSw; (try dsimp only at hSw); go_simp; (try with_reducible rfl))
          (try simp only [Act.put, List.getElem_toArray, List.getElem_cons_succ, List.getElem_cons_zero, List.setIfInBounds_toArray, List.set_cons_zero, List.set_cons_succ])
          refine wpAnyH_take (i := 7) (v := ?vb7) rfl (by kernel_rfl) (by kernel_rfl) (by kernel_rfl) (fun _ _ _ h => h) (Or.inl ⟨by kernel_rfl, ?yb7⟩) (by assumption) ?rb7
          case yb7 => (intro wq hSw; (try dsimp only at hSw); go_simp; (try with_reducible rfl))
          (try simp only [Act.put, List.getElem_toArray, List.getElem_cons_succ, List.getElem_cons_zero, List.setIfInBounds_toArray, List.set_cons_zero, List.set_cons_succ])
          refine wpAnyH_take (i := 8) (v := ?vb8) rfl (by kernel_rfl) (by kernel_rfl) (by kernel_rfl) (fun _ _ _ h => h) (Or.inl ⟨by kernel_rfl, ?yb8⟩) (by assumption) ?rb8
          case yb8 => (intro wq hSw; (try dsimp only at hSw); go_simp; (try with_reducible rfl))
          (try simp only [Act.put, List.getElem_toArray, List.getElem_cons_succ, List.getElem_cons_zero, List.setIfInBounds_toArray, List.set_cons_zero, List.set_cons_succ])
          refine wpAnyH_take (i := 9) (v := ?vb9) rfl (by kernel_rfl) (by kernel_rfl) (by kernel_rfl) (fun _ _ _ h => h) (Or.inl ⟨by kernel_rfl, ?yb9⟩) (by assumption) ?rb9
          case yb9 => (intro wq hSw; (try dsimp only at hSw); go_simp; (try with_reducible rfl))
          (try simp only [Act.put, List.getElem_toArray, List.getElem_cons_succ, List.getElem_cons_zero, List.setIfInBounds_toArray, List.set_cons_zero, List.set_cons_succ])
          refine wpAnyH_take (i := 10) (v := ?vb10) rfl (by kernel_rfl) (by kernel_rfl) (by kernel_rfl) (fun _ _ _ h => h) (Or.inl ⟨by kernel_rfl, ?yb10⟩) (by assumption) ?rb10
          case yb10 => (intro wq hSw; (try dsimp only at hSw); go_simp; (try with_reducible rfl))
          (try simp only [Act.put, List.getElem_toArray, List.getElem_cons_succ, List.getElem_cons_zero, List.setIfInBounds_toArray, List.set_cons_zero, List.set_cons_succ])
          refine wpAnyH_take (i := 11) (v := ?vb11) rfl (by kernel_rfl) (by kernel_rfl) (by kernel_rfl) (fun _ _ _ h => h) (Or.inl ⟨by kernel_rfl, ?yb11⟩) (by assumption) ?rb11
          case yb11 => (intro wq hSw; (try dsimp only at hSw); go_simp; (try with_reducible rfl))
          (try simp only [Act.put, List.getElem_toArray, List.getElem_cons_succ, List.getElem_cons_zero, List.setIfInBounds_toArray, List.set_cons_zero, List.set_cons_succ])
          refine wpAnyH_take (i := 12) (v := ?vb12) rfl (by kernel_rfl) (by kernel_rfl) (by kernel_rfl) (fun _ _ _ h => h) (Or.inl ⟨by kernel_rfl, ?yb12⟩) (by assumption) ?rb12
          case yb12 => (intro wq hSw; (try dsimp only at hSw); go_simp; (try with_reducible rfl))
          (try simp only [Act.put, List.getElem_toArray, List.getElem_cons_succ, List.getElem_cons_zero, List.setIfInBounds_toArray, List.set_cons_zero, List.set_cons_succ])
          refine wpAnyH_take (i := 13) (v := ?vb13) rfl (by kernel_rfl) (by kernel_rfl) (by kernel_rfl) (fun _ _ _ h => h) (Or.inl ⟨by kernel_rfl, ?yb13⟩) (by assumption) ?rb13
          case yb13 => (intro wq hSw; (try dsimp only at hSw); go_simp; (try with_reducible rfl))
          (try simp only [Act.put, List.getElem_toArray, List.getElem_cons_succ, List.getElem_cons_zero, List.setIfInBounds_toArray, List.set_cons_zero, List.set_cons_succ])
          refine wpAnyH_take (i := 14) (v := ?vb14) rfl (by kernel_rfl) (by kernel_rfl) (by kernel_rfl) (fun _ _ _ h => h) (Or.inl ⟨by kernel_rfl, ?yb14⟩) (by assumption) ?rb14
          case yb14 => (intro wq hSw; (try dsimp only at hSw); go_simp; (try with_reducible rfl))
          (try simp only [Act.put, List.getElem_toArray, List.getElem_cons_succ, List.getElem_cons_zero, List.setIfInBounds_toArray, List.set_cons_zero, List.set_cons_succ])
          refine wpAnyH_take (i := 15) (v := ?vb15) rfl (by kernel_rfl) (by kernel_rfl) (by kernel_rfl) (fun _ _ _ h => h) (Or.inl ⟨by kernel_rfl, ?yb15⟩) (by assumption) ?rb15
          case yb15 => (intro wq hSw; (try dsimp only at hSw); go_simp; (try with_reducible rfl))
          (try simp only [Act.put, List.getElem_toArray, List.getElem_cons_succ, List.getElem_cons_zero, List.setIfInBounds_toArray, List.set_cons_zero, List.set_cons_succ])
          refine wpAnyH_take (i := 16) (v := ?vb16) rfl (by kernel_rfl) (by kernel_rfl) (by kernel_rfl) (fun _ _ _ h => h) (Or.inl ⟨by kernel_rfl, ?yb16⟩) (by assumption) ?rb16
          case yb16 => (intro wq hSw; (try dsimp only at hSw); go_simp; (try with_reducible rfl))
          (try simp only [Act.put, List.getElem_toArray, List.getElem_cons_succ, List.getElem_cons_zero, List.setIfInBounds_toArray, List.set_cons_zero, List.set_cons_succ])
          refine wpAnyH_take (i := 17) (v := ?vb17) rfl (by kernel_rfl) (by kernel_rfl) (by kernel_rfl) (fun _ _ _ h => h) (Or.inl ⟨by kernel_rfl, ?yb17⟩) (by assumption) ?rb17
          case yb17 => (intro wq hSw; (try dsimp only at hSw); go_simp; (try with_reducible rfl))
          (try simp only [Act.put, List.getElem_toArray, List.getElem_cons_succ, List.getElem_cons_zero, List.setIfInBounds_toArray, List.set_cons_zero, List.set_cons_succ])
          refine wpAnyH_ready (rs := [6]) (by kernel_rfl) (by simp) ?_
          refine AllReadyH.cons rfl (fun K hK => ?_) AllReadyH.nil
          go_simp
          refine (put_c _ _ _ _ P1.drew.2.1 (by have := HLZ.out; omega)).mono ?_
          rintro e2 w2 ⟨v2, rfl, hO2, hb⟩; have P2 := P1.drew.step hb hO2; clear hb hO2
          (try dsimp only)
          refine hK.out _ _ (by have ⟨q0, q1, q2, q3⟩ := RdK.rect (HCR.out _ P2.2.2); exact ⟨q1, q3⟩) (fun hHeld => ?_)
          clear hK K
          (try simp only [Act.put, List.getElem_toArray, List.getElem_cons_succ, List.getElem_cons_zero, List.setIfInBounds_toArray, List.set_cons_zero, List.set_cons_succ])
          refine wpAnyH_ready (rs := [18]) (by kernel_rfl) (by simp) ?_
          refine AllReadyH.cons rfl (fun K hK => ?_) AllReadyH.nil
          go_simp
          refine (put_c _ _ _ _ P2.2.1 (by have := HLZ.out; have := put_len (n := r.y) zs; omega)).mono ?_
          rintro e3 w3 ⟨v3, rfl, hO3, hb⟩; have P3 := P2.step hb hO3; clear hb hO3
          (try dsimp only)
          refine hK.out _ _ (by have ⟨q0, q1, q2, q3⟩ := RdK.rect (HCR.out _ P3.2.2); exact ⟨q1, q3⟩) (fun hHeld => ?_)
          clear hK K
          (try simp only [Act.put, List.getElem_toArray, List.getElem_cons_succ, List.getElem_cons_zero, List.setIfInBounds_toArray, List.set_cons_zero, List.set_cons_succ])
          refine wpAnyH_take (i := 19) (v := ?vb19) rfl (by kernel_rfl) (by kernel_rfl) (by kernel_rfl) (fun _ _ _ h => h) (Or.inl ⟨by kernel_rfl, ?yb19⟩) (by assumption) ?rb19
          case yb19 => (intro wq hSw; (try dsimp only at hSw); go_simp; (try with_reducible rfl))
          (try simp only [Act.put, List.getElem_toArray, List.getElem_cons_succ, List.getElem_cons_zero, List.setIfInBounds_toArray, List.set_cons_zero, List.set_cons_succ])
          refine wpAnyH_done (by kernel_rfl) ?_ _
          refine NoPanic.normal ?_
          clear hHeld
          go_wp2_with fail
          go_roundw
          case rel => exact ⟨k + 1, by omega, by go_num, by rw [HSN2.out]; exact P3⟩
          case measure => simp [intOf]; omega
      · rw [he] at HEM
        have HE := Lib.hid (show edgL down zs0 (la.take (k + 1)) = zs by rw [HSN.out, if_pos he])
        clear he
        go_wp2_with (go_at_call 43; (with_reducible refine (HEM.out _).mono ?_); rintro e1 w1 ⟨rfl, hb⟩; have P2 := P1.next hb; clear hb P1)
        go_roundw
        case rel => exact ⟨k + 1, by omega, by go_num, by rw [HE.out]; exact P2⟩
        case measure => simp [intOf]; omega
    · obtain rfl : k = n := by omega
      have HE : edgL down zs0 (la.take k) = edgL down zs0 la := by rw [HN.out, List.take_length]
      rw [HE] at P1
      go_wp2_with fail
      go_ret
      exact ⟨_, rfl, P1.2.1, P1.2.2⟩
end Go.Proofs.Ytfabknabkcfpjaa
