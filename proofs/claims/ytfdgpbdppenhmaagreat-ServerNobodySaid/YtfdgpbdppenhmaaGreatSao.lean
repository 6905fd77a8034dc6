/- The reference's Create: it goes. -/
import Derived.Test.YtfdgpbdppenhmaaGreatSan
section
namespace Go.Proofs.YtfdgpbdppenhmaaGreat
open Go.RowKit Go.Shelf Go.Maps
theorem own_zero {w : World} {g B : Nat} (h : Blk w g 61 #[]) (hB : B ≤ g) : w.ownsRow B 61 7 (.slice (some ⟨g, 0, none⟩) 0 0) 0 [] :=
  ⟨rfl, .inr ⟨g, 0, _, rfl, hB, h, Nat.le_refl _, by decide, rfl, rfl⟩⟩
theorem cell6 {w : World} {g : Nat} {p : Addr} (hp : p.block ≠ g) (v0 v1 v2 v3 v4 v5 : Value) : ((((((w.setCell ⟨g, 0, none⟩ v0).setCell ⟨g, 1, none⟩ v1).setCell ⟨g, 2, none⟩ v2).setCell ⟨g, 3, none⟩ v3).setCell ⟨g, 4, none⟩ v4).setCell ⟨g, 5, none⟩ v5).cell? p = w.cell? p := by
  refine World.cell?_of_block ?_
  rw [Below.heap_setCell _ _ _ _ hp, Below.heap_setCell _ _ _ _ hp, Below.heap_setCell _ _ _ _ hp, Below.heap_setCell _ _ _ _ hp, Below.heap_setCell _ _ _ _ hp, Below.heap_setCell _ _ _ _ hp]
theorem own_sl {w : World} {B : Nat} {v : Value} {L : List Win} (h : OwK encW 61 7 w B v L) : ∃ p m c, v = .slice p m c := by
  obtain ⟨p, c, e⟩ := OwK.slice h
  exact ⟨p, _, c, e⟩
theorem row1 {w : World} {g B : Nat} {v : Value} {L : List Win} (h : OwK encW 61 7 w B v L) (hg : ∀ k, v.ownBlock = some k → k ≠ g) (i : Nat) (u : Value) : OwK encW 61 7 (w.setCell ⟨g, i, none⟩ u) B v L :=
  OwK.grown (row := some g) h ⟨rfl, rfl, rfl, by simp [World.setCell], fun j hj hn => Below.heap_setCell w _ _ j (fun e => hn (by rw [e]))⟩ (by cases hv : v.ownBlock with | none => exact .inl rfl | some k => exact .inr (fun e => hg k hv (by injection e)))
theorem row6 {w : World} {g B : Nat} {v : Value} {L : List Win} {T : TypeId} {cs : Array Value} (h : OwK encW 61 7 w B v L) (_hb : Blk w g T cs) (hg : ∀ k, v.ownBlock = some k → k ≠ g) (v0 v1 v2 v3 v4 v5 : Value) : OwK encW 61 7 ((((((w.setCell ⟨g, 0, none⟩ v0).setCell ⟨g, 1, none⟩ v1).setCell ⟨g, 2, none⟩ v2).setCell ⟨g, 3, none⟩ v3).setCell ⟨g, 4, none⟩ v4).setCell ⟨g, 5, none⟩ v5) B v L := by
  exact row1 (row1 (row1 (row1 (row1 (row1 h hg 0 v0) hg 1 v1) hg 2 v2) hg 3 v3) hg 4 v4) hg 5 v5
section
variable {w : World} {R : RT} {sv : Value} {L : List Win}
set_option maxRecDepth 100000 in
set_option maxHeartbeats 1000000 in
theorem rcreate_yes (h : RO w sv L) (hL : L.length ≤ 1048576) {par x y a e : Int} (hk : isL L par = true ∧ rightB x y a e = true ∧ L.length < 1024) {id : Int} (hid : wrap64 (R.last + 1) = id) :
    Calls Tryz.prog 62 #[refV R sv, .int .i64 par, .agg #[.int .i64 x, .int .i64 y, .int .i64 a, .int .i64 e]] w fun ex w' => CrR w { R with last := id } (L ++ [⟨id, par, x, y, a, e, false⟩]) id 0 ex w' := by
  obtain ⟨wb, hwb⟩ : ∃ wb, wb = ((w.alloc (.cells (refA R sv) 54)).alloc (.cells #[.int .i64 x, .int .i64 y, .int .i64 a, .int .i64 e] 23)).alloc (.cells zeroT 54) := ⟨_, rfl⟩
  have hbel : Below w.heap.size w wb := by rw [hwb]; exact (((Below.refl _ _).alloc (Nat.le_refl _) _).alloc (by simp) _).alloc (by simp; omega) _
  have hbx : CbX R sv x y a e w.heap.size wb wb := by
    refine ⟨by rw [hwb]; exact ((Blk.new w _ _).alloc _).alloc _, ?_, ?_, Below.refl _ _⟩
    · rw [hwb]
      have := (Blk.new (w.alloc (.cells (refA R sv) 54)) 23 #[.int .i64 x, .int .i64 y, .int .i64 a, .int .i64 e]).alloc (.cells zeroT 54)
      rwa [World.size_alloc] at this
    · rw [hwb]
      have := Blk.new ((w.alloc (.cells (refA R sv) 54)).alloc (.cells #[.int .i64 x, .int .i64 y, .int .i64 a, .int .i64 e] 23)) 54 zeroT
      rwa [World.size_alloc, World.size_alloc] at this
  obtain ⟨b, hb⟩ : ∃ b, b = isL L par := ⟨_, rfl⟩
  obtain ⟨q, hq⟩ : ∃ q, q = rightB x y a e := ⟨_, rfl⟩
  obtain ⟨p, c, hsv⟩ := OwK.slice h
  obtain ⟨n, hn⟩ : ∃ n, n = L.length := ⟨_, rfl⟩
  have HI := Lib.hid (show Calls Tryz.prog 59 #[refV R sv, .int .i64 par] wb fun e w' => e = .returned (.bool b) ∧ Below wb.heap.size wb w' from by rw [hb]; exact is_c (h.rd.below hbel) hL par)
  have HQ := Lib.hid (fun W => (show Calls Tryz.prog 35 #[.agg #[.int .i64 x, .int .i64 y, .int .i64 a, .int .i64 e]] W fun e w' => e = .returned (.bool q) ∧ Below W.heap.size W w' from by rw [hq]; exact rright_c _ _ _ _ W))
  rw [← hb, ← hq, ← hn] at hk
  rw [← hn] at hsv
  have HF := Lib.hid (fun W (hW : Below w.heap.size w W) => (show RO W sv L from OwK.below h hW))
  obtain ⟨⟨x0, x1, x2, x3, x4, x5⟩, -⟩ := hbx.1.at6
  have H0 := Lib.hid hbx
  have HB := Lib.hid hbel
  have HW := Lib.hid hwb
  subst hsv
  have HN := Lib.hid hn
  have hn0 : (n : Int) ≤ 1048576 := by omega
  clear h hbel hbx hb hq hn
  obtain ⟨rfl, rfl, hn1⟩ := hk
  have hn2 : (n : Int) < (1024 : Int) := by omega
  obtain ⟨i0, hi0, hz0, hz1, hz2⟩ := info_parts winInfo
  have W1 : IntKind.i64.wrap (R.last + 1) = id := by rw [← hid]; exact IntWalk.i64_left _
  clear hid
  go_enter Tryz.func62, Tryz.ntmps62
  go_upto_region 1 with fail
  rw [← HW.out]
  clear hwb
  go_upto_region 8 with (first
    | (go_at_call 59; ((with_reducible refine (HI.out).mono ?_); rintro e w1 ⟨rfl, hb⟩); have H1 := Lib.hid (H0.out.next hb); obtain ⟨⟨r0, r1, r2, r3⟩, -⟩ := H1.out.2.1.c4; clear hb)
    | (go_at_call 35; ((with_reducible refine (HQ.out _).mono ?_); rintro e w2 ⟨rfl, hb⟩); have H2 := Lib.hid (H1.out.next hb); obtain ⟨⟨x0, x1, x2, x3, x4, x5⟩, -⟩ := H2.out.1.at6; obtain ⟨⟨r0, r1, r2, r3⟩, -⟩ := H2.out.2.1.c4; clear hb))
  obtain ⟨w3, hw3⟩ : ∃ w3, w3 = w2.alloc (.cells #[.int .i64 id, .int .i64 par, .int .i64 x, .int .i64 y, .int .i64 a, .int .i64 e, .bool false] 61) := ⟨_, rfl⟩
  have hb3 : Below w2.heap.size w2 w3 := by rw [hw3]; exact (Below.refl _ _).alloc (Nat.le_refl _) _
  have hB3 : Blk w3 w2.heap.size 61 #[.int .i64 id, .int .i64 par, .int .i64 x, .int .i64 y, .int .i64 a, .int .i64 e, .bool false] := by rw [hw3]; exact Blk.new w2 _ _
  have H3 := Lib.hid (H2.out.next hb3)
  have HLN := Lib.hid (show L.length < 1024 from by have := HN.out; omega)
  have HFF := Lib.hid (fun W (hW : Below w3.heap.size w3 W) => (show RO W (.slice p n c) L from HF.out W ((H3.out.next hW).2.2.2.on HB.out HB.out.size)))
  have HSS := Lib.hid (fun W (hW : Below w3.heap.size w3 W) => (show ((W.cell? ⟨w.heap.size, 0, none⟩ = some (.int .i64 R.x) ∧ W.cell? ⟨w.heap.size, 1, none⟩ = some (.int .i64 R.y) ∧ W.cell? ⟨w.heap.size, 2, none⟩ = some (.int .i64 R.w) ∧ W.cell? ⟨w.heap.size, 3, none⟩ = some (.int .i64 R.h)) ∧ W.cell? ⟨w.heap.size, 5, none⟩ = some (.slice p n c)) ∧ W.cell? ⟨w2.heap.size, 0, none⟩ = some (.int .i64 id) ∧ W.cell? ⟨w2.heap.size, 1, none⟩ = some (.int .i64 par) ∧ W.cell? ⟨w2.heap.size, 2, none⟩ = some (.int .i64 x) ∧ W.cell? ⟨w2.heap.size, 3, none⟩ = some (.int .i64 y) ∧ W.cell? ⟨w2.heap.size, 4, none⟩ = some (.int .i64 a) ∧ W.cell? ⟨w2.heap.size, 5, none⟩ = some (.int .i64 e) ∧ W.cell? ⟨w2.heap.size, 6, none⟩ = some (.bool false) from by
    obtain ⟨⟨q0, q1, q2, q3, q4, q5⟩, -⟩ := (H3.out.next hW).1.at6
    obtain ⟨⟨j0, j1, j2, j3, j4, j5, j6⟩, -⟩ := (hB3.next hW).c7
    exact ⟨⟨⟨q0, q1, q2, q3⟩, q5⟩, j0, j1, j2, j3, j4, j5, j6⟩))
  have hlt2 := H2.out.2.2.1.lt
  have HS6 := Lib.hid (fun W (hW : Below w3.heap.size w3 W) (v0 v1 v2 v3 v4 v5 : Value) => (show (fun W => ((W.cell? ⟨w.heap.size, 0, none⟩ = some (.int .i64 R.x) ∧ W.cell? ⟨w.heap.size, 1, none⟩ = some (.int .i64 R.y) ∧ W.cell? ⟨w.heap.size, 2, none⟩ = some (.int .i64 R.w) ∧ W.cell? ⟨w.heap.size, 3, none⟩ = some (.int .i64 R.h)) ∧ W.cell? ⟨w.heap.size, 5, none⟩ = some (.slice p n c)) ∧ W.cell? ⟨w2.heap.size, 0, none⟩ = some (.int .i64 id) ∧ W.cell? ⟨w2.heap.size, 1, none⟩ = some (.int .i64 par) ∧ W.cell? ⟨w2.heap.size, 2, none⟩ = some (.int .i64 x) ∧ W.cell? ⟨w2.heap.size, 3, none⟩ = some (.int .i64 y) ∧ W.cell? ⟨w2.heap.size, 4, none⟩ = some (.int .i64 a) ∧ W.cell? ⟨w2.heap.size, 5, none⟩ = some (.int .i64 e) ∧ W.cell? ⟨w2.heap.size, 6, none⟩ = some (.bool false)) ((((((W.setCell ⟨w.heap.size + 1 + 1, 0, none⟩ v0).setCell ⟨w.heap.size + 1 + 1, 1, none⟩ v1).setCell ⟨w.heap.size + 1 + 1, 2, none⟩ v2).setCell ⟨w.heap.size + 1 + 1, 3, none⟩ v3).setCell ⟨w.heap.size + 1 + 1, 4, none⟩ v4).setCell ⟨w.heap.size + 1 + 1, 5, none⟩ v5) from by
    have hh := HSS.out W hW
    have n1 : w.heap.size ≠ w.heap.size + 1 + 1 := by omega
    have n2 : w2.heap.size ≠ w.heap.size + 1 + 1 := by omega
    dsimp only
    rw [cell6 n1, cell6 n1, cell6 n1, cell6 n1, cell6 n1, cell6 n2, cell6 n2, cell6 n2, cell6 n2, cell6 n2, cell6 n2, cell6 n2]
    exact hh))
  clear hlt2
  obtain ⟨⟨y0, y1, y2, y3, y4, y5⟩, -⟩ := H3.out.1.at6
  obtain ⟨⟨k0, k1, k2, k3, k4, k5, k6⟩, -⟩ := hB3.c7
  rw [← hw3]
  clear hw3 hb3 hB3
  refine wp_region_noPanic ?_
  refine wp_region_held_drew (S := fun wx => ((wx.cell? ⟨w.heap.size, 0, none⟩ = some (.int .i64 R.x) ∧ wx.cell? ⟨w.heap.size, 1, none⟩ = some (.int .i64 R.y) ∧ wx.cell? ⟨w.heap.size, 2, none⟩ = some (.int .i64 R.w) ∧ wx.cell? ⟨w.heap.size, 3, none⟩ = some (.int .i64 R.h)) ∧ wx.cell? ⟨w.heap.size, 5, none⟩ = some (.slice p n c)) ∧ wx.cell? ⟨w2.heap.size, 0, none⟩ = some (.int .i64 id) ∧ wx.cell? ⟨w2.heap.size, 1, none⟩ = some (.int .i64 par) ∧ wx.cell? ⟨w2.heap.size, 2, none⟩ = some (.int .i64 x) ∧ wx.cell? ⟨w2.heap.size, 3, none⟩ = some (.int .i64 y) ∧ wx.cell? ⟨w2.heap.size, 4, none⟩ = some (.int .i64 a) ∧ wx.cell? ⟨w2.heap.size, 5, none⟩ = some (.int .i64 e) ∧ wx.cell? ⟨w2.heap.size, 6, none⟩ = some (.bool false)) (by kernel_rfl) (by exact ⟨⟨⟨y0, y1, y2, y3⟩, y5⟩, k0, k1, k2, k3, k4, k5, k6⟩) (fun hHeld => ?_)
  refine wpAnyH_take (i := 0) (v := ?va0) rfl (by kernel_rfl) (by kernel_rfl) (by kernel_rfl) (fun _ _ _ h => h) (Or.inl ⟨by kernel_rfl, ?ya0⟩) (by assumption) ?ra0
  case ya0 => (intro wq hSw; (try dsimp only at hSw); go_simp; (try with_reducible rfl))
  (try simp only [Act.put, List.getElem_toArray, List.getElem_cons_zero, List.setIfInBounds_toArray, List.set_cons_zero, List.set_cons_succ])
  refine wpAnyH_take (i := 1) (v := ?va1) rfl (by kernel_rfl) (by kernel_rfl) (by kernel_rfl) (fun _ _ _ h => h) (Or.inl ⟨by kernel_rfl, ?ya1⟩) (by assumption) ?ra1
  case ya1 => (intro wq hSw; (try dsimp only at hSw); go_simp; (try with_reducible rfl))
  (try simp only [Act.put, List.getElem_toArray, List.getElem_cons_succ, List.getElem_cons_zero, List.setIfInBounds_toArray, List.set_cons_zero, List.set_cons_succ])
  refine wpAnyH_take (i := 2) (v := ?va2) rfl (by kernel_rfl) (by kernel_rfl) (by kernel_rfl) (fun _ _ _ h => h) (Or.inl ⟨by kernel_rfl, ?ya2⟩) (by assumption) ?ra2
  case ya2 => (intro wq hSw; (try dsimp only at hSw); go_simp; (try with_reducible rfl))
  (try simp only [Act.put, List.getElem_toArray, List.getElem_cons_succ, List.getElem_cons_zero, List.setIfInBounds_toArray, List.set_cons_zero, List.set_cons_succ])
  refine wpAnyH_take (i := 3) (v := ?va3) rfl (by kernel_rfl) (by kernel_rfl) (by kernel_rfl) (fun _ _ _ h => h) (Or.inl ⟨by kernel_rfl, ?ya3⟩) (by assumption) ?ra3
  case ya3 => (intro wq hSw; (try dsimp only at hSw); go_simp; (try with_reducible rfl))
  (try simp only [Act.put, List.getElem_toArray, List.getElem_cons_succ, List.getElem_cons_zero, List.setIfInBounds_toArray, List.set_cons_zero, List.set_cons_succ])
  refine wpAnyH_take (i := 5) (v := ?va5) rfl (by kernel_rfl) (by kernel_rfl) (by kernel_rfl) (fun _ _ _ h => h) (Or.inl ⟨by kernel_rfl, ?ya5⟩) (by assumption) ?ra5
  case ya5 => (intro wq hSw; (try dsimp only at hSw); go_simp; (try with_reducible rfl))
  (try simp only [Act.put, List.getElem_toArray, List.getElem_cons_succ, List.getElem_cons_zero, List.setIfInBounds_toArray, List.set_cons_zero, List.set_cons_succ])
  refine wpAnyH_take (i := 6) (v := ?va6) rfl (by kernel_rfl) (by kernel_rfl) (by kernel_rfl) (fun _ _ _ h => h) (Or.inl ⟨by kernel_rfl, ?ya6⟩) (by assumption) ?ra6
  case ya6 => (intro wq hSw; (try dsimp only at hSw); go_simp; (try with_reducible rfl))
  (try simp only [Act.put, List.getElem_toArray, List.getElem_cons_succ, List.getElem_cons_zero, List.setIfInBounds_toArray, List.set_cons_zero, List.set_cons_succ])
  refine wpAnyH_take (i := 8) (v := ?va8) rfl (by kernel_rfl) (by kernel_rfl) (by kernel_rfl) (fun _ _ _ h => h) (Or.inl ⟨by kernel_rfl, ?ya8⟩) (by assumption) ?ra8
  case ya8 => (intro wq hSw; (try dsimp only at hSw); go_simp; (try with_reducible rfl))
  (try simp only [Act.put, List.getElem_toArray, List.getElem_cons_succ, List.getElem_cons_zero, List.setIfInBounds_toArray, List.set_cons_zero, List.set_cons_succ])
  refine wpAnyH_take (i := 12) (v := ?va12) rfl (by kernel_rfl) (by kernel_rfl) (by kernel_rfl) (fun _ _ _ h => h) (Or.inl ⟨by kernel_rfl, ?ya12⟩) (by assumption) ?ra12
  case ya12 => (intro wq hSw; (try dsimp only at hSw); go_simp; (try with_reducible rfl))
  (try simp only [Act.put, List.getElem_toArray, List.getElem_cons_succ, List.getElem_cons_zero, List.setIfInBounds_toArray, List.set_cons_zero, List.set_cons_succ])
  refine wpAnyH_take (i := 13) (v := ?va13) rfl (by kernel_rfl) (by kernel_rfl) (by kernel_rfl) (fun _ _ _ h => h) (Or.inl ⟨by kernel_rfl, ?ya13⟩) (by assumption) ?ra13
  case ya13 => (intro wq hSw; (try dsimp only at hSw); go_simp; (try with_reducible rfl))
  (try simp only [Act.put, List.getElem_toArray, List.getElem_cons_succ, List.getElem_cons_zero, List.setIfInBounds_toArray, List.set_cons_zero, List.set_cons_succ])
  refine wpAnyH_ready (rs := [4, 9]) (by kernel_rfl) (by simp) ?_
  refine AllReadyH.cons rfl (fun K hK => ?_) (AllReadyH.cons rfl (fun K hK => ?_) AllReadyH.nil)
  · go_simp
    have b4 := (Below.refl w3.heap.size w3).alloc (Below.refl w3.heap.size w3).size (.cells #[] 61)
    have e4 := own_zero ((Blk.new w3 61 #[])) (Below.refl w3.heap.size w3).size
    refine hK.out _ _ (by exact HSS.out _ b4.drew) (fun hHeld => ?_)
    clear hK K
    (try simp only [Act.put, List.getElem_toArray, List.getElem_cons_succ, List.getElem_cons_zero, List.setIfInBounds_toArray, List.set_cons_zero, List.set_cons_succ])
    refine wpAnyH_ready (rs := [7, 9]) (by kernel_rfl) (by simp) ?_
    refine AllReadyH.cons rfl (fun K hK => ?_) (AllReadyH.cons rfl (fun K hK => ?_) AllReadyH.nil)
    · refine step_app rfl (.tmp 34) (.tmp 36) 52 rfl w3.heap.size 61 i0 (.agg #[.int .i64 0, .int .i64 0, .int .i64 0, .int .i64 0, .int .i64 0, .int .i64 0, .bool false]) 7 56 Tryz.underlying52 hi0 hz0 hz1 hz2 rfl (by decide) _ _ _ (by rfl) (World.ownsRow.drew e4) _ _ _ _ (by rfl) (HFF.out _ b4.drew) (flatW_one _) (by unfold maxLen; have := HLN.out; simp; omega) (by have := HLN.out; simp; omega) b4.drew.size ?_
      intro v5 w5 ho5 hg5
      have OV : OwK encW 61 7 w5 w3.heap.size v5 L := by have h := ho5; rw [Nat.zero_add, List.nil_append] at h; exact h
      have b5 := below_only b4.drew hg5 b4.drew.size (fun k hk => (World.ownsRow.lt (World.ownsRow.drew e4) k hk).1)
      refine hK.out _ _ (by exact HSS.out _ b5) (fun hHeld => ?_)
      clear hK K
      (try simp only [Act.put, List.getElem_toArray, List.getElem_cons_succ, List.getElem_cons_zero, List.setIfInBounds_toArray, List.set_cons_zero, List.set_cons_succ])
      refine wpAnyH_ready (rs := [9]) (by kernel_rfl) (by simp) ?_
      refine AllReadyH.cons rfl (fun K hK => ?_) AllReadyH.nil
      go_simp
      have b9 := b5.alloc b5.size (.cells #[.int .i64 id, .int .i64 par, .int .i64 x, .int .i64 y, .int .i64 a, .int .i64 e, .bool false] 61)
      have o9 := own_one (v := ⟨id, par, x, y, a, e, false⟩) (Blk.new w5 61 #[.int .i64 id, .int .i64 par, .int .i64 x, .int .i64 y, .int .i64 a, .int .i64 e, .bool false])
      have OV9 := World.ownsRow.alloc OV (.cells #[.int .i64 id, .int .i64 par, .int .i64 x, .int .i64 y, .int .i64 a, .int .i64 e, .bool false] 61)
      refine hK.out _ _ (by exact HSS.out _ b9) (fun hHeld => ?_)
      clear hK K
      (try simp only [Act.put, List.getElem_toArray, List.getElem_cons_succ, List.getElem_cons_zero, List.setIfInBounds_toArray, List.set_cons_zero, List.set_cons_succ])
      refine wpAnyH_ready (rs := [10]) (by kernel_rfl) (by simp) ?_
      refine AllReadyH.cons rfl (fun K hK => ?_) AllReadyH.nil
      refine step_app rfl (.tmp 37) (.tmp 39) 52 rfl w3.heap.size 61 i0 (.agg #[.int .i64 0, .int .i64 0, .int .i64 0, .int .i64 0, .int .i64 0, .int .i64 0, .bool false]) 7 56 Tryz.underlying52 hi0 hz0 hz1 hz2 rfl (by decide) _ _ _ (by rfl) OV9 _ _ _ _ (by rfl) o9 (flatW_one _) (by unfold maxLen; have := HLN.out; simp; omega) (by have := HLN.out; simp; omega) b9.size ?_
      intro v7 w7 ho7 hg7
      have of7 := OwK.app (L := L) (M := [⟨id, par, x, y, a, e, false⟩]) ho7
      obtain ⟨p7, m7, c7, rfl⟩ := own_sl of7
      have OF := Lib.hid of7
      have b7 := below_only b9 hg7 b9.size (fun k hk => (World.ownsRow.lt OV9 k hk).1)
      have H7 := Lib.hid (H3.out.next b7)
      have B7 := Lib.hid b7
      refine hK.out _ _ (by exact HSS.out _ b7) (fun hHeld => ?_)
      clear hK K
      (try simp only [Act.put, List.getElem_toArray, List.getElem_cons_succ, List.getElem_cons_zero, List.setIfInBounds_toArray, List.set_cons_zero, List.set_cons_succ])
      clear b7 ho7 hg7 of7
      refine wpAnyH_take (i := 11) (v := ?vc11) rfl (by kernel_rfl) (by kernel_rfl) (by kernel_rfl) (fun _ _ _ h => h) (Or.inl ⟨by kernel_rfl, ?yc11⟩) (by assumption) ?rc11
      case yc11 => (intro wq hSw; (try dsimp only at hSw); go_simp; (try with_reducible rfl))
      (try simp only [Act.put, List.getElem_toArray, List.getElem_cons_succ, List.getElem_cons_zero, List.setIfInBounds_toArray, List.set_cons_zero, List.set_cons_succ])
      obtain ⟨⟨z0, z1, z2, z3, z4, z5⟩, ⟨f0, f1, f2, f3, f4, f5⟩⟩ := H7.out.2.2.1.at6
      refine wpAnyH_ready (rs := [14]) (by kernel_rfl) (by simp) ?_
      refine AllReadyH.cons rfl (fun K hK => ?_) AllReadyH.nil
      go_simp
      refine hK.out _ _ (by exact HS6.out _ B7.out _ _ _ _ _ _) (fun hHeld => ?_)
      clear hK K
      (try simp only [Act.put, List.getElem_toArray, List.getElem_cons_succ, List.getElem_cons_zero, List.setIfInBounds_toArray, List.set_cons_zero, List.set_cons_succ])
      refine wpAnyH_take (i := 15) (v := ?vc15) rfl (by kernel_rfl) (by kernel_rfl) (by kernel_rfl) (fun _ _ _ h => h) (Or.inl ⟨by kernel_rfl, ?yc15⟩) (by assumption) ?rc15
      case yc15 => (intro wq hSw; (try dsimp only at hSw); go_simp; (try with_reducible rfl))
      (try simp only [Act.put, List.getElem_toArray, List.getElem_cons_succ, List.getElem_cons_zero, List.setIfInBounds_toArray, List.set_cons_zero, List.set_cons_succ])
      refine wpAnyH_take (i := 16) (v := ?vc16) rfl (by kernel_rfl) (by kernel_rfl) (by kernel_rfl) (fun _ _ _ h => h) (Or.inl ⟨by kernel_rfl, ?yc16⟩) (by assumption) ?rc16
      case yc16 => (intro wq hSw; (try dsimp only at hSw); go_simp; (try with_reducible rfl))
      (try simp only [Act.put, List.getElem_toArray, List.getElem_cons_succ, List.getElem_cons_zero, List.setIfInBounds_toArray, List.set_cons_zero, List.set_cons_succ])
      refine wpAnyH_done (by kernel_rfl) ?_ _
      refine NoPanic.normal ?_
      go_wp2_with fail
      refine bodyPost_ret (v := .tuple #[refV { R with last := id } (.slice p7 m7 c7), .int .i64 id, .int .i64 0]) (by simp [results, Tryz.results62, go_sem, z0, z1, z2, z3, z4, z5]) rfl ?_
      have hb := set6 (H7.out.2.2.2.on HB.out HB.out.size) (g := w.heap.size + 1 + 1) (by omega) (.int .i64 R.x) (.int .i64 R.y) (.int .i64 R.w) (.int .i64 R.h) (.int .i64 id) (.slice p7 m7 c7)
      exact ⟨_, rfl, row6 (OwK.less OF.out (Nat.zero_le _)) H7.out.2.2.1 (fun k hk => by have h1 := (World.ownsRow.lt OF.out k hk).1; have h2 := H3.out.2.2.1.lt; omega) _ _ _ _ _ _, hb⟩
    · go_simp
      have b9 := b4.alloc b4.size (.cells #[.int .i64 id, .int .i64 par, .int .i64 x, .int .i64 y, .int .i64 a, .int .i64 e, .bool false] 61)
      have o9 := own_one (v := ⟨id, par, x, y, a, e, false⟩) (Blk.new (w3.alloc (.cells #[] 61)) 61 #[.int .i64 id, .int .i64 par, .int .i64 x, .int .i64 y, .int .i64 a, .int .i64 e, .bool false])
      rw [World.size_alloc] at o9
      have e9 := World.ownsRow.alloc e4 (.cells #[.int .i64 id, .int .i64 par, .int .i64 x, .int .i64 y, .int .i64 a, .int .i64 e, .bool false] 61)
      refine hK.out _ _ (by exact HSS.out _ b9.drew) (fun hHeld => ?_)
      clear hK K
      (try simp only [Act.put, List.getElem_toArray, List.getElem_cons_succ, List.getElem_cons_zero, List.setIfInBounds_toArray, List.set_cons_zero, List.set_cons_succ])
      refine wpAnyH_ready (rs := [7]) (by kernel_rfl) (by simp) ?_
      refine AllReadyH.cons rfl (fun K hK => ?_) AllReadyH.nil
      refine step_app rfl (.tmp 34) (.tmp 36) 52 rfl w3.heap.size 61 i0 (.agg #[.int .i64 0, .int .i64 0, .int .i64 0, .int .i64 0, .int .i64 0, .int .i64 0, .bool false]) 7 56 Tryz.underlying52 hi0 hz0 hz1 hz2 rfl (by decide) _ _ _ (by rfl) (World.ownsRow.drew e9) _ _ _ _ (by rfl) (HFF.out _ b9.drew) (flatW_one _) (by unfold maxLen; have := HLN.out; simp; omega) (by have := HLN.out; simp; omega) b9.drew.size ?_
      intro v5 w5 ho5 hg5
      have OV : OwK encW 61 7 w5 w3.heap.size v5 L := by have h := ho5; rw [Nat.zero_add, List.nil_append] at h; exact h
      have b5 := below_only b9.drew hg5 b9.drew.size (fun k hk => (World.ownsRow.lt (World.ownsRow.drew e9) k hk).1)
      have o5 := OwK.grown (World.ownsRow.drew o9) hg5 (.inr (by simp [Value.ownBlock]))
      refine hK.out _ _ (by exact HSS.out _ b5) (fun hHeld => ?_)
      clear hK K
      (try simp only [Act.put, List.getElem_toArray, List.getElem_cons_succ, List.getElem_cons_zero, List.setIfInBounds_toArray, List.set_cons_zero, List.set_cons_succ])
      refine wpAnyH_ready (rs := [10]) (by kernel_rfl) (by simp) ?_
      refine AllReadyH.cons rfl (fun K hK => ?_) AllReadyH.nil
      refine step_app rfl (.tmp 37) (.tmp 39) 52 rfl w3.heap.size 61 i0 (.agg #[.int .i64 0, .int .i64 0, .int .i64 0, .int .i64 0, .int .i64 0, .int .i64 0, .bool false]) 7 56 Tryz.underlying52 hi0 hz0 hz1 hz2 rfl (by decide) _ _ _ (by rfl) OV _ _ _ _ (by rfl) o5 (flatW_one _) (by unfold maxLen; have := HLN.out; simp; omega) (by have := HLN.out; simp; omega) b5.size ?_
      intro v7 w7 ho7 hg7
      have of7 := OwK.app (L := L) (M := [⟨id, par, x, y, a, e, false⟩]) ho7
      obtain ⟨p7, m7, c7, rfl⟩ := own_sl of7
      have OF := Lib.hid of7
      have b7 := below_only b5 hg7 b5.size (fun k hk => (World.ownsRow.lt OV k hk).1)
      have H7 := Lib.hid (H3.out.next b7)
      have B7 := Lib.hid b7
      refine hK.out _ _ (by exact HSS.out _ b7) (fun hHeld => ?_)
      clear hK K
      (try simp only [Act.put, List.getElem_toArray, List.getElem_cons_succ, List.getElem_cons_zero, List.setIfInBounds_toArray, List.set_cons_zero, List.set_cons_succ])
      clear b7 ho7 hg7 of7
      refine wpAnyH_take (i := 11) (v := ?vd11) rfl (by kernel_rfl) (by kernel_rfl) (by kernel_rfl) (fun _ _ _ h => h) (Or.inl ⟨by kernel_rfl, ?yd11⟩) (by assumption) ?rd11
      case yd11 => (intro wq hSw; (try dsimp only at hSw); go_simp; (try with_reducible rfl))
      (try simp only [Act.put, List.getElem_toArray, List.getElem_cons_succ, List.getElem_cons_zero, List.setIfInBounds_toArray, List.set_cons_zero, List.set_cons_succ])
      obtain ⟨⟨z0, z1, z2, z3, z4, z5⟩, ⟨f0, f1, f2, f3, f4, f5⟩⟩ := H7.out.2.2.1.at6
      refine wpAnyH_ready (rs := [14]) (by kernel_rfl) (by simp) ?_
      refine AllReadyH.cons rfl (fun K hK => ?_) AllReadyH.nil
      go_simp
      refine hK.out _ _ (by exact HS6.out _ B7.out _ _ _ _ _ _) (fun hHeld => ?_)
      clear hK K
      (try simp only [Act.put, List.getElem_toArray, List.getElem_cons_succ, List.getElem_cons_zero, List.setIfInBounds_toArray, List.set_cons_zero, List.set_cons_succ])
      refine wpAnyH_take (i := 15) (v := ?vd15) rfl (by kernel_rfl) (by kernel_rfl) (by kernel_rfl) (fun _ _ _ h => h) (Or.inl ⟨by kernel_rfl, ?yd15⟩) (by assumption) ?rd15
      case yd15 => (intro wq hSw; (try dsimp only at hSw); go_simp; (try with_reducible rfl))
      (try simp only [Act.put, List.getElem_toArray, List.getElem_cons_succ, List.getElem_cons_zero, List.setIfInBounds_toArray, List.set_cons_zero, List.set_cons_succ])
      refine wpAnyH_take (i := 16) (v := ?vd16) rfl (by kernel_rfl) (by kernel_rfl) (by kernel_rfl) (fun _ _ _ h => h) (Or.inl ⟨by kernel_rfl, ?yd16⟩) (by assumption) ?rd16
      case yd16 => (intro wq hSw; (try dsimp only at hSw); go_simp; (try with_reducible rfl))
      (try simp only [Act.put, List.getElem_toArray, List.getElem_cons_succ, List.getElem_cons_zero, List.setIfInBounds_toArray, List.set_cons_zero, List.set_cons_succ])
      refine wpAnyH_done (by kernel_rfl) ?_ _
      refine NoPanic.normal ?_
      go_wp2_with fail
      refine bodyPost_ret (v := .tuple #[refV { R with last := id } (.slice p7 m7 c7), .int .i64 id, .int .i64 0]) (by simp [results, Tryz.results62, go_sem, z0, z1, z2, z3, z4, z5]) rfl ?_
      have hb := set6 (H7.out.2.2.2.on HB.out HB.out.size) (g := w.heap.size + 1 + 1) (by omega) (.int .i64 R.x) (.int .i64 R.y) (.int .i64 R.w) (.int .i64 R.h) (.int .i64 id) (.slice p7 m7 c7)
      exact ⟨_, rfl, row6 (OwK.less OF.out (Nat.zero_le _)) H7.out.2.2.1 (fun k hk => by have h1 := (World.ownsRow.lt OF.out k hk).1; have h2 := H3.out.2.2.1.lt; omega) _ _ _ _ _ _, hb⟩
  · go_simp
    have b9 := (Below.refl w3.heap.size w3).alloc (Below.refl w3.heap.size w3).size (.cells #[.int .i64 id, .int .i64 par, .int .i64 x, .int .i64 y, .int .i64 a, .int .i64 e, .bool false] 61)
    have o9 := own_one (v := ⟨id, par, x, y, a, e, false⟩) (Blk.new w3 61 #[.int .i64 id, .int .i64 par, .int .i64 x, .int .i64 y, .int .i64 a, .int .i64 e, .bool false])
    refine hK.out _ _ (by exact HSS.out _ b9.drew) (fun hHeld => ?_)
    clear hK K
    (try simp only [Act.put, List.getElem_toArray, List.getElem_cons_succ, List.getElem_cons_zero, List.setIfInBounds_toArray, List.set_cons_zero, List.set_cons_succ])
    refine wpAnyH_ready (rs := [4]) (by kernel_rfl) (by simp) ?_
    refine AllReadyH.cons rfl (fun K hK => ?_) AllReadyH.nil
    go_simp
    have b4 := b9.alloc b9.size (.cells #[] 61)
    have e4 := own_zero (Blk.new (w3.alloc (.cells #[.int .i64 id, .int .i64 par, .int .i64 x, .int .i64 y, .int .i64 a, .int .i64 e, .bool false] 61)) 61 #[]) b9.size
    rw [World.size_alloc] at e4
    have o4 := World.ownsRow.alloc o9 (.cells #[] 61)
    refine hK.out _ _ (by exact HSS.out _ b4.drew) (fun hHeld => ?_)
    clear hK K
    (try simp only [Act.put, List.getElem_toArray, List.getElem_cons_succ, List.getElem_cons_zero, List.setIfInBounds_toArray, List.set_cons_zero, List.set_cons_succ])
    refine wpAnyH_ready (rs := [7]) (by kernel_rfl) (by simp) ?_
    refine AllReadyH.cons rfl (fun K hK => ?_) AllReadyH.nil
    refine step_app rfl (.tmp 34) (.tmp 36) 52 rfl w3.heap.size 61 i0 (.agg #[.int .i64 0, .int .i64 0, .int .i64 0, .int .i64 0, .int .i64 0, .int .i64 0, .bool false]) 7 56 Tryz.underlying52 hi0 hz0 hz1 hz2 rfl (by decide) _ _ _ (by rfl) (World.ownsRow.drew e4) _ _ _ _ (by rfl) (HFF.out _ b4.drew) (flatW_one _) (by unfold maxLen; have := HLN.out; simp; omega) (by have := HLN.out; simp; omega) b4.drew.size ?_
    intro v5 w5 ho5 hg5
    have OV : OwK encW 61 7 w5 w3.heap.size v5 L := by have h := ho5; rw [Nat.zero_add, List.nil_append] at h; exact h
    have b5 := below_only b4.drew hg5 b4.drew.size (fun k hk => (World.ownsRow.lt (World.ownsRow.drew e4) k hk).1)
    have o5 := OwK.grown (World.ownsRow.drew o4) hg5 (.inr (by simp [Value.ownBlock]))
    refine hK.out _ _ (by exact HSS.out _ b5) (fun hHeld => ?_)
    clear hK K
    (try simp only [Act.put, List.getElem_toArray, List.getElem_cons_succ, List.getElem_cons_zero, List.setIfInBounds_toArray, List.set_cons_zero, List.set_cons_succ])
    refine wpAnyH_ready (rs := [10]) (by kernel_rfl) (by simp) ?_
    refine AllReadyH.cons rfl (fun K hK => ?_) AllReadyH.nil
    refine step_app rfl (.tmp 37) (.tmp 39) 52 rfl w3.heap.size 61 i0 (.agg #[.int .i64 0, .int .i64 0, .int .i64 0, .int .i64 0, .int .i64 0, .int .i64 0, .bool false]) 7 56 Tryz.underlying52 hi0 hz0 hz1 hz2 rfl (by decide) _ _ _ (by rfl) OV _ _ _ _ (by rfl) o5 (flatW_one _) (by unfold maxLen; have := HLN.out; simp; omega) (by have := HLN.out; simp; omega) b5.size ?_
    intro v7 w7 ho7 hg7
    have of7 := OwK.app (L := L) (M := [⟨id, par, x, y, a, e, false⟩]) ho7
    obtain ⟨p7, m7, c7, rfl⟩ := own_sl of7
    have OF := Lib.hid of7
    have b7 := below_only b5 hg7 b5.size (fun k hk => (World.ownsRow.lt OV k hk).1)
    have H7 := Lib.hid (H3.out.next b7)
    have B7 := Lib.hid b7
    refine hK.out _ _ (by exact HSS.out _ b7) (fun hHeld => ?_)
    clear hK K
    (try simp only [Act.put, List.getElem_toArray, List.getElem_cons_succ, List.getElem_cons_zero, List.setIfInBounds_toArray, List.set_cons_zero, List.set_cons_succ])
    clear b7 ho7 hg7 of7
    refine wpAnyH_take (i := 11) (v := ?ve11) rfl (by kernel_rfl) (by kernel_rfl) (by kernel_rfl) (fun _ _ _ h => h) (Or.inl ⟨by kernel_rfl, ?ye11⟩) (by assumption) ?re11
    case ye11 => (intro wq hSw; (try dsimp only at hSw); go_simp; (try with_reducible rfl))
    (try simp only [Act.put, List.getElem_toArray, List.getElem_cons_succ, List.getElem_cons_zero, List.setIfInBounds_toArray, List.set_cons_zero, List.set_cons_succ])
    obtain ⟨⟨z0, z1, z2, z3, z4, z5⟩, ⟨f0, f1, f2, f3, f4, f5⟩⟩ := H7.out.2.2.1.at6
    refine wpAnyH_ready (rs := [14]) (by kernel_rfl) (by simp) ?_
    refine AllReadyH.cons rfl (fun K hK => ?_) AllReadyH.nil
    go_simp
    refine hK.out _ _ (by exact HS6.out _ B7.out _ _ _ _ _ _) (fun hHeld => ?_)
    clear hK K
    (try simp only [Act.put, List.getElem_toArray, List.getElem_cons_succ, List.getElem_cons_zero, List.setIfInBounds_toArray, List.set_cons_zero, List.set_cons_succ])
    refine wpAnyH_take (i := 15) (v := ?ve15) rfl (by kernel_rfl) (by kernel_rfl) (by kernel_rfl) (fun _ _ _ h => h) (Or.inl ⟨by kernel_rfl, ?ye15⟩) (by assumption) ?re15
    case ye15 => (intro wq hSw; (try dsimp only at hSw); go_simp; (try with_reducible rfl))
    (try simp only [Act.put, List.getElem_toArray, List.getElem_cons_succ, List.getElem_cons_zero, List.setIfInBounds_toArray, List.set_cons_zero, List.set_cons_succ])
    refine wpAnyH_take (i := 16) (v := ?ve16) rfl (by kernel_rfl) (by kernel_rfl) (by kernel_rfl) (fun _ _ _ h => h) (Or.inl ⟨by kernel_rfl, ?ye16⟩) (by assumption) ?re16
    case ye16 => (intro wq hSw; (try dsimp only at hSw); go_simp; (try with_reducible rfl))
    (try simp only [Act.put, List.getElem_toArray, List.getElem_cons_succ, List.getElem_cons_zero, List.setIfInBounds_toArray, List.set_cons_zero, List.set_cons_succ])
    refine wpAnyH_done (by kernel_rfl) ?_ _
    refine NoPanic.normal ?_
    go_wp2_with fail
    refine bodyPost_ret (v := .tuple #[refV { R with last := id } (.slice p7 m7 c7), .int .i64 id, .int .i64 0]) (by simp [results, Tryz.results62, go_sem, z0, z1, z2, z3, z4, z5]) rfl ?_
    have hb := set6 (H7.out.2.2.2.on HB.out HB.out.size) (g := w.heap.size + 1 + 1) (by omega) (.int .i64 R.x) (.int .i64 R.y) (.int .i64 R.w) (.int .i64 R.h) (.int .i64 id) (.slice p7 m7 c7)
    exact ⟨_, rfl, row6 (OwK.less OF.out (Nat.zero_le _)) H7.out.2.2.1 (fun k hk => by have h1 := (World.ownsRow.lt OF.out k hk).1; have h2 := H3.out.2.2.1.lt; omega) _ _ _ _ _ _, hb⟩
end
end Go.Proofs.YtfdgpbdppenhmaaGreat
end
