/- The order of things, as a closure tells it. -/
import Derived.Test.YtgioeijdgoogkaaOdH
namespace Go.Proofs.Ytgioeijdgoogkaa.Od
open Go.RowKit Go.Maps
def cfc (l : List It) (c d : Int) : Int := orL [cmpI (bd l c) (bd l d), cmpI (it l c).r (it l d).r, ageI (it l c) (it l d)]
theorem lt_iff {l : List It} {c d : Int} : LT l c d ↔ (bd l c < bd l d ∨ (bd l c = bd l d ∧ ((it l c).r < (it l d).r ∨ ((it l c).r = (it l d).r ∧ ((it l c).n < (it l d).n ∨ ((it l d).n = (it l c).n ∧ (it l c).c < (it l d).c)))))) := by
  unfold LT yc
  rw [yg_iff]
theorem age_neg (a b : It) : ageI a b < 0 ↔ (a.n < b.n ∨ (b.n = a.n ∧ a.c < b.c)) := by
  unfold ageI cmpI orL orL orL
  by_cases h1 : a.n < b.n
  · rw [if_pos h1]; simp; omega
  · rw [if_neg h1]
    by_cases h2 : b.n < a.n
    · rw [if_pos h2]; simp; omega
    · rw [if_neg h2]
      by_cases h3 : a.c < b.c
      · rw [if_pos h3]; simp; omega
      · rw [if_neg h3]
        by_cases h4 : b.c < a.c
        · rw [if_pos h4]; simp; omega
        · rw [if_neg h4]; simp; omega
theorem cfc_neg (l : List It) (c d : Int) : cfc l c d < 0 ↔ LT l c d := by
  rw [lt_iff]
  unfold cfc
  have hag : orL [cmpI (bd l c) (bd l d), cmpI (it l c).r (it l d).r, ageI (it l c) (it l d)] = if cmpI (bd l c) (bd l d) = 0 then (if cmpI (it l c).r (it l d).r = 0 then (if ageI (it l c) (it l d) = 0 then 0 else ageI (it l c) (it l d)) else cmpI (it l c).r (it l d).r) else cmpI (bd l c) (bd l d) := rfl
  rw [hag]
  have ha := age_neg (it l c) (it l d)
  generalize ageI (it l c) (it l d) = ag at ha ⊢
  unfold cmpI
  by_cases h1 : bd l c < bd l d
  · rw [if_pos h1]; simp; omega
  · rw [if_neg h1]
    by_cases h2 : bd l d < bd l c
    · rw [if_pos h2]; simp; omega
    · rw [if_neg h2, if_pos rfl]
      by_cases h3 : (it l c).r < (it l d).r
      · rw [if_pos h3]; simp; omega
      · rw [if_neg h3]
        by_cases h4 : (it l d).r < (it l c).r
        · rw [if_pos h4]; simp; omega
        · rw [if_neg h4, if_pos rfl]
          by_cases h5 : ag = 0
          · rw [if_pos h5]; omega
          · rw [if_neg h5]; omega
set_option maxHeartbeats 4000000 in
set_option maxRecDepth 100000 in
theorem lower_c (l : List It) (b o n c gb gB gl c2 i j : Nat) (x y : It) (w : World) (hd : Dis l) (hln : n = l.length) (hR : RdB w b o l) (hQ : Blk w gB 3 (arrI (l.map fun x => bd l x.c))) (h1 : Blk w gb 27 #[.slice (some ⟨gB, 0, none⟩) n c2]) (h2 : Blk w gl 22 #[.slice (some ⟨b, o, none⟩) n c]) (hx : l[i]? = some x) (hy : l[j]? = some y) :
    Calls Try.prog 37 #[.int .i64 i, .int .i64 j, .pointer (some ⟨gb, 0, none⟩), .pointer (some ⟨gl, 0, none⟩)] w fun e w' => e = .returned (.int .i64 (cfc l x.c y.c)) ∧ Gr w w' := by
  have hi0 : (0 : Int) ≤ (i : Int) := by omega
  have hi1 : (i : Int) < (n : Int) := by have := (List.getElem?_eq_some_iff.1 hx).1; omega
  have hj0 : (0 : Int) ≤ (j : Int) := by omega
  have hj1 : (j : Int) < (n : Int) := by have := (List.getElem?_eq_some_iff.1 hy).1; omega
  have HC := Lib.hid (fun x y W => cmpare_c x y W)
  have HA := Lib.hid (fun W => age_c x y W)
  have HO := Lib.hid (fun g n T zs W h1 h2 h3 => or_c g n T zs W h1 h2 h3)
  have HQ : Hid (∀ (W : World) (x y z : Int), Blk (W.alloc (.cells #[.int .i64 x, .int .i64 y, .int .i64 z] 3)) W.heap.size 3 (arrI [x, y, z])) := fun W x y z => Blk.new _ _ _
  have hbx : (l.map fun x => bd l x.c)[i]? = some (bd l x.c) := by rw [List.getElem?_map, hx]; rfl
  have hby : (l.map fun x => bd l x.c)[j]? = some (bd l y.c) := by rw [List.getElem?_map, hy]; rfl
  have HR := Lib.hid (show cfc l x.c y.c = orL [cmpI (bd l x.c) (bd l y.c), cmpI x.r y.r, ageI x y] by unfold cfc; rw [hd.it (List.mem_of_getElem? hx), hd.it (List.mem_of_getElem? hy)])
  obtain ⟨bx, hbx'⟩ : ∃ z, z = bd l x.c := ⟨_, rfl⟩
  obtain ⟨bby, hby'⟩ : ∃ z, z = bd l y.c := ⟨_, rfl⟩
  rw [← hbx'] at hbx HR
  rw [← hby'] at hby HR
  have HSS : Hid (∀ W, Below w.heap.size w W → W.cell? ⟨gb, 0, none⟩ = some (.slice (some ⟨gB, 0, none⟩) n c2) ∧ W.cell? ⟨gl, 0, none⟩ = some (.slice (some ⟨b, o, none⟩) n c) ∧ W.cell? ⟨gB, i, none⟩ = some (.int .i64 bx) ∧ W.cell? ⟨gB, j, none⟩ = some (.int .i64 bby) ∧ (W.cell? ⟨b, o + i * 6, none⟩ = some (.int .i64 x.c) ∧ W.cell? ⟨b, o + i * 6 + 1, none⟩ = some (.int .i64 x.b) ∧ W.cell? ⟨b, o + i * 6 + 2, none⟩ = some (.int .i64 x.o) ∧ W.cell? ⟨b, o + i * 6 + 3, none⟩ = some (.bool x.m) ∧ W.cell? ⟨b, o + i * 6 + 4, none⟩ = some (.int .i64 x.r) ∧ W.cell? ⟨b, o + i * 6 + 5, none⟩ = some (.int .i64 x.n)) ∧ (W.cell? ⟨b, o + j * 6, none⟩ = some (.int .i64 y.c) ∧ W.cell? ⟨b, o + j * 6 + 1, none⟩ = some (.int .i64 y.b) ∧ W.cell? ⟨b, o + j * 6 + 2, none⟩ = some (.int .i64 y.o) ∧ W.cell? ⟨b, o + j * 6 + 3, none⟩ = some (.bool y.m) ∧ W.cell? ⟨b, o + j * 6 + 4, none⟩ = some (.int .i64 y.r) ∧ W.cell? ⟨b, o + j * 6 + 5, none⟩ = some (.int .i64 y.n))) := fun W h =>
    ⟨(h1.next h).at_ (i := 0) rfl, (h2.next h).at_ (i := 0) rfl, (hQ.next h).at_ (arrI_at hbx), (hQ.next h).at_ (arrI_at hby), (hR.below h).get hx, (hR.below h).get hy⟩
  have HB0 := Lib.hid (Below.refl w.heap.size w).drew
  have HG0 := Lib.hid (Gr.refl w).drew
  obtain ⟨ag, hag⟩ : ∃ z, z = ageI x y := ⟨_, rfl⟩
  rw [← hag] at HA HR
  clear h1 h2 hQ hR hx hy hbx hby hbx' hby' hag hln
  go_enter Try.func37, Try.ntmps37
  go_upto_region 1 with fail
  refine wp_region_noPanic ?_
  refine wp_region_held_drew (S := fun wx => wx.cell? ⟨gb, 0, none⟩ = some (.slice (some ⟨gB, 0, none⟩) n c2) ∧ wx.cell? ⟨gl, 0, none⟩ = some (.slice (some ⟨b, o, none⟩) n c) ∧ wx.cell? ⟨gB, i, none⟩ = some (.int .i64 bx) ∧ wx.cell? ⟨gB, j, none⟩ = some (.int .i64 bby) ∧ (wx.cell? ⟨b, o + i * 6, none⟩ = some (.int .i64 x.c) ∧ wx.cell? ⟨b, o + i * 6 + 1, none⟩ = some (.int .i64 x.b) ∧ wx.cell? ⟨b, o + i * 6 + 2, none⟩ = some (.int .i64 x.o) ∧ wx.cell? ⟨b, o + i * 6 + 3, none⟩ = some (.bool x.m) ∧ wx.cell? ⟨b, o + i * 6 + 4, none⟩ = some (.int .i64 x.r) ∧ wx.cell? ⟨b, o + i * 6 + 5, none⟩ = some (.int .i64 x.n)) ∧ (wx.cell? ⟨b, o + j * 6, none⟩ = some (.int .i64 y.c) ∧ wx.cell? ⟨b, o + j * 6 + 1, none⟩ = some (.int .i64 y.b) ∧ wx.cell? ⟨b, o + j * 6 + 2, none⟩ = some (.int .i64 y.o) ∧ wx.cell? ⟨b, o + j * 6 + 3, none⟩ = some (.bool y.m) ∧ wx.cell? ⟨b, o + j * 6 + 4, none⟩ = some (.int .i64 y.r) ∧ wx.cell? ⟨b, o + j * 6 + 5, none⟩ = some (.int .i64 y.n))) (by kernel_rfl) (by exact HSS.out _ HB0.out) (fun hHeld => ?_)
  refine wpAnyH_take (i := 0) (v := ?v0) rfl (by kernel_rfl) (by kernel_rfl) (by kernel_rfl) (fun _ _ _ h => h) (Or.inl ⟨by kernel_rfl, ?y0⟩) (by assumption) ?r0
  case y0 => (intro wq hSw; (try dsimp only at hSw); go_simp; (try with_reducible rfl))
  (try simp only [Act.put, List.getElem_toArray, List.getElem_cons_zero, List.setIfInBounds_toArray, List.set_cons_zero, List.set_cons_succ])
  refine wpAnyH_take (i := 1) (v := ?v1) rfl (by kernel_rfl) (by kernel_rfl) (by kernel_rfl) (fun _ _ _ h => h) (Or.inl ⟨by kernel_rfl, ?y1⟩) (by assumption) ?r1
  case y1 => (intro wq hSw; (try dsimp only at hSw); go_simp; (try with_reducible rfl))
  (try simp only [Act.put, List.getElem_toArray, List.getElem_cons_succ, List.getElem_cons_zero, List.setIfInBounds_toArray, List.set_cons_zero, List.set_cons_succ])
  refine wpAnyH_take (i := 2) (v := ?v2) rfl (by kernel_rfl) (by kernel_rfl) (by kernel_rfl) (fun _ _ _ h => h) (Or.inl ⟨by kernel_rfl, ?y2⟩) (by assumption) ?r2
  case y2 => (intro wq hSw; (try dsimp only at hSw); go_simp; (try with_reducible rfl))
  (try simp only [Act.put, List.getElem_toArray, List.getElem_cons_succ, List.getElem_cons_zero, List.setIfInBounds_toArray, List.set_cons_zero, List.set_cons_succ])
  refine wpAnyH_take (i := 3) (v := ?v3) rfl (by kernel_rfl) (by kernel_rfl) (by kernel_rfl) (fun _ _ _ h => h) (Or.inl ⟨by kernel_rfl, ?y3⟩) (by assumption) ?r3
  case y3 => (intro wq hSw; (try dsimp only at hSw); go_simp; (try with_reducible rfl))
  (try simp only [Act.put, List.getElem_toArray, List.getElem_cons_succ, List.getElem_cons_zero, List.setIfInBounds_toArray, List.set_cons_zero, List.set_cons_succ])
  refine wpAnyH_take (i := 4) (v := ?v4) rfl (by kernel_rfl) (by kernel_rfl) (by kernel_rfl) (fun _ _ _ h => h) (Or.inl ⟨by kernel_rfl, ?y4⟩) (by assumption) ?r4
  case y4 => (intro wq hSw; (try dsimp only at hSw); go_simp; (try with_reducible rfl))
  (try simp only [Act.put, List.getElem_toArray, List.getElem_cons_succ, List.getElem_cons_zero, List.setIfInBounds_toArray, List.set_cons_zero, List.set_cons_succ])
  refine wpAnyH_take (i := 5) (v := ?v5) rfl (by kernel_rfl) (by kernel_rfl) (by kernel_rfl) (fun _ _ _ h => h) (Or.inl ⟨by kernel_rfl, ?y5⟩) (by assumption) ?r5
  case y5 => (intro wq hSw; (try dsimp only at hSw); go_simp; (try with_reducible rfl))
  (try simp only [Act.put, List.getElem_toArray, List.getElem_cons_succ, List.getElem_cons_zero, List.setIfInBounds_toArray, List.set_cons_zero, List.set_cons_succ])
  refine wpAnyH_take (i := 6) (v := ?v6) rfl (by kernel_rfl) (by kernel_rfl) (by kernel_rfl) (fun _ _ _ h => h) (Or.inl ⟨by kernel_rfl, ?y6⟩) (by assumption) ?r6
  case y6 => (intro wq hSw; (try dsimp only at hSw); go_simp; (try with_reducible rfl))
  (try simp only [Act.put, List.getElem_toArray, List.getElem_cons_succ, List.getElem_cons_zero, List.setIfInBounds_toArray, List.set_cons_zero, List.set_cons_succ])
  refine wpAnyH_take (i := 7) (v := ?v7) rfl (by kernel_rfl) (by kernel_rfl) (by kernel_rfl) (fun _ _ _ h => h) (Or.inl ⟨by kernel_rfl, ?y7⟩) (by assumption) ?r7
  case y7 => (intro wq hSw; (try dsimp only at hSw); go_simp; (try with_reducible rfl))
  (try simp only [Act.put, List.getElem_toArray, List.getElem_cons_succ, List.getElem_cons_zero, List.setIfInBounds_toArray, List.set_cons_zero, List.set_cons_succ])
  refine wpAnyH_take (i := 9) (v := ?v9) rfl (by kernel_rfl) (by kernel_rfl) (by kernel_rfl) (fun _ _ _ h => h) (Or.inl ⟨by kernel_rfl, ?y9⟩) (by assumption) ?r9
  case y9 => (intro wq hSw; (try dsimp only at hSw); go_simp; (try with_reducible rfl))
  (try simp only [Act.put, List.getElem_toArray, List.getElem_cons_succ, List.getElem_cons_zero, List.setIfInBounds_toArray, List.set_cons_zero, List.set_cons_succ])
  refine wpAnyH_take (i := 10) (v := ?v10) rfl (by kernel_rfl) (by kernel_rfl) (by kernel_rfl) (fun _ _ _ h => h) (Or.inl ⟨by kernel_rfl, ?y10⟩) (by assumption) ?r10
  case y10 => (intro wq hSw; (try dsimp only at hSw); go_simp; (try with_reducible rfl))
  (try simp only [Act.put, List.getElem_toArray, List.getElem_cons_succ, List.getElem_cons_zero, List.setIfInBounds_toArray, List.set_cons_zero, List.set_cons_succ])
  refine wpAnyH_take (i := 11) (v := ?v11) rfl (by kernel_rfl) (by kernel_rfl) (by kernel_rfl) (fun _ _ _ h => h) (Or.inl ⟨by kernel_rfl, ?y11⟩) (by assumption) ?r11
  case y11 => (intro wq hSw; (try dsimp only at hSw); go_simp; (try with_reducible rfl))
  (try simp only [Act.put, List.getElem_toArray, List.getElem_cons_succ, List.getElem_cons_zero, List.setIfInBounds_toArray, List.set_cons_zero, List.set_cons_succ])
  refine wpAnyH_take (i := 12) (v := ?v12) rfl (by kernel_rfl) (by kernel_rfl) (by kernel_rfl) (fun _ _ _ h => h) (Or.inl ⟨by kernel_rfl, ?y12⟩) (by assumption) ?r12
  case y12 => (intro wq hSw; (try dsimp only at hSw); go_simp; (try with_reducible rfl))
  (try simp only [Act.put, List.getElem_toArray, List.getElem_cons_succ, List.getElem_cons_zero, List.setIfInBounds_toArray, List.set_cons_zero, List.set_cons_succ])
  refine wpAnyH_take (i := 13) (v := ?v13) rfl (by kernel_rfl) (by kernel_rfl) (by kernel_rfl) (fun _ _ _ h => h) (Or.inl ⟨by kernel_rfl, ?y13⟩) (by assumption) ?r13
  case y13 => (intro wq hSw; (try dsimp only at hSw); go_simp; (try with_reducible rfl))
  (try simp only [Act.put, List.getElem_toArray, List.getElem_cons_succ, List.getElem_cons_zero, List.setIfInBounds_toArray, List.set_cons_zero, List.set_cons_succ])
  refine wpAnyH_take (i := 14) (v := ?v14) rfl (by kernel_rfl) (by kernel_rfl) (by kernel_rfl) (fun _ _ _ h => h) (Or.inl ⟨by kernel_rfl, ?y14⟩) (by assumption) ?r14
  case y14 => (intro wq hSw; (try dsimp only at hSw); go_simp; (try with_reducible rfl))
  (try simp only [Act.put, List.getElem_toArray, List.getElem_cons_succ, List.getElem_cons_zero, List.setIfInBounds_toArray, List.set_cons_zero, List.set_cons_succ])
  refine wpAnyH_take (i := 15) (v := ?v15) rfl (by kernel_rfl) (by kernel_rfl) (by kernel_rfl) (fun _ _ _ h => h) (Or.inl ⟨by kernel_rfl, ?y15⟩) (by assumption) ?r15
  case y15 => (intro wq hSw; (try dsimp only at hSw); go_simp; (try with_reducible rfl))
  (try simp only [Act.put, List.getElem_toArray, List.getElem_cons_succ, List.getElem_cons_zero, List.setIfInBounds_toArray, List.set_cons_zero, List.set_cons_succ])
  refine wpAnyH_take (i := 16) (v := ?v16) rfl (by kernel_rfl) (by kernel_rfl) (by kernel_rfl) (fun _ _ _ h => h) (Or.inl ⟨by kernel_rfl, ?y16⟩) (by assumption) ?r16
  case y16 => (intro wq hSw; (try dsimp only at hSw); go_simp; (try with_reducible rfl))
  (try simp only [Act.put, List.getElem_toArray, List.getElem_cons_succ, List.getElem_cons_zero, List.setIfInBounds_toArray, List.set_cons_zero, List.set_cons_succ])
  refine wpAnyH_take (i := 17) (v := ?v17) rfl (by kernel_rfl) (by kernel_rfl) (by kernel_rfl) (fun _ _ _ h => h) (Or.inl ⟨by kernel_rfl, ?y17⟩) (by assumption) ?r17
  case y17 => (intro wq hSw; (try dsimp only at hSw); go_simp; (try with_reducible rfl))
  (try simp only [Act.put, List.getElem_toArray, List.getElem_cons_succ, List.getElem_cons_zero, List.setIfInBounds_toArray, List.set_cons_zero, List.set_cons_succ])
  refine wpAnyH_take (i := 18) (v := ?v18) rfl (by kernel_rfl) (by kernel_rfl) (by kernel_rfl) (fun _ _ _ h => h) (Or.inl ⟨by kernel_rfl, ?y18⟩) (by assumption) ?r18
  case y18 => (intro wq hSw; (try dsimp only at hSw); go_simp; (try with_reducible rfl))
  (try simp only [Act.put, List.getElem_toArray, List.getElem_cons_succ, List.getElem_cons_zero, List.setIfInBounds_toArray, List.set_cons_zero, List.set_cons_succ])
  refine wpAnyH_take (i := 20) (v := ?v20) rfl (by kernel_rfl) (by kernel_rfl) (by kernel_rfl) (fun _ _ _ h => h) (Or.inl ⟨by kernel_rfl, ?y20⟩) (by assumption) ?r20
  case y20 => (intro wq hSw; (try dsimp only at hSw); go_simp; (try with_reducible rfl))
  (try simp only [Act.put, List.getElem_toArray, List.getElem_cons_succ, List.getElem_cons_zero, List.setIfInBounds_toArray, List.set_cons_zero, List.set_cons_succ])
  refine wpAnyH_take (i := 21) (v := ?v21) rfl (by kernel_rfl) (by kernel_rfl) (by kernel_rfl) (fun _ _ _ h => h) (Or.inl ⟨by kernel_rfl, ?y21⟩) (by assumption) ?r21
  case y21 => (intro wq hSw; (try dsimp only at hSw); go_simp; (try with_reducible rfl))
  (try simp only [Act.put, List.getElem_toArray, List.getElem_cons_succ, List.getElem_cons_zero, List.setIfInBounds_toArray, List.set_cons_zero, List.set_cons_succ])
  refine wpAnyH_take (i := 22) (v := ?v22) rfl (by kernel_rfl) (by kernel_rfl) (by kernel_rfl) (fun _ _ _ h => h) (Or.inl ⟨by kernel_rfl, ?y22⟩) (by assumption) ?r22
  case y22 => (intro wq hSw; (try dsimp only at hSw); go_simp; (try with_reducible rfl))
  (try simp only [Act.put, List.getElem_toArray, List.getElem_cons_succ, List.getElem_cons_zero, List.setIfInBounds_toArray, List.set_cons_zero, List.set_cons_succ])
  refine wpAnyH_take (i := 23) (v := ?v23) rfl (by kernel_rfl) (by kernel_rfl) (by kernel_rfl) (fun _ _ _ h => h) (Or.inl ⟨by kernel_rfl, ?y23⟩) (by assumption) ?r23
  case y23 => (intro wq hSw; (try dsimp only at hSw); go_simp; (try with_reducible rfl))
  (try simp only [Act.put, List.getElem_toArray, List.getElem_cons_succ, List.getElem_cons_zero, List.setIfInBounds_toArray, List.set_cons_zero, List.set_cons_succ])
  refine wpAnyH_take (i := 24) (v := ?v24) rfl (by kernel_rfl) (by kernel_rfl) (by kernel_rfl) (fun _ _ _ h => h) (Or.inl ⟨by kernel_rfl, ?y24⟩) (by assumption) ?r24
  case y24 => (intro wq hSw; (try dsimp only at hSw); go_simp; (try with_reducible rfl))
  (try simp only [Act.put, List.getElem_toArray, List.getElem_cons_succ, List.getElem_cons_zero, List.setIfInBounds_toArray, List.set_cons_zero, List.set_cons_succ])
  refine wpAnyH_take (i := 25) (v := ?v25) rfl (by kernel_rfl) (by kernel_rfl) (by kernel_rfl) (fun _ _ _ h => h) (Or.inl ⟨by kernel_rfl, ?y25⟩) (by assumption) ?r25
  case y25 => (intro wq hSw; (try dsimp only at hSw); go_simp; (try with_reducible rfl))
  (try simp only [Act.put, List.getElem_toArray, List.getElem_cons_succ, List.getElem_cons_zero, List.setIfInBounds_toArray, List.set_cons_zero, List.set_cons_succ])
  refine wpAnyH_take (i := 26) (v := ?v26) rfl (by kernel_rfl) (by kernel_rfl) (by kernel_rfl) (fun _ _ _ h => h) (Or.inl ⟨by kernel_rfl, ?y26⟩) (by assumption) ?r26
  case y26 => (intro wq hSw; (try dsimp only at hSw); go_simp; (try with_reducible rfl))
  (try simp only [Act.put, List.getElem_toArray, List.getElem_cons_succ, List.getElem_cons_zero, List.setIfInBounds_toArray, List.set_cons_zero, List.set_cons_succ])
  refine wpAnyH_take (i := 27) (v := ?v27) rfl (by kernel_rfl) (by kernel_rfl) (by kernel_rfl) (fun _ _ _ h => h) (Or.inl ⟨by kernel_rfl, ?y27⟩) (by assumption) ?r27
  case y27 => (intro wq hSw; (try dsimp only at hSw); go_simp; (try with_reducible rfl))
  (try simp only [Act.put, List.getElem_toArray, List.getElem_cons_succ, List.getElem_cons_zero, List.setIfInBounds_toArray, List.set_cons_zero, List.set_cons_succ])
  refine wpAnyH_ready (rs := [8]) (by kernel_rfl) (by simp) ?_
  refine AllReadyH.cons rfl (fun K hK => ?_) AllReadyH.nil
  go_simp
  refine (HC.out _ _ _).mono ?_
  rintro e w1 ⟨rfl, rfl⟩
  (try dsimp only)
  refine hK.out _ _ (by exact HSS.out _ HB0.out) (fun hHeld => ?_)
  clear hK K
  (try simp only [Act.put, List.getElem_toArray, List.getElem_cons_succ, List.getElem_cons_zero, List.setIfInBounds_toArray, List.set_cons_zero, List.set_cons_succ])
  refine wpAnyH_ready (rs := [19]) (by kernel_rfl) (by simp) ?_
  refine AllReadyH.cons rfl (fun K hK => ?_) AllReadyH.nil
  go_simp
  refine (HC.out _ _ _).mono ?_
  rintro e w1 ⟨rfl, rfl⟩
  (try dsimp only)
  refine hK.out _ _ (by exact HSS.out _ HB0.out) (fun hHeld => ?_)
  clear hK K
  (try simp only [Act.put, List.getElem_toArray, List.getElem_cons_succ, List.getElem_cons_zero, List.setIfInBounds_toArray, List.set_cons_zero, List.set_cons_succ])
  refine wpAnyH_ready (rs := [28]) (by kernel_rfl) (by simp) ?_
  refine AllReadyH.cons rfl (fun K hK => ?_) AllReadyH.nil
  go_simp
  refine (HA.out _).mono ?_
  rintro e w1 ⟨rfl, hg⟩; have HB1 := Lib.hid (HB0.out.trans (hg.below.mono HB0.out.size)); have HG1 := Lib.hid (Gr.trans HG0.out hg); clear hg
  (try dsimp only)
  refine hK.out _ _ (by exact HSS.out _ HB1.out) (fun hHeld => ?_)
  clear hK K
  (try simp only [Act.put, List.getElem_toArray, List.getElem_cons_succ, List.getElem_cons_zero, List.setIfInBounds_toArray, List.set_cons_zero, List.set_cons_succ])
  refine wpAnyH_ready (rs := [29]) (by kernel_rfl) (by simp) ?_
  refine AllReadyH.cons rfl (fun K hK => ?_) AllReadyH.nil
  go_simp
  refine hK.out _ _ (by exact HSS.out _ (HB1.out.alloc HB1.out.size _)) (fun hHeld => ?_)
  clear hK K
  (try simp only [Act.put, List.getElem_toArray, List.getElem_cons_succ, List.getElem_cons_zero, List.setIfInBounds_toArray, List.set_cons_zero, List.set_cons_succ])
  refine wpAnyH_ready (rs := [30]) (by kernel_rfl) (by simp) ?_
  refine AllReadyH.cons rfl (fun K hK => ?_) AllReadyH.nil
  go_simp
  refine (HO.out _ 3 _ _ _ (HQ.out _ _ _ _) rfl (by omega)).mono ?_
  rintro e w2 ⟨rfl, rfl⟩
  (try dsimp only)
  refine hK.out _ _ (by exact HSS.out _ (HB1.out.alloc HB1.out.size _)) (fun hHeld => ?_)
  clear hK K
  (try simp only [Act.put, List.getElem_toArray, List.getElem_cons_succ, List.getElem_cons_zero, List.setIfInBounds_toArray, List.set_cons_zero, List.set_cons_succ])
  refine wpAnyH_take (i := 31) (v := ?v31) rfl (by kernel_rfl) (by kernel_rfl) (by kernel_rfl) (fun _ _ _ h => h) (Or.inl ⟨by kernel_rfl, ?y31⟩) (by assumption) ?r31
  case y31 => (intro wq hSw; (try dsimp only at hSw); go_simp; (try with_reducible rfl))
  (try simp only [Act.put, List.getElem_toArray, List.getElem_cons_succ, List.getElem_cons_zero, List.setIfInBounds_toArray, List.set_cons_zero, List.set_cons_succ])
  refine wpAnyH_done (by kernel_rfl) ?_ _
  refine NoPanic.normal ?_
  go_wp2_with fail
  go_ret
  exact ⟨by rw [HR.out]; rfl, HG1.out.alloc _⟩
end Go.Proofs.Ytgioeijdgoogkaa.Od
