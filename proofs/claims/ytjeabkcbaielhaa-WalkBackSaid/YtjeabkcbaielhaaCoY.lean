/- What closures change: a client alone in a split of its own (cons.Wrap$1). -/
import Derived.Test.YtjeabkcbaielhaaCoX
namespace Go.Proofs.Ytjeabkcbaielhaa.Co
open Go.RowKit Go.Shelf
def wrapF (kind : Int) (x : Con) (way : List Nat) : Con × Int :=
  match get x way.dropLast, get x way with
  | some p, some y => if p.ks.length = 1 then (put x way.dropLast (.mk { p.a with k := kind } p.ks), 0) else if way.length = 8 then (x, 2)
    else (put x way (.mk ⟨kind, y.a.w, 0, 0⟩ [.mk { y.a with w := 65536 } y.ks]), 0)
  | _, _ => (x, 0)
theorem block_of_cell' {w : World} {b o : Nat} {u : Value} (h : w.cell? ⟨b, o, none⟩ = some u) : b < w.heap.size := World.block_lt_of_cell? w ⟨b, o, none⟩ h
theorem enters_wrap : ∀ args w, (callFunc 77 args).run Try.prog w = .ok (.enter 77 args) w := enters_of Try.func77 (by kernel_rfl) rfl
theorem own_wrap {w : World} {b : Nat} {d e : D} {y : ATr} (h : Blk w b 24 #[.int .i64 e.k, .int .i64 e.w, .int .i64 e.c, .int .i64 e.s, slA y]) (hy : Own w y) : Own w (.mk ⟨d, b, 1⟩ [.mk { y.a with d := e } y.ks]) := by
  obtain ⟨a, ks⟩ := y
  exact ⟨⟨rfl, .inr ⟨b, 1, _, rfl, Nat.zero_le _, h.raw, Nat.le_refl _, by unfold maxLen; omega, rfl, rfl⟩⟩, hy, trivial⟩
set_option maxHeartbeats 4000000 in
theorem how_wrap (kb : Nat) (kind : Int) : HowC 77 #[.pointer (some ⟨kb, 0, none⟩)] (fun w => Blk w kb 3 #[.int .i64 kind]) (wrapF kind) := by
  intro N w r t u j p y v hK hN hR hW hp hy hfi hlen
  have HC := Lib.hid (cut_c (fun _ => True) t p r 0 u j v w hR.held hW hp)
  have hgy : get t (u ++ [j]) = some y := by rw [get_append _ hp]; obtain ⟨a, ks⟩ := p; simp only [get]; rw [show ks[j]? = some y from hy]
  have hF : wrapF kind (era t) (u ++ [j]) = if p.ks.length = 1 then (era (put t u (.mk { p.a with d := { p.a.d with k := kind } } p.ks)), 0) else if (u ++ [j]).length = 8 then (era t, 2)
      else (put (era t) (u ++ [j]) (.mk ⟨kind, y.a.d.w, 0, 0⟩ [.mk { y.a.d with w := 65536 } (y.ks.map era)]), 0) := by
    unfold wrapF
    rw [List.dropLast_concat, era_get, hp, era_get, hgy]
    simp only [Option.map_some]
    rw [era_put hp, era_mk, era_ks, era_a, List.length_map, era_a, era_ks]
  obtain ⟨q, c, rfl⟩ := hW.slice
  have hh := hR.held.get hp
  have h0 := hh.cells 0 _ rfl
  have hz := hh.free (loc r 0 t u).2
  have h4 := hh.cells 4 _ rfl
  rw [slA_some hy] at h4
  have hset := fun m => (hR.drewN m).set (f := 0) (s' := .mk { p.a with d := { p.a.d with k := kind } } p.ks) (v := .int .i64 kind) hp (by omega) rfl (by obtain ⟨a, ks⟩ := p; rfl) (fun w' ho => by obtain ⟨a, ks⟩ := p; exact ho) hN
  have hkc := hK.at_ (i := 0) rfl
  simp only [Nat.add_zero] at h0 hset
  have hy5 := hR.held.get hgy
  have hly : loc r 0 t (u ++ [j]) = (p.a.g, j * 5) := by rw [loc_append _ hp]; obtain ⟨a, ks⟩ := p; rw [loc_cons (show ks[j]? = some y from hy)]; rfl
  rw [hly] at hy5
  obtain ⟨y0, y1, y2, y3, y4⟩ : w.cell? ⟨p.a.g, j * 5, none⟩ = some (.int .i64 y.a.d.k) ∧ w.cell? ⟨p.a.g, j * 5 + 1, none⟩ = some (.int .i64 y.a.d.w) ∧ w.cell? ⟨p.a.g, j * 5 + 2, none⟩ = some (.int .i64 y.a.d.c) ∧ w.cell? ⟨p.a.g, j * 5 + 3, none⟩ = some (.int .i64 y.a.d.s) ∧ w.cell? ⟨p.a.g, j * 5 + 4, none⟩ = some (slA y) :=
    ⟨hy5.cells 0 _ rfl, hy5.cells 1 _ rfl, hy5.cells 2 _ rfl, hy5.cells 3 _ rfl, hy5.cells 4 _ rfl⟩
  have hjl := (List.getElem?_eq_some_iff.1 hy).1
  obtain ⟨L, hL⟩ : ∃ L, L = loc r 0 t u := ⟨_, rfl⟩
  rw [← hL] at HC h0 hz hset h4
  obtain ⟨lb, lo⟩ := L
  have HS := Lib.hid hset
  have HFF := Lib.hid hF
  obtain ⟨nw, hnw⟩ : ∃ nw, nw = (u ++ [j]).length := ⟨_, rfl⟩
  rw [← hnw] at HC HFF ⊢
  obtain ⟨np, hnp⟩ : ∃ np, np = p.ks.length := ⟨_, rfl⟩
  rw [← hnp] at h4 HFF hjl
  obtain ⟨R, hRR⟩ : ∃ R, R = fun (e : Ending) (w' : World) => e = .returned (.int .i64 (wrapF kind (era t) (u ++ [j])).2) ∧ Turn (fun b => b ∈ blks (topT r t)) (fun _ => False) w w' ∧ ((wrapF kind (era t) (u ++ [j])).2 = 0 → ∃ t', Root N w' r t' ∧ era t' = (wrapF kind (era t) (u ++ [j])).1) := ⟨_, rfl⟩
  rw [← hRR]
  have HRR := Lib.hid hRR
  have HR := Lib.hid hR
  have HGY := Lib.hid hgy
  have HLY := Lib.hid hly
  have HP := Lib.hid hp
  have HY := Lib.hid hy
  have HL := Lib.hid hL
  have hwide := (hfi [] (era t) rfl).2
  have hnpl : np ≤ 100000 := by
    have := (hfi u (era p) (by rw [era_get, hp]; rfl)).2
    rw [era_ks, List.length_map, ← hnp] at this; exact this
  have hnw9 : nw ≤ 1000000 := by rw [hnw]; exact hlen
  have HNN := Lib.hid hN
  clear hF hset hR hW hp hy hfi hlen hnw hK hL hRR hgy hly hh hy5 hnp hwide hN
  show Calls Try.prog 77 #[.pointer (some ⟨r, 0, none⟩), .slice q nw c, .pointer (some ⟨kb, 0, none⟩)] w R
  by_cases h1 : np = 1
  · subst h1
    have HF1 := Lib.hid ((HFF.out).trans (if_pos rfl))
    clear y0 y1 y2 y3 y4 hjl
    go_enter Try.func77, Try.ntmps77
    go_wp2_with fail
    refine HC.out.mono ?_
    rintro e w1 ⟨rfl, m, rfl⟩
    go_wp2_with fail
    show R (.returned (.int .i64 0)) _
    rw [HRR.out]
    obtain ⟨h1, h2⟩ := HS.out m
    exact ⟨by rw [HF1.out], (Turn.of_below (below_drewN (Below.refl _ _) m)).trans h2, fun _ => ⟨_, h1, by rw [HF1.out]⟩⟩
  · have HF1 := Lib.hid ((HFF.out).trans (if_neg h1))
    have hn1 : ((np : Int) == 1) = false := by simp; omega
    by_cases h8 : nw = 8
    · subst h8
      have HF2 := Lib.hid ((HF1.out).trans (if_pos rfl))
      clear y0 y1 y2 y3 y4 hjl h1
      go_enter Try.func77, Try.ntmps77
      go_wp2_with fail
      refine HC.out.mono ?_
      rintro e w1 ⟨rfl, m, rfl⟩
      go_wp2_with fail
      show R (.returned (.int .i64 2)) _
      rw [HRR.out]
      exact ⟨by rw [HF2.out], (Turn.of_below (below_drewN (Below.refl _ _) m)).trans ⟨rfl, rfl, rfl, Nat.le_refl _, fun _ _ _ => rfl, fun _ h => h.elim⟩, fun h => by rw [HF2.out] at h; cases h⟩
    · have HF2 := Lib.hid ((HF1.out).trans (if_neg h8))
      have hn8 : ((nw : Int) == 8) = false := by simp; omega
      obtain ⟨py, cy, hsy⟩ : ∃ py cy, slA y = .slice py y.ks.length cy := slV_slice _ _ _
      obtain ⟨ny, hny⟩ : ∃ ny, ny = y.ks.length := ⟨_, rfl⟩
      rw [← hny] at hsy
      rw [hsy] at y4
      have HSY := Lib.hid hsy
      have HNY := Lib.hid hny
      have hji : ((j : Nat) : Int) < (np : Int) := by omega
      have hj0 : (0 : Int) ≤ (j : Int) := by omega
      clear h1 h8 hsy hny
      go_enter Try.func77, Try.ntmps77
      go_wp2_with fail
      refine HC.out.mono ?_
      rintro e w1 ⟨rfl, m, hm⟩
      have e0 : ∀ a, w1.cell? a = w.cell? a := by rw [hm]; exact fun _ => rfl
      have HR1 : Hid (Root N w1 r t) := by rw [hm]; exact (HR.out).drewN m
      have HB1 : Hid (Below w.heap.size w w1) := by rw [hm]; exact below_drewN (Below.refl _ _) m
      rw [← e0] at h4 y0 y1 y2 y3 y4 hkc h0
      have hlbl := block_of_cell' h4
      have hpgl := block_of_cell' y4
      have hkbl := block_of_cell' hkc
      clear e0 hm HC
      go_wp2_with fail
      obtain ⟨wA, hwA⟩ : ∃ wA, wA = ((w1.alloc (.cells #[.int .i64 y.a.d.k, .int .i64 65536, .int .i64 y.a.d.c, .int .i64 y.a.d.s, .slice py ny cy] 24)).alloc (.cells #[.int .i64 kind, .int .i64 y.a.d.w, .int .i64 0, .int .i64 0, .slice (some ⟨w1.heap.size + 1 + 1, 0, none⟩) 1 1] 24)).alloc (.cells #[.int .i64 y.a.d.k, .int .i64 65536, .int .i64 y.a.d.c, .int .i64 y.a.d.s, .slice py ny cy] 24) := ⟨_, rfl⟩
      have hBA : Below w1.heap.size w1 wA := by rw [hwA]; exact (((Below.refl _ _).alloc (Nat.le_refl _) _).alloc (by simp) _).alloc (by simp; omega) _
      have hq2 : Blk wA (w1.heap.size + 1) 24 #[.int .i64 kind, .int .i64 y.a.d.w, .int .i64 0, .int .i64 0, .slice (some ⟨w1.heap.size + 1 + 1, 0, none⟩) 1 1] := by
        rw [hwA]
        have := (Blk.new (w1.alloc (.cells #[.int .i64 y.a.d.k, .int .i64 65536, .int .i64 y.a.d.c, .int .i64 y.a.d.s, .slice py ny cy] 24)) 24 #[.int .i64 kind, .int .i64 y.a.d.w, .int .i64 0, .int .i64 0, .slice (some ⟨w1.heap.size + 1 + 1, 0, none⟩) 1 1]).alloc (.cells #[.int .i64 y.a.d.k, .int .i64 65536, .int .i64 y.a.d.c, .int .i64 y.a.d.s, .slice py ny cy] 24)
        rwa [World.size_alloc] at this
      have hq3 : Blk wA (w1.heap.size + 1 + 1) 24 #[.int .i64 y.a.d.k, .int .i64 65536, .int .i64 y.a.d.c, .int .i64 y.a.d.s, .slice py ny cy] := by
        rw [hwA]
        have := Blk.new ((w1.alloc (.cells #[.int .i64 y.a.d.k, .int .i64 65536, .int .i64 y.a.d.c, .int .i64 y.a.d.s, .slice py ny cy] 24)).alloc (.cells #[.int .i64 kind, .int .i64 y.a.d.w, .int .i64 0, .int .i64 0, .slice (some ⟨w1.heap.size + 1 + 1, 0, none⟩) 1 1] 24)) 24 #[.int .i64 y.a.d.k, .int .i64 65536, .int .i64 y.a.d.c, .int .i64 y.a.d.s, .slice py ny cy]
        rwa [World.size_alloc, World.size_alloc] at this
      have hRA := (HR1.out.next hBA).drew
      have HRA := Lib.hid hRA
      obtain ⟨⟨z0, z1, z2, z3, z4⟩, -⟩ := c5 hq2
      have hlbp : lb ≠ p.a.g := fun e => by
        have h1 := HR.out.loc_not HP.out
        rw [← HL.out] at h1
        have h2 : p.a.g ∈ blks p := by obtain ⟨a, ks⟩ := p; rw [blks_kid (show ks[j]? = some y from HY.out)]; simp
        exact h1 (by show lb ∈ blks p; rw [e]; exact h2)
      have S0 : wA.drew.cell? ⟨lb, lo + 4, none⟩ = some (.slice (some ⟨p.a.g, 0, none⟩) np p.a.cap) ∧ _ := And.intro ((cell_same (w' := wA.drew) (hBA.block lb hlbl) _).trans h4) (And.intro z0 (And.intro z1 (And.intro z2 (And.intro z3 z4))))
      have hfr : ∀ i, wA.frozen? ⟨p.a.g, i, none⟩ = false := fun i => by have := ((HR1.out.next hBA).held.get HGY.out).free i; rwa [HLY.out] at this
      have hcs : ∀ i, w1.cell? ⟨p.a.g, i, none⟩ = wA.cell? ⟨p.a.g, i, none⟩ := fun i => (cell_same (hBA.block p.a.g hpgl) i).symm
      rw [hcs] at y0 y1 y2 y3 y4
      have f0 := hfr (j * 5)
      have f1 := hfr (j * 5 + 1)
      have f2 := hfr (j * 5 + 2)
      have f3 := hfr (j * 5 + 3)
      have f4 := hfr (j * 5 + 4)
      have hfar : ∀ b, b ≠ p.a.g → (((((wA.drew.setCell ⟨p.a.g, j * 5, none⟩ (.int .i64 kind)).setCell ⟨p.a.g, j * 5 + 1, none⟩ (.int .i64 y.a.d.w)).setCell ⟨p.a.g, j * 5 + 2, none⟩ (.int .i64 0)).setCell ⟨p.a.g, j * 5 + 3, none⟩ (.int .i64 0)).setCell ⟨p.a.g, j * 5 + 4, none⟩ (.slice (some ⟨w1.heap.size + 1 + 1, 0, none⟩) 1 1)).heap[b]? = wA.heap[b]? := fun b hb => by
        rw [Below.heap_setCell _ ⟨p.a.g, j * 5 + 4, none⟩ _ b hb, Below.heap_setCell _ ⟨p.a.g, j * 5 + 3, none⟩ _ b hb, Below.heap_setCell _ ⟨p.a.g, j * 5 + 2, none⟩ _ b hb, Below.heap_setCell _ ⟨p.a.g, j * 5 + 1, none⟩ _ b hb, Below.heap_setCell _ ⟨p.a.g, j * 5, none⟩ _ b hb]
        rfl
      have hb1p : w1.heap.size + 1 ≠ p.a.g := by omega
      have S1 := And.intro ((cell_same (hfar lb hlbp) (lo + 4)).trans S0.1) (And.intro ((cell_same (hfar _ hb1p) 0).trans z0) (And.intro ((cell_same (hfar _ hb1p) 1).trans z1) (And.intro ((cell_same (hfar _ hb1p) 2).trans z2) (And.intro ((cell_same (hfar _ hb1p) 3).trans z3) ((cell_same (hfar _ hb1p) 4).trans z4)))))
      have HFAR := Lib.hid hfar
      have HBA := Lib.hid hBA
      have HQ3 := Lib.hid hq3
      have HWA := Lib.hid hwA
      have HLP := Lib.hid hpgl
      rw [← hwA]
      clear hfar hBA hq2 hq3 hwA hcs hfr h4 z0 z1 z2 z3 z4 hRA h0 hz hkc hlbl hkbl
      refine wp_region_noPanic ?_
      refine wp_region_held_drew (S := fun wx => wx.cell? ⟨lb, lo + 4, none⟩ = some (.slice (some ⟨p.a.g, 0, none⟩) np p.a.cap) ∧ wx.cell? ⟨w1.heap.size + 1, 0, none⟩ = some (.int .i64 kind) ∧ wx.cell? ⟨w1.heap.size + 1, 1, none⟩ = some (.int .i64 y.a.d.w) ∧ wx.cell? ⟨w1.heap.size + 1, 2, none⟩ = some (.int .i64 0) ∧ wx.cell? ⟨w1.heap.size + 1, 3, none⟩ = some (.int .i64 0) ∧ wx.cell? ⟨w1.heap.size + 1, 4, none⟩ = some (.slice (some ⟨w1.heap.size + 1 + 1, 0, none⟩) 1 1)) (by kernel_rfl) (by exact S0) (fun hHeld => ?_)
      refine wpAnyH_take (i := 0) (v := ?v0) rfl (by kernel_rfl) (by kernel_rfl) (by kernel_rfl) (fun _ _ _ h => h) (Or.inl ⟨by kernel_rfl, ?y0⟩) (by assumption) ?r0
      case y0 => (intro wq hSw; (try dsimp only at hSw); go_simp; (try with_reducible rfl))
      (try simp only [Act.put, List.getElem_toArray, List.getElem_cons_zero, List.setIfInBounds_toArray, List.set_cons_zero, List.set_cons_succ])
      refine wpAnyH_take (i := 1) (v := ?v1) rfl (by kernel_rfl) (by kernel_rfl) (by kernel_rfl) (fun _ _ _ h => h) (Or.inl ⟨by kernel_rfl, ?y1⟩) (by assumption) ?r1
      case y1 => (intro wq hSw; (try dsimp only at hSw); go_simp; (try with_reducible rfl))
      (try simp only [Act.put, List.getElem_toArray, List.getElem_cons_succ, List.getElem_cons_zero, List.setIfInBounds_toArray, List.set_cons_zero, List.set_cons_succ])
      refine wpAnyH_take (i := 2) (v := ?v2) rfl (by kernel_rfl) (by kernel_rfl) (by kernel_rfl) (fun _ _ _ h => h) (Or.inl ⟨by kernel_rfl, ?y2⟩) (by assumption) ?r2
      case y2 => (intro wq hSw; (try dsimp only at hSw); go_simp; (try with_reducible rfl))
      (try simp only [Act.put, List.getElem_toArray, List.getElem_cons_succ, List.getElem_cons_zero, List.setIfInBounds_toArray, List.set_cons_zero, List.set_cons_succ])
      refine wpAnyH_take (i := 3) (v := ?v3) rfl (by kernel_rfl) (by kernel_rfl) (by kernel_rfl) (fun _ _ _ h => h) (Or.inl ⟨by kernel_rfl, ?y3⟩) (by assumption) ?r3
      case y3 => (intro wq hSw; (try dsimp only at hSw); go_simp; (try with_reducible rfl))
      (try simp only [Act.put, List.getElem_toArray, List.getElem_cons_succ, List.getElem_cons_zero, List.setIfInBounds_toArray, List.set_cons_zero, List.set_cons_succ])
      refine wpAnyH_take (i := 4) (v := ?v4) rfl (by kernel_rfl) (by kernel_rfl) (by kernel_rfl) (fun _ _ _ h => h) (Or.inl ⟨by kernel_rfl, ?y4⟩) (by assumption) ?r4
      case y4 => (intro wq hSw; (try dsimp only at hSw); go_simp; (try with_reducible rfl))
      (try simp only [Act.put, List.getElem_toArray, List.getElem_cons_succ, List.getElem_cons_zero, List.setIfInBounds_toArray, List.set_cons_zero, List.set_cons_succ])
      refine wpAnyH_take (i := 5) (v := ?v5) rfl (by kernel_rfl) (by kernel_rfl) (by kernel_rfl) (fun _ _ _ h => h) (Or.inl ⟨by kernel_rfl, ?y5⟩) (by assumption) ?r5
      case y5 => (intro wq hSw; (try dsimp only at hSw); go_simp; (try with_reducible rfl))
      (try simp only [Act.put, List.getElem_toArray, List.getElem_cons_succ, List.getElem_cons_zero, List.setIfInBounds_toArray, List.set_cons_zero, List.set_cons_succ])
      refine wpAnyH_take (i := 6) (v := ?v6) rfl (by kernel_rfl) (by kernel_rfl) (by kernel_rfl) (fun _ _ _ h => h) (Or.inl ⟨by kernel_rfl, ?y6⟩) (by assumption) ?r6
      case y6 => (intro wq hSw; (try dsimp only at hSw); go_simp; (try with_reducible rfl))
      (try simp only [Act.put, List.getElem_toArray, List.getElem_cons_succ, List.getElem_cons_zero, List.setIfInBounds_toArray, List.set_cons_zero, List.set_cons_succ])
      refine wpAnyH_ready (rs := [7]) (by kernel_rfl) (by simp) ?_
      refine AllReadyH.cons rfl (fun K hK => ?_) AllReadyH.nil
      go_simp
      refine hK.out _ _ (by exact S1) (fun hHeld => ?_)
      clear hK K
      (try simp only [Act.put, List.getElem_toArray, List.getElem_cons_succ, List.getElem_cons_zero, List.setIfInBounds_toArray, List.set_cons_zero, List.set_cons_succ])
      refine wpAnyH_done (by kernel_rfl) ?_ _
      refine NoPanic.normal ?_
      clear S0 S1 y0 y1 y2 y3 y4 f0 f1 f2 f3 f4 hHeld
      go_wp2_with fail
      show R (.returned (.int .i64 0)) _
      rw [HRR.out]
      have hRw := HR1.out.next HBA.out
      obtain ⟨cur, hc1, -, hc3⟩ := hRw.block HGY.out
      rw [HLY.out] at hc1 hc3
      have hRep := ((Repl.refl hc1 hc3).five (enc_len _ _) (.int .i64 kind) (.int .i64 y.a.d.w) (.int .i64 0) (.int .i64 0) (.slice (some ⟨w1.heap.size + 1 + 1, 0, none⟩) 1 1)).before (w0 := w1) (HBA.out.block p.a.g HLP.out)
      obtain ⟨w8, hw8⟩ : ∃ w8, w8 = (((((wA.setCell ⟨p.a.g, j * 5, none⟩ (.int .i64 kind)).setCell ⟨p.a.g, j * 5 + 1, none⟩ (.int .i64 y.a.d.w)).setCell ⟨p.a.g, j * 5 + 2, none⟩ (.int .i64 0)).setCell ⟨p.a.g, j * 5 + 3, none⟩ (.int .i64 0)).setCell ⟨p.a.g, j * 5 + 4, none⟩ (.slice (some ⟨w1.heap.size + 1 + 1, 0, none⟩) 1 1)) := ⟨_, rfl⟩
      have hfar : ∀ b, b ≠ p.a.g → w8.heap[b]? = wA.heap[b]? := by rw [hw8]; exact HFAR.out
      rw [← hw8] at hRep ⊢
      have hyo := HR1.out.held.get HGY.out
      have hyl := hyo.own.lt
      have hni : p.a.g ∉ blks y := by have := HR1.out.loc_not HGY.out; rwa [HLY.out] at this
      have hsz : w8.heap.size = wA.heap.size := by rw [hw8]; simp [World.setCell]
      have hb3 : w1.heap.size + 1 + 1 ≠ p.a.g := by have := HLP.out; omega
      have hown : Own w8 (.mk ⟨⟨kind, y.a.d.w, 0, 0⟩, w1.heap.size + 1 + 1, 1⟩ [.mk { y.a with d := { y.a.d with w := 65536 } } y.ks]) := by
        refine own_wrap (e := { y.a.d with w := 65536 }) ?_ ((hyo.own.next HBA.out).same (w' := w8) fun b hb => hfar b fun e => hni (e ▸ hb))
        rw [HSY.out]
        exact (hfar _ hb3).trans HQ3.out.raw
      have hbl : blks (.mk ⟨⟨kind, y.a.d.w, 0, 0⟩, w1.heap.size + 1 + 1, 1⟩ [.mk { y.a with d := { y.a.d with w := 65536 } } y.ks]) = (w1.heap.size + 1 + 1) :: blks y := by obtain ⟨a, ks⟩ := y; simp [blks, blksL]
      have hnd : (blks y).Nodup := by
        obtain ⟨l1, l2, e1, _⟩ := blks_put (get_top (r := r) HGY.out)
        have := HR1.out.nodup; rw [e1] at this; simp only [List.nodup_append] at this; exact this.1.2.1
      have hput := HR1.out.put (w' := w8) (s' := .mk ⟨⟨kind, y.a.d.w, 0, 0⟩, w1.heap.size + 1 + 1, 1⟩ [.mk { y.a with d := { y.a.d with w := 65536 } } y.ks]) HGY.out (by rw [HLY.out]; exact hRep)
        (fun x hx _ hxp => by rw [HLY.out] at hxp; exact (hfar x hxp).trans (HBA.out.block x (HR1.out.lt x (by rw [blks_top]; exact hx)))) hown (by rw [hbl, List.nodup_cons]; exact ⟨fun h => by have := hyl _ h; omega, hnd⟩)
        (fun x hx => by rw [hbl, List.mem_cons] at hx; rcases hx with rfl | hx; exact .inr (by omega); exact .inl hx) (Nat.le_trans HNN.out HB1.out.size)
      refine ⟨by rw [HF2.out], ?_, fun _ => ⟨_, hput.drew, ?_⟩⟩
      · have ht := (Turn.of_below (F := fun b => b ∈ blks (topT r t)) HB1.out).trans (Turn.of_below HBA.out)
        refine ht.trans ⟨?_, ?_, ?_, by show wA.heap.size ≤ w8.heap.size; omega, fun i _ hi => hfar i fun e => hi (by have := HR1.out.loc_mem HGY.out; rw [HLY.out] at this; exact e ▸ this), fun _ h => h.elim⟩
        · show w8.os = wA.os; rw [hw8]; rfl
        · show w8.tape = wA.tape; rw [hw8]; rfl
        · show w8.output = wA.output; rw [hw8]; rfl
      · rw [HF2.out, era_put HGY.out, era_mk]
        simp only [List.map_cons, List.map_nil, era_mk]
end Go.Proofs.Ytjeabkcbaielhaa.Co
