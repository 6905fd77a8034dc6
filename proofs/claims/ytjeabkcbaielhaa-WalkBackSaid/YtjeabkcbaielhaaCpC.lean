/- A split that is no longer needed: cons.tidy. -/
import Derived.Test.YtjeabkcbaielhaaCpB
namespace Go.Proofs.Ytjeabkcbaielhaa.Co
open Go.RowKit Go.Shelf
/-- A kid less. -/
def delK (x : Con) (u : List Nat) (i : Nat) : Con :=
  match get x u with
  | some p => put x u (.mk p.a (p.ks.eraseIdx i))
  | none => x
/-- A kid that is a split with none, or but one. -/
def tidyK (x : Con) (u : List Nat) (i : Nat) : Con :=
  match get x (u ++ [i]) with
  | some y => if y.ks.length = 0 then delK x u i else if y.ks.length = 1 then (match y.ks[0]? with
    | some z => put x (u ++ [i]) (.mk { z.a with w := y.a.w } z.ks)
    | none => x) else x
  | none => x
/-- A step of the code: the tree becomes another one, and nothing else does. -/
def StepR (N : Nat) (r : Nat) (t : ATr) (w : World) (t' : ATr) (w' : World) : Prop := Root N w' r t' ∧ Turn (fun b => b ∈ blks (topT r t)) (fun b => b ∈ blks (topT r t')) w w'
theorem put_foot {r B : Nat} {t s s' : ATr} {u : List Nat} (hs : get t u = some s) (hb : ∀ x ∈ blks s', x ∈ blks s ∨ B ≤ x) : ∀ x ∈ blks (topT r (put t u s')), x ∈ blks (topT r t) ∨ B ≤ x := by
  obtain ⟨l1, l2, h1, h2⟩ := blks_put (get_top (r := r) hs)
  intro x hx
  rw [← put_top, h2 s'] at hx
  rw [h1]
  simp only [List.mem_append] at hx ⊢
  rcases hx with (hx | hx) | hx
  · exact .inl (.inl (.inl hx))
  · rcases hb x hx with h | h
    · exact .inl (.inl (.inr h))
    · exact .inr h
  · exact .inl (.inr hx)
theorem Turn.feet {w w' : World} {F F' : Nat → Prop} (h : Turn F (fun _ => False) w w') (hf : ∀ x, F' x → F x ∨ w.heap.size ≤ x) : Turn F F' w w' := ⟨h.os, h.tape, h.output, h.size, h.block, hf⟩
theorem blks_kids {a : AD} {ks : List ATr} : ∀ x ∈ blks (.mk a ks), (ks.length ≠ 0 ∧ x = a.g) ∨ x ∈ blksL ks := fun x hx => by
  simp only [blks, List.mem_append] at hx
  rcases hx with hx | hx
  · split at hx
    · cases hx
    · rename_i h0; simp at hx; exact .inl ⟨h0, hx⟩
  · exact .inr hx
theorem map_erase {α β : Type} (f : α → β) (l : List α) (i : Nat) : (l.eraseIdx i).map f = (l.map f).eraseIdx i := by
  induction l generalizing i with
  | nil => rfl
  | cons a r ih => cases i with
    | zero => rfl
    | succ i => simp [ih]
/-- A kid less, told on. -/
theorem erase_step {w w1 : World} {N r i : Nat} {t : ATr} {u : List Nat} {v : Value} {a : AD} {ks : List ATr} (h : Root N w r t) (hs : get t u = some (.mk a ks)) (hi : i < ks.length)
    (hc : CatR w i (ks.length - (i + 1)) ((rowOf ks).take (i * 5)) ((rowOf ks).drop ((i + 1) * 5)) (.returned v) w1) (hN : N ≤ w.heap.size) :
    (∃ p c, v = .slice p (ks.eraseIdx i).length c) ∧ ∃ t', StepR N r t w t' (w1.setCell ⟨(loc r 0 t u).1, (loc r 0 t u).2 + 4, none⟩ v) ∧ era t' = delK (era t) u i := by
  have hc' := hc
  obtain ⟨g, cap, hv, h1, h2⟩ := h.erase hs hi hc hN
  obtain ⟨v', e, ho, _, hb⟩ := hc'
  injection e with e
  subst e
  refine ⟨by rw [hv]; exact slV_slice _ _ _, _, ⟨h1, h2.feet (put_foot hs fun x hx => ?_)⟩, ?_⟩
  · rcases blks_kids x hx with ⟨h0, rfl⟩ | hx
    · exact .inr (ho.lt _ (by rw [hv]; unfold slV; rw [if_neg h0]; rfl)).1
    · exact .inl (blksL_sub x (blksL_erase.subset hx))
  · unfold delK
    rw [era_get, hs]
    simp only [Option.map_some]
    rw [era_put hs, era_mk, era_mk]
    simp only [Tr.a_mk, Tr.ks_mk, map_erase]
set_option maxHeartbeats 4000000 in
theorem tidy_c (N r i : Nat) (t p y : ATr) (u : List Nat) (w : World) (hR : Root N w r t) (hp : get t u = some p) (hy : p.ks[i]? = some y) (hN : N ≤ w.heap.size) (hpl : p.ks.length ≤ 100000) (hyl : y.ks.length ≤ 100000) :
    Calls Try.prog 72 #[ptrL (loc r 0 t u), .int .i64 (i : Int)] w fun e w' => e = .returned (.tuple #[]) ∧ ∃ t', StepR N r t w t' w' ∧ era t' = tidyK (era t) u i := by
  have hgy : get t (u ++ [i]) = some y := by rw [get_append _ hp]; obtain ⟨a, ks⟩ := p; simp only [get]; rw [show ks[i]? = some y from hy]
  have hT : tidyK (era t) u i = if y.ks.length = 0 then delK (era t) u i else if y.ks.length = 1 then (match (y.ks.map era)[0]? with
      | some z => put (era t) (u ++ [i]) (.mk { z.a with w := y.a.d.w } z.ks)
      | none => era t) else era t := by
    unfold tidyK
    rw [era_get, hgy]
    simp only [Option.map_some]
    rw [era_ks, era_a, List.length_map]
    rfl
  have hh := hR.held.get hp
  have h4 := hh.cells 4 _ rfl
  rw [slA_some hy] at h4
  have hf4 := hh.free ((loc r 0 t u).2 + 4)
  have hly : loc r 0 t (u ++ [i]) = (p.a.g, i * 5) := by rw [loc_append _ hp]; obtain ⟨a, ks⟩ := p; rw [loc_cons (show ks[i]? = some y from hy)]; rfl
  have hy5 := hR.held.get hgy
  rw [hly] at hy5
  obtain ⟨y0, y1, y2, y3, y4⟩ : w.cell? ⟨p.a.g, i * 5, none⟩ = some (.int .i64 y.a.d.k) ∧ w.cell? ⟨p.a.g, i * 5 + 1, none⟩ = some (.int .i64 y.a.d.w) ∧ w.cell? ⟨p.a.g, i * 5 + 2, none⟩ = some (.int .i64 y.a.d.c) ∧ w.cell? ⟨p.a.g, i * 5 + 3, none⟩ = some (.int .i64 y.a.d.s) ∧ w.cell? ⟨p.a.g, i * 5 + 4, none⟩ = some (slA y) :=
    ⟨hy5.cells 0 _ rfl, hy5.cells 1 _ rfl, hy5.cells 2 _ rfl, hy5.cells 3 _ rfl, hy5.cells 4 _ rfl⟩
  obtain ⟨py, cy, hsy⟩ : ∃ py cy, slA y = .slice py y.ks.length cy := slV_slice _ _ _
  obtain ⟨ny, hny⟩ : ∃ ny, ny = y.ks.length := ⟨_, rfl⟩
  rw [← hny] at hsy hT hyl
  rw [hsy] at y4
  have hjl := (List.getElem?_eq_some_iff.1 hy).1
  have hcl : p.ks.length ≤ p.a.cap := by obtain ⟨a, ks⟩ := p; exact hh.own.cap_le (by have : i < ks.length := hjl; omega)
  obtain ⟨L, hL⟩ : ∃ L, L = loc r 0 t u := ⟨_, rfl⟩
  rw [← hL] at h4 hf4 ⊢
  obtain ⟨lb, lo⟩ := L
  obtain ⟨np, hnp⟩ : ∃ np, np = p.ks.length := ⟨_, rfl⟩
  rw [← hnp] at h4 hjl hpl hcl
  obtain ⟨R, hRR⟩ : ∃ R, R = fun (e : Ending) (w' : World) => e = .returned (.tuple #[]) ∧ ∃ t', StepR N r t w t' w' ∧ era t' = tidyK (era t) u i := ⟨_, rfl⟩
  rw [← hRR]
  have HRR := Lib.hid hRR
  have HR := Lib.hid hR
  have HT := Lib.hid hT
  have HGY := Lib.hid hgy
  have HLY := Lib.hid hly
  have HP := Lib.hid hp
  have HY := Lib.hid hy
  have HL := Lib.hid hL
  have HSY := Lib.hid hsy
  have HNY := Lib.hid hny
  have HNP := Lib.hid hnp
  have HNN := Lib.hid hN
  have HJL := Lib.hid hjl
  have hi0 : (0 : Int) ≤ (i : Int) := by omega
  have hin : (i : Int) < (np : Int) := by omega
  have hlbl := block_of_cell' h4
  have hpgl := block_of_cell' y4
  clear hRR hR hT hgy hly hp hy hL hsy hny hnp hN hh hy5
  by_cases h0 : ny = 0
  · have HT0 := Lib.hid ((HT.out).trans (if_pos h0))
    subst h0
    have hxs : Hid (∀ W, Below w.heap.size w W → Root N W r t) := fun W h => HR.out.next h
    have HWO := Lib.hid (fun (W : World) (h : Below w.heap.size w W) => without_c p.a.g np p.a.cap i (rowOf p.ks) W (by
        have ho := (HR.out.held.get HP.out).own.next h
        obtain ⟨a, ks⟩ := p
        exact ho.rds (by have := HJL.out; have := HNP.out; simp only [Tr.ks_mk] at *; omega)) (by rw [rowOf_len, HNP.out]) (rowOf_one _) HJL.out hpl hcl)
    have hbA := (Below.refl w.heap.size w).alloc (Nat.le_refl _) (.cells #[.int .i64 y.a.d.k, .int .i64 y.a.d.w, .int .i64 y.a.d.c, .int .i64 y.a.d.s, .slice py 0 cy] 24)
    have HBA := Lib.hid hbA
    clear hbA
    go_enter Try.func72, Try.ntmps72
    go_wp2_with fail
    obtain ⟨wA, hwA⟩ : ∃ wA, wA = w.alloc (.cells #[.int .i64 y.a.d.k, .int .i64 y.a.d.w, .int .i64 y.a.d.c, .int .i64 y.a.d.s, .slice py 0 cy] 24) := ⟨_, rfl⟩
    rw [← hwA] at HBA ⊢
    have HWA := Lib.hid hwA
    clear hwA
    refine (HWO.out wA HBA.out).mono ?_
    rintro e w1 ⟨v, rfl, ho, hz, hb⟩
    have hpm : p = .mk p.a p.ks := (Tr.eta p).symm
    have hps : get t u = some (.mk p.a p.ks) := by rw [← hpm]; exact HP.out
    obtain ⟨⟨pv, cv, hvs⟩, t', hst, het⟩ := erase_step (hxs.out wA HBA.out) hps (i := i) (by have := HJL.out; have := HNP.out; omega) (v := v) (w1 := w1) ⟨v, rfl, by rw [← HNP.out]; exact ho, by rw [← HNP.out]; exact hz, hb⟩ (Nat.le_trans HNN.out HBA.out.size)
    rw [← HL.out] at hst
    subst hvs
    have e4 : w1.cell? ⟨lb, lo + 4, none⟩ = some (.slice (some ⟨p.a.g, 0, none⟩) np p.a.cap) := by
      rw [cell_same (hb.block lb (Nat.lt_of_lt_of_le hlbl HBA.out.size)), cell_same (HBA.out.block lb hlbl)]; exact h4
    have e5 : w1.frozen? ⟨lb, lo + 4, none⟩ = false := by
      have h1 := hb.block lb (Nat.lt_of_lt_of_le hlbl HBA.out.size)
      have h2 := HBA.out.block lb hlbl
      have h3 := hf4
      unfold World.frozen? at h3 ⊢
      simp only [h1, h2]; exact h3
    have HST := Lib.hid hst
    have HET := Lib.hid het
    clear hst het ho hz hb h4 hf4 y0 y1 y2 y3 y4 hpm hps
    go_wp2_with fail
    go_end0
    rw [HRR.out]
    exact ⟨rfl, t', ⟨HST.out.1, (Turn.of_below HBA.out).trans HST.out.2⟩, by rw [HT0.out]; exact HET.out⟩
  · by_cases h1 : ny = 1
    · have HT1 := Lib.hid (((HT.out).trans (if_neg h0)).trans (if_pos h1))
      subst h1
      obtain ⟨z, hz⟩ : ∃ z, y.ks[0]? = some z := ⟨_, List.getElem?_eq_getElem (by have := HNY.out; omega)⟩
      have hpy := HSY.out
      rw [slA_some hz, ← HNY.out] at hpy
      obtain ⟨rfl, -, rfl⟩ := Value.slice.inj hpy
      have hgz : get t (u ++ [i] ++ [0]) = some z := by rw [get_append _ HGY.out]; obtain ⟨a, ks⟩ := y; simp only [get]; rw [show ks[0]? = some z from hz]
      have hlz : loc r 0 t (u ++ [i] ++ [0]) = (y.a.g, 0 * 5) := by rw [loc_append _ HGY.out]; obtain ⟨a, ks⟩ := y; rw [loc_cons (show ks[0]? = some z from hz)]; rfl
      have hz5 := HR.out.held.get hgz
      rw [hlz] at hz5
      obtain ⟨pz, cz, hsz⟩ : ∃ pz cz, slA z = .slice pz z.ks.length cz := slV_slice _ _ _
      obtain ⟨nz, hnz⟩ : ∃ nz, nz = z.ks.length := ⟨_, rfl⟩
      rw [← hnz] at hsz
      obtain ⟨z0, z1, z2, z3, z4⟩ : w.cell? ⟨y.a.g, 0, none⟩ = some (.int .i64 z.a.d.k) ∧ w.cell? ⟨y.a.g, 1, none⟩ = some (.int .i64 z.a.d.w) ∧ w.cell? ⟨y.a.g, 2, none⟩ = some (.int .i64 z.a.d.c) ∧ w.cell? ⟨y.a.g, 3, none⟩ = some (.int .i64 z.a.d.s) ∧ w.cell? ⟨y.a.g, 4, none⟩ = some (.slice pz nz cz) :=
        ⟨by simpa using hz5.cells 0 _ rfl, by simpa using hz5.cells 1 _ rfl, by simpa using hz5.cells 2 _ rfl, by simpa using hz5.cells 3 _ rfl, by rw [← hsz]; simpa using hz5.cells 4 _ rfl⟩
      have hygl := block_of_cell' z0
      have hlbp : lb ≠ p.a.g := fun e => by
        have h1 := HR.out.loc_not HP.out
        rw [← HL.out] at h1
        have h2 : p.a.g ∈ blks p := by have hY := HY.out; obtain ⟨a, ks⟩ := p; rw [blks_kid (show ks[i]? = some y from hY)]; simp
        exact h1 (by show lb ∈ blks p; rw [e]; exact h2)
      have hyp : y.a.g ≠ p.a.g := fun e => by
        have h1 := HR.out.loc_not HGY.out
        rw [HLY.out] at h1
        have h2 : y.a.g ∈ blks y := by obtain ⟨a, ks⟩ := y; rw [blks_kid (show ks[0]? = some z from hz)]; simp
        exact h1 (by show p.a.g ∈ blks y; rw [← e]; exact h2)
      have HHZ := Lib.hid hz
      have HGZ := Lib.hid hgz
      have HSZ := Lib.hid hsz
      clear hz hgz hlz hz5 hsz hnz h0
      go_enter Try.func72, Try.ntmps72
      go_wp2_with fail
      obtain ⟨wA, hwA⟩ : ∃ wA, wA = w.alloc (.cells #[.int .i64 y.a.d.k, .int .i64 y.a.d.w, .int .i64 y.a.d.c, .int .i64 y.a.d.s, .slice (some ⟨y.a.g, 0, none⟩) 1 y.a.cap] 24) := ⟨_, rfl⟩
      have hBA : Below w.heap.size w wA := by rw [hwA]; exact (Below.refl _ _).alloc (Nat.le_refl _) _
      have hqA : Blk wA w.heap.size 24 #[.int .i64 y.a.d.k, .int .i64 y.a.d.w, .int .i64 y.a.d.c, .int .i64 y.a.d.s, .slice (some ⟨y.a.g, 0, none⟩) 1 y.a.cap] := by rw [hwA]; exact Blk.new _ _ _
      have eA : ∀ b o, b < w.heap.size → wA.cell? ⟨b, o, none⟩ = w.cell? ⟨b, o, none⟩ := fun b o h => cell_same (hBA.block b h) o
      rw [← eA _ _ hlbl] at h4
      rw [← eA _ _ hygl] at z0 z1 z2 z3 z4
      rw [← eA _ _ hpgl] at y0 y1 y2 y3 y4
      have hRA := HR.out.next hBA
      have hfr : ∀ k, wA.frozen? ⟨p.a.g, k, none⟩ = false := fun k => by have := (hRA.held.get HGY.out).free k; rwa [HLY.out] at this
      have f0 := hfr (i * 5)
      have f1 := hfr (i * 5 + 1)
      have f2 := hfr (i * 5 + 2)
      have f3 := hfr (i * 5 + 3)
      have f4 := hfr (i * 5 + 4)
      have hbp : w.heap.size ≠ p.a.g := by omega
      have b4 := hqA.at_ (i := 4) rfl
      have b1 := hqA.at_ (i := 1) rfl
      have S0 := And.intro (And.intro h4 b4) (And.intro z0 (And.intro z1 (And.intro z2 (And.intro z3 z4))))
      have hfar : ∀ b, b ≠ p.a.g → (((((wA.drew.setCell ⟨p.a.g, i * 5, none⟩ (.int .i64 z.a.d.k)).setCell ⟨p.a.g, i * 5 + 1, none⟩ (.int .i64 z.a.d.w)).setCell ⟨p.a.g, i * 5 + 2, none⟩ (.int .i64 z.a.d.c)).setCell ⟨p.a.g, i * 5 + 3, none⟩ (.int .i64 z.a.d.s)).setCell ⟨p.a.g, i * 5 + 4, none⟩ (.slice pz nz cz)).heap[b]? = wA.heap[b]? := fun b hb => by
        rw [Below.heap_setCell _ ⟨p.a.g, i * 5 + 4, none⟩ _ b hb, Below.heap_setCell _ ⟨p.a.g, i * 5 + 3, none⟩ _ b hb, Below.heap_setCell _ ⟨p.a.g, i * 5 + 2, none⟩ _ b hb, Below.heap_setCell _ ⟨p.a.g, i * 5 + 1, none⟩ _ b hb, Below.heap_setCell _ ⟨p.a.g, i * 5, none⟩ _ b hb]
        rfl
      have g := fun b o h => cell_same (hfar b h) o
      have S1 := And.intro (And.intro ((g _ _ hlbp).trans h4) ((g _ _ hbp).trans b4)) (And.intro ((g _ _ hyp).trans z0) (And.intro ((g _ _ hyp).trans z1) (And.intro ((g _ _ hyp).trans z2) (And.intro ((g _ _ hyp).trans z3) ((g _ _ hyp).trans z4)))))
      have hfar2 : ∀ b, b ≠ p.a.g → (((((wA.setCell ⟨p.a.g, i * 5, none⟩ (.int .i64 z.a.d.k)).setCell ⟨p.a.g, i * 5 + 1, none⟩ (.int .i64 z.a.d.w)).setCell ⟨p.a.g, i * 5 + 2, none⟩ (.int .i64 z.a.d.c)).setCell ⟨p.a.g, i * 5 + 3, none⟩ (.int .i64 z.a.d.s)).setCell ⟨p.a.g, i * 5 + 4, none⟩ (.slice pz nz cz)).heap[b]? = wA.heap[b]? := hfar
      obtain ⟨cur, hc1, -, hc3⟩ := hRA.block HGY.out
      rw [HLY.out] at hc1 hc3
      have hRep := (Repl.refl hc1 hc3).five (enc_len _ _) (.int .i64 z.a.d.k) (.int .i64 z.a.d.w) (.int .i64 z.a.d.c) (.int .i64 z.a.d.s) (.slice pz nz cz)
      have HREP := Lib.hid hRep
      have HH4 := Lib.hid h4
      have HB1 := Lib.hid b1
      have HPGL := Lib.hid hpgl
      have HFAR := Lib.hid hfar2
      have HBA := Lib.hid hBA
      have HRA := Lib.hid hRA
      have HQA := Lib.hid hqA
      rw [← hwA]
      clear hwA hBA hqA eA hfr g hfar hfar2 hc1 hc3 hRep hRA
      refine wp_region_noPanic ?_
      refine wp_region_held_drew (S := fun wx => (wx.cell? ⟨lb, lo + 4, none⟩ = some (.slice (some ⟨p.a.g, 0, none⟩) np p.a.cap) ∧ wx.cell? ⟨w.heap.size, 4, none⟩ = some (.slice (some ⟨y.a.g, 0, none⟩) 1 y.a.cap)) ∧ (wx.cell? ⟨y.a.g, 0, none⟩ = some (.int .i64 z.a.d.k) ∧ wx.cell? ⟨y.a.g, 1, none⟩ = some (.int .i64 z.a.d.w) ∧ wx.cell? ⟨y.a.g, 2, none⟩ = some (.int .i64 z.a.d.c) ∧ wx.cell? ⟨y.a.g, 3, none⟩ = some (.int .i64 z.a.d.s) ∧ wx.cell? ⟨y.a.g, 4, none⟩ = some (.slice pz nz cz))) (by kernel_rfl) (by exact S0) (fun hHeld => ?_)
      refine wpAnyH_take (i := 0) (v := ?v0) rfl (by kernel_rfl) (by kernel_rfl) (by kernel_rfl) (fun _ _ _ h => h) (Or.inl ⟨by kernel_rfl, ?y0⟩) (by assumption) ?r0
      case y0 => (intro wq hSw; (try dsimp only at hSw); go_simp; (try with_reducible rfl))
      (try simp only [Act.put, List.getElem_toArray, List.getElem_cons_zero, List.setIfInBounds_toArray, List.set_cons_zero, List.set_cons_succ])
      refine wpAnyH_take (i := 1) (v := ?v1) rfl (by kernel_rfl) (by kernel_rfl) (by kernel_rfl) (fun _ _ _ h => h) (Or.inl ⟨by kernel_rfl, ?y1⟩) (by assumption) ?r1
      case y1 => (intro wq hSw; (try dsimp only at hSw); go_simp; (try with_reducible rfl))
      (try simp only [Act.put, List.getElem_toArray, List.getElem_cons_succ, List.getElem_cons_zero, List.setIfInBounds_toArray, List.set_cons_zero, List.set_cons_succ])
      refine wpAnyH_take (i := 2) (v := ?v2) rfl (by kernel_rfl) (by kernel_rfl) (by kernel_rfl) (fun _ _ _ h => h) (Or.inl ⟨by kernel_rfl, ?y2⟩) (by assumption) ?r2
      case y2 => (intro wq hSw; (try dsimp only at hSw); go_simp; (try with_reducible rfl))
      (try simp only [Act.put, List.getElem_toArray, List.getElem_cons_succ, List.getElem_cons_zero, List.setIfInBounds_toArray, List.set_cons_zero, List.set_cons_succ])
      refine wpAnyH_take (i := 3) (v := ?v3) rfl (by kernel_rfl) (by kernel_rfl) (by kernel_rfl) (fun _ _ _ h => h) (Or.inl ⟨by kernel_rfl, ?y3⟩) (by assumption) ?r3
      case y3 => (intro wq hSw; (try dsimp only at hSw); go_simp; (try with_reducible rfl))
      (try simp only [Act.put, List.getElem_toArray, List.getElem_cons_succ, List.getElem_cons_zero, List.setIfInBounds_toArray, List.set_cons_zero, List.set_cons_succ])
      refine wpAnyH_take (i := 4) (v := ?v4) rfl (by kernel_rfl) (by kernel_rfl) (by kernel_rfl) (fun _ _ _ h => h) (Or.inl ⟨by kernel_rfl, ?y4⟩) (by assumption) ?r4
      case y4 => (intro wq hSw; (try dsimp only at hSw); go_simp; (try with_reducible rfl))
      (try simp only [Act.put, List.getElem_toArray, List.getElem_cons_succ, List.getElem_cons_zero, List.setIfInBounds_toArray, List.set_cons_zero, List.set_cons_succ])
      refine wpAnyH_take (i := 5) (v := ?v5) rfl (by kernel_rfl) (by kernel_rfl) (by kernel_rfl) (fun _ _ _ h => h) (Or.inl ⟨by kernel_rfl, ?y5⟩) (by assumption) ?r5
      case y5 => (intro wq hSw; (try dsimp only at hSw); go_simp; (try with_reducible rfl))
      (try simp only [Act.put, List.getElem_toArray, List.getElem_cons_succ, List.getElem_cons_zero, List.setIfInBounds_toArray, List.set_cons_zero, List.set_cons_succ])
      refine wpAnyH_take (i := 6) (v := ?v6) rfl (by kernel_rfl) (by kernel_rfl) (by kernel_rfl) (fun _ _ _ h => h) (Or.inl ⟨by kernel_rfl, ?y6⟩) (by assumption) ?r6
      case y6 => (intro wq hSw; (try dsimp only at hSw); go_simp; (try with_reducible rfl))
      (try simp only [Act.put, List.getElem_toArray, List.getElem_cons_succ, List.getElem_cons_zero, List.setIfInBounds_toArray, List.set_cons_zero, List.set_cons_succ])
      refine wpAnyH_take (i := 7) (v := ?v7) rfl (by kernel_rfl) (by kernel_rfl) (by kernel_rfl) (fun _ _ _ h => h) (Or.inl ⟨by kernel_rfl, ?y7⟩) (by assumption) ?r7
      case y7 => (intro wq hSw; (try dsimp only at hSw); go_simp; (try with_reducible rfl))
      (try simp only [Act.put, List.getElem_toArray, List.getElem_cons_succ, List.getElem_cons_zero, List.setIfInBounds_toArray, List.set_cons_zero, List.set_cons_succ])
      refine wpAnyH_take (i := 8) (v := ?v8) rfl (by kernel_rfl) (by kernel_rfl) (by kernel_rfl) (fun _ _ _ h => h) (Or.inl ⟨by kernel_rfl, ?y8⟩) (by assumption) ?r8
      case y8 => (intro wq hSw; (try dsimp only at hSw); go_simp; (try with_reducible rfl))
      (try simp only [Act.put, List.getElem_toArray, List.getElem_cons_succ, List.getElem_cons_zero, List.setIfInBounds_toArray, List.set_cons_zero, List.set_cons_succ])
      refine wpAnyH_take (i := 9) (v := ?v9) rfl (by kernel_rfl) (by kernel_rfl) (by kernel_rfl) (fun _ _ _ h => h) (Or.inl ⟨by kernel_rfl, ?y9⟩) (by assumption) ?r9
      case y9 => (intro wq hSw; (try dsimp only at hSw); go_simp; (try with_reducible rfl))
      (try simp only [Act.put, List.getElem_toArray, List.getElem_cons_succ, List.getElem_cons_zero, List.setIfInBounds_toArray, List.set_cons_zero, List.set_cons_succ])
      refine wpAnyH_ready (rs := [10]) (by kernel_rfl) (by simp) ?_
      refine AllReadyH.cons rfl (fun K hK => ?_) AllReadyH.nil
      go_simp
      refine hK.out _ _ (by exact S1) (fun hHeld => ?_)
      clear hK K
      (try simp only [Act.put, List.getElem_toArray, List.getElem_cons_succ, List.getElem_cons_zero, List.setIfInBounds_toArray, List.set_cons_zero, List.set_cons_succ])
      refine wpAnyH_done (by kernel_rfl) ?_ _
      refine NoPanic.normal ?_
      clear S0 S1 hHeld y0 y1 y2 y3 y4 z0 z1 z2 z3 z4 b4 h4 b1 f0 f1 f2 f3 f4 hf4
      go_wp2_with fail
      obtain ⟨w5, hw5⟩ : ∃ w5, w5 = (((((wA.setCell ⟨p.a.g, i * 5, none⟩ (.int .i64 z.a.d.k)).setCell ⟨p.a.g, i * 5 + 1, none⟩ (.int .i64 z.a.d.w)).setCell ⟨p.a.g, i * 5 + 2, none⟩ (.int .i64 z.a.d.c)).setCell ⟨p.a.g, i * 5 + 3, none⟩ (.int .i64 z.a.d.s)).setCell ⟨p.a.g, i * 5 + 4, none⟩ (.slice pz nz cz)) := ⟨_, rfl⟩
      rw [← hw5] at HREP HFAR ⊢
      have HW5 := Lib.hid hw5
      have a4 := (cell_same (HFAR.out lb hlbp) (lo + 4)).trans HH4.out
      have a1 := (cell_same (HFAR.out w.heap.size hbp) 1).trans HB1.out
      obtain ⟨q1, q2⟩ : w5.cell? ⟨p.a.g, i * 5 + 1, none⟩ = some (.int .i64 z.a.d.w) ∧ w5.frozen? ⟨p.a.g, i * 5 + 1, none⟩ = false := by
        obtain ⟨k1, k2, _, hk, _, _, h5⟩ := HREP.out
        exact ⟨by rw [cell_of_row w5 _ _ k2 _ (0, 0) hk]; exact h5 1 (by omega), by simp [World.frozen?, hk]⟩
      have S7 := And.intro a4 a1
      have hfar6 : ∀ b, b ≠ p.a.g → (w5.setCell ⟨p.a.g, i * 5 + 1, none⟩ (.int .i64 y.a.d.w)).heap[b]? = w5.heap[b]? := fun b hb => Below.heap_setCell _ ⟨p.a.g, i * 5 + 1, none⟩ _ b hb
      have S8 := And.intro ((cell_same (hfar6 lb hlbp) (lo + 4)).trans a4) ((cell_same (hfar6 w.heap.size hbp) 1).trans a1)
      have HF6 := Lib.hid hfar6
      clear hw5 hfar6
      refine wp_region_noPanic ?_
      refine wp_region_held_drew (S := fun wx => wx.cell? ⟨lb, lo + 4, none⟩ = some (.slice (some ⟨p.a.g, 0, none⟩) np p.a.cap) ∧ wx.cell? ⟨w.heap.size, 1, none⟩ = some (.int .i64 y.a.d.w)) (by kernel_rfl) (by exact S7) (fun hHeld => ?_)
      refine wpAnyH_take (i := 0) (v := ?vs0) rfl (by kernel_rfl) (by kernel_rfl) (by kernel_rfl) (fun _ _ _ h => h) (Or.inl ⟨by kernel_rfl, ?ys0⟩) (by assumption) ?rs0
      case ys0 => (intro wq hSw; (try dsimp only at hSw); go_simp; (try with_reducible rfl))
      (try simp only [Act.put, List.getElem_toArray, List.getElem_cons_zero, List.setIfInBounds_toArray, List.set_cons_zero, List.set_cons_succ])
      refine wpAnyH_take (i := 1) (v := ?vs1) rfl (by kernel_rfl) (by kernel_rfl) (by kernel_rfl) (fun _ _ _ h => h) (Or.inl ⟨by kernel_rfl, ?ys1⟩) (by assumption) ?rs1
      case ys1 => (intro wq hSw; (try dsimp only at hSw); go_simp; (try with_reducible rfl))
      (try simp only [Act.put, List.getElem_toArray, List.getElem_cons_succ, List.getElem_cons_zero, List.setIfInBounds_toArray, List.set_cons_zero, List.set_cons_succ])
      refine wpAnyH_take (i := 2) (v := ?vs2) rfl (by kernel_rfl) (by kernel_rfl) (by kernel_rfl) (fun _ _ _ h => h) (Or.inl ⟨by kernel_rfl, ?ys2⟩) (by assumption) ?rs2
      case ys2 => (intro wq hSw; (try dsimp only at hSw); go_simp; (try with_reducible rfl))
      (try simp only [Act.put, List.getElem_toArray, List.getElem_cons_succ, List.getElem_cons_zero, List.setIfInBounds_toArray, List.set_cons_zero, List.set_cons_succ])
      refine wpAnyH_take (i := 3) (v := ?vs3) rfl (by kernel_rfl) (by kernel_rfl) (by kernel_rfl) (fun _ _ _ h => h) (Or.inl ⟨by kernel_rfl, ?ys3⟩) (by assumption) ?rs3
      case ys3 => (intro wq hSw; (try dsimp only at hSw); go_simp; (try with_reducible rfl))
      (try simp only [Act.put, List.getElem_toArray, List.getElem_cons_succ, List.getElem_cons_zero, List.setIfInBounds_toArray, List.set_cons_zero, List.set_cons_succ])
      refine wpAnyH_take (i := 4) (v := ?vs4) rfl (by kernel_rfl) (by kernel_rfl) (by kernel_rfl) (fun _ _ _ h => h) (Or.inl ⟨by kernel_rfl, ?ys4⟩) (by assumption) ?rs4
      case ys4 => (intro wq hSw; (try dsimp only at hSw); go_simp; (try with_reducible rfl))
      (try simp only [Act.put, List.getElem_toArray, List.getElem_cons_succ, List.getElem_cons_zero, List.setIfInBounds_toArray, List.set_cons_zero, List.set_cons_succ])
      refine wpAnyH_take (i := 5) (v := ?vs5) rfl (by kernel_rfl) (by kernel_rfl) (by kernel_rfl) (fun _ _ _ h => h) (Or.inl ⟨by kernel_rfl, ?ys5⟩) (by assumption) ?rs5
      case ys5 => (intro wq hSw; (try dsimp only at hSw); go_simp; (try with_reducible rfl))
      (try simp only [Act.put, List.getElem_toArray, List.getElem_cons_succ, List.getElem_cons_zero, List.setIfInBounds_toArray, List.set_cons_zero, List.set_cons_succ])
      refine wpAnyH_take (i := 6) (v := ?vs6) rfl (by kernel_rfl) (by kernel_rfl) (by kernel_rfl) (fun _ _ _ h => h) (Or.inl ⟨by kernel_rfl, ?ys6⟩) (by assumption) ?rs6
      case ys6 => (intro wq hSw; (try dsimp only at hSw); go_simp; (try with_reducible rfl))
      (try simp only [Act.put, List.getElem_toArray, List.getElem_cons_succ, List.getElem_cons_zero, List.setIfInBounds_toArray, List.set_cons_zero, List.set_cons_succ])
      refine wpAnyH_take (i := 7) (v := ?vs7) rfl (by kernel_rfl) (by kernel_rfl) (by kernel_rfl) (fun _ _ _ h => h) (Or.inl ⟨by kernel_rfl, ?ys7⟩) (by assumption) ?rs7
      case ys7 => (intro wq hSw; (try dsimp only at hSw); go_simp; (try with_reducible rfl))
      (try simp only [Act.put, List.getElem_toArray, List.getElem_cons_succ, List.getElem_cons_zero, List.setIfInBounds_toArray, List.set_cons_zero, List.set_cons_succ])
      refine wpAnyH_take (i := 8) (v := ?vs8) rfl (by kernel_rfl) (by kernel_rfl) (by kernel_rfl) (fun _ _ _ h => h) (Or.inl ⟨by kernel_rfl, ?ys8⟩) (by assumption) ?rs8
      case ys8 => (intro wq hSw; (try dsimp only at hSw); go_simp; (try with_reducible rfl))
      (try simp only [Act.put, List.getElem_toArray, List.getElem_cons_succ, List.getElem_cons_zero, List.setIfInBounds_toArray, List.set_cons_zero, List.set_cons_succ])
      refine wpAnyH_ready (rs := [9]) (by kernel_rfl) (by simp) ?_
      refine AllReadyH.cons rfl (fun K hK => ?_) AllReadyH.nil
      go_simp
      refine hK.out _ _ (by exact S8) (fun hHeld => ?_)
      clear hK K
      (try simp only [Act.put, List.getElem_toArray, List.getElem_cons_succ, List.getElem_cons_zero, List.setIfInBounds_toArray, List.set_cons_zero, List.set_cons_succ])
      refine wpAnyH_done (by kernel_rfl) ?_ _
      refine NoPanic.normal ?_
      clear S7 S8 hHeld a4 a1 q1 q2
      go_wp2_with fail
      go_end0
      rw [HRR.out]
      have hne : ∀ b ∈ blks z, b ≠ p.a.g := fun b hb e => by
        have h1 := HR.out.loc_not HGY.out
        rw [HLY.out] at h1
        exact h1 (by show p.a.g ∈ blks y; rw [← e]; have hz := HHZ.out; obtain ⟨a, ks⟩ := y; rw [blks_kid (show ks[0]? = some z from hz)]; simp [hb])
      have hsub : ∀ b ∈ blks z, b ∈ blks y := fun b hb => by have hz := HHZ.out; obtain ⟨a, ks⟩ := y; rw [blks_kid (show ks[0]? = some z from hz)]; simp [hb]
      obtain ⟨w6, hw6⟩ : ∃ w6, w6 = w5.setCell ⟨p.a.g, i * 5 + 1, none⟩ (.int .i64 y.a.d.w) := ⟨_, rfl⟩
      have hfar7 : ∀ b, b ≠ p.a.g → w6.heap[b]? = wA.heap[b]? := fun b hb => by rw [hw6]; exact (HF6.out b hb).trans (HFAR.out b hb)
      have hRep := HREP.out.set (f := 1) (by omega) rfl (.int .i64 y.a.d.w)
      rw [← hw6] at hRep ⊢
      have hsz6 : w6.heap.size = wA.heap.size := by rw [hw6, HW5.out]; simp [World.setCell]
      have hzo := HRA.out.held.get HGZ.out
      have hb6 : blks (.mk { z.a with d := { z.a.d with w := y.a.d.w } } z.ks) = blks z := by obtain ⟨a, ks⟩ := z; rfl
      have hown : Own w6 (.mk { z.a with d := { z.a.d with w := y.a.d.w } } z.ks) := by
        have := hzo.own.same (w' := w6) fun b hb => hfar7 b (hne b hb)
        obtain ⟨a, ks⟩ := z; exact this
      have hput := HRA.out.put (w' := w6) (s' := .mk { z.a with d := { z.a.d with w := y.a.d.w } } z.ks) HGY.out (by
          rw [HLY.out, show encC (Tr.mk { z.a with d := { z.a.d with w := y.a.d.w } } z.ks : ATr).a.d (slA (.mk { z.a with d := { z.a.d with w := y.a.d.w } } z.ks)) = [.int .i64 z.a.d.k, .int .i64 y.a.d.w, .int .i64 z.a.d.c, .int .i64 z.a.d.s, slA z] from rfl, HSZ.out]
          exact hRep)
        (fun x hx _ hxp => by rw [HLY.out] at hxp; exact hfar7 x hxp) hown (by rw [hb6]; exact HRA.out.nodup_at HGZ.out) (fun x hx => .inl (hsub x (hb6 ▸ hx))) (Nat.le_trans HNN.out HBA.out.size)
      refine ⟨rfl, _, ⟨hput.drew.drew, ?_⟩, ?_⟩
      · refine (Turn.of_below (F := fun b => b ∈ blks (topT r t)) HBA.out).trans ?_
        refine ⟨?_, ?_, ?_, by show wA.heap.size ≤ w6.heap.size; omega, fun b _ hb => hfar7 b fun e => hb (by have := HRA.out.loc_mem HGY.out; rw [HLY.out] at this; exact e ▸ this), put_foot HGY.out fun x hx => .inl (hsub x (hb6 ▸ hx))⟩
        · show w6.os = wA.os; rw [hw6, HW5.out]; rfl
        · show w6.tape = wA.tape; rw [hw6, HW5.out]; rfl
        · show w6.output = wA.output; rw [hw6, HW5.out]; rfl
      · rw [HT1.out, era_put HGY.out, List.getElem?_map, HHZ.out]
        simp only [Option.map_some, era_mk, era_ks, era_a]
    · have HT1 := Lib.hid (((HT.out).trans (if_neg h0)).trans (if_neg h1))
      have hn0 : ((ny : Int) == 0) = false := by simp; omega
      have hn1 : ((ny : Int) == 1) = false := by simp; omega
      have hbA := (Below.refl w.heap.size w).alloc (Nat.le_refl _) (.cells #[.int .i64 y.a.d.k, .int .i64 y.a.d.w, .int .i64 y.a.d.c, .int .i64 y.a.d.s, .slice py ny cy] 24)
      have HBA := Lib.hid hbA
      clear hbA h0 h1 HT
      go_enter Try.func72, Try.ntmps72
      go_wp2_with fail
      go_end0
      rw [HRR.out]
      exact ⟨rfl, t, ⟨HR.out.next HBA.out, (Turn.of_below HBA.out)⟩, HT1.out.symm⟩
end Go.Proofs.Ytjeabkcbaielhaa.Co
