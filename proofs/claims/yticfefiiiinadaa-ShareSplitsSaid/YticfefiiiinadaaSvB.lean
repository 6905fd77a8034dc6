/- share.Split at every length. -/
import Derived.Test.YticfefiiiinadaaSvA
namespace Go.Proofs.Yticfefiiiinadaa
open Go.RowKit Go.Lib Go.Sort

set_option maxHeartbeats 4000000 in
set_option maxRecDepth 100000 in
theorem split_g (total : Int) (b off cap : Nat) (zs : List Int) (w : World) (hk : chk zs = 0) (ht0 : 0 ≤ total) (ht1 : total ≤ 65536) (hb : b < w.heap.size) (hc : SI w b off zs) :
    Calls Try.prog 18 #[.int .i64 total, .slice (some ⟨b, off, none⟩) zs.length cap] w fun e w' => ∃ v, e = .returned (.tuple #[v, .int .i64 0]) ∧ One1 w.heap.size w w' v (splitL total zs) := by
  obtain ⟨hn0, hn64, hz⟩ := chk_zero hk
  have hS := sum_pos hn0 hz
  obtain ⟨mm, hmm⟩ : ∃ mm : Nat, missing total zs = mm := ⟨(missing total zs).toNat, by have := missing_bounds total zs hS hn0; omega⟩
  have hmz : mm < zs.length := by have := missing_bounds total zs hS hn0; omega
  have hPb := partsL_bound total zs ht0 ht1 hz hS
  have hPl := partsL_length total zs
  have hOl := overL_length total zs
  have hcheck := check_c b off cap zs w (by omega) hc
  rw [hk] at hcheck
  have hcut : ∀ w1, Below w.heap.size w w1 → Calls Try.prog 25 #[.int .i64 total, .slice (some ⟨b, off, none⟩) zs.length cap] w1 fun e w' => ∃ gp cp go co, e = .returned (.tuple #[.slice (some ⟨gp, 0, none⟩) zs.length cp, .slice (some ⟨go, 0, none⟩) zs.length co]) ∧
      Hid (Below w.heap.size w w' ∧ OI w' w.heap.size (.slice (some ⟨gp, 0, none⟩) zs.length cp) (partsL total zs) ∧ w.heap.size ≤ gp ∧ gp < w'.heap.size ∧ SI w' gp 0 (partsL total zs) ∧ go < w'.heap.size ∧ SI w' go 0 (overL total zs)) := by
    intro w1 hb1
    refine (cut_c total b off cap zs w1 ht0 ht1 hz hn0 hn64 (Nat.lt_of_lt_of_le hb hb1.size) (SI.below hc hb1 hb)).mono ?_
    rintro e w2 ⟨pv, ov, rfl, hT⟩
    have hne1 : partsL total zs ≠ [] := by intro h; rw [h] at hPl; simp at hPl; omega
    have hne2 : overL total zs ≠ [] := by intro h; rw [h] at hOl; simp at hOl; omega
    obtain ⟨gp, cp, rfl, h1, h2, h3, _⟩ := hT.2.1.form hne1
    obtain ⟨go, co, rfl, h4, h5, h6, _⟩ := hT.2.2.1.form hne2
    have hs1 := hb1.size
    have hO := hT.2.1.mono hs1
    rw [hPl, hOl]
    rw [hPl] at hO
    exact ⟨gp, cp, go, co, rfl, hb1.trans (hT.1.mono hs1), hO, by omega, h2, h3, h5, h6⟩
  have hsum : ∀ (gp cp : Nat) (w2 : World), SI w2 gp 0 (partsL total zs) → Calls Try.prog 26 #[.slice (some ⟨gp, 0, none⟩) zs.length cp] w2 fun e w' => e = .returned (.int .i64 (total - mm)) ∧ w2 = w' := by
    intro gp cp w2 h
    have := sum_c gp 0 cp (partsL total zs) w2 _ hPb (by omega) (by omega) (by omega) h
    rw [hPl] at this
    rwa [show total - (mm : Int) = sumI (partsL total zs) by rw [← hmm]; unfold missing; omega]
  have hmost : ∀ (go co : Nat) (w2 : World), go < w2.heap.size → SI w2 go 0 (overL total zs) → Calls Try.prog 27 #[.slice (some ⟨go, 0, none⟩) zs.length co] w2 fun e w' => ∃ (gr cr : Nat) (p : Nat → Nat), e = .returned (.slice (some ⟨gr, 0, none⟩) zs.length cr) ∧ zs.length ≤ cr ∧ (cr : Int) ≤ 9223372036854775807 ∧
      Hid (MF (overL total zs) p ∧ RowKit.Below w2.heap.size w2 w' ∧ w2.heap.size ≤ gr ∧ SI w' gr 0 ((List.range zs.length).map (fun k => ((p k : Nat) : Int)))) := by
    intro go co w2 hgo h
    have := mostFirst_g go 0 co (overL total zs) w2 (by omega) (by omega) hgo h
    rw [hOl] at this
    refine this.mono ?_
    rintro e w3 ⟨v, p, rfl, hM, hO⟩
    have hrl : ((List.range zs.length).map (fun k => ((p k : Nat) : Int))).length = zs.length := by simp
    obtain ⟨gr, cr, rfl, h1, h2, h3, _⟩ := hO.2.form (by intro h; rw [h] at hrl; simp at hrl; omega)
    have hroom := hO.2.room
    rw [hrl] at hroom ⊢
    refine ⟨gr, cr, p, rfl, hroom.1, ?_, hM, hO.1, h1, h3⟩
    have := hroom.2; unfold maxLen at this; omega
  have hsp : ∀ p, MF (overL total zs) p → splitL total zs = addAll ((List.range mm).map p) (partsL total zs) := by
    intro p hM
    unfold splitL
    rw [hmm, Int.toNat_natCast]
    exact (loopR_eq hM (overL_nonneg total zs hS) (partsL total zs) mm (by omega)).1
  generalize splitL total zs = SPL at hsp ⊢
  have HSP := Lib.hid hsp
  have hAB : ∀ (ps : List Nat) x, 0 ≤ (addAll ps (partsL total zs)).getD x 0 ∧ (addAll ps (partsL total zs)).getD x 0 ≤ 65536 * 1048576 + ps.length := fun ps x => addAll_bound ps _ _ (fun x => getD_bound hPb (by omega) x) (by omega) x
  clear hsp
  generalize hPL : partsL total zs = PL at hPb hPl hcut hsum hAB HSP
  generalize overL total zs = OL at hOl hcut hmost HSP
  have hABH := Lib.hid hAB
  have hPBH := Lib.hid hPb
  clear hAB hPb hmm hS hz hk hc hPL
  go_enter Try.func18, Try.ntmps18
  go_wp2_with (first
    | (go_at_call 16; refine hcheck.mono ?_; rintro e w1 ⟨rfl, hb1⟩)
    | (go_at_call 25; refine (hcut _ (by assumption)).mono ?_; rintro e w2 ⟨gp, cp, go, co, rfl, hCUT⟩)
    | (go_at_call 26; refine (hsum _ _ _ hCUT.out.2.2.2.2.1).mono ?_; rintro e w3 ⟨rfl, rfl⟩)
    | (go_at_call 27; refine (hmost _ _ _ hCUT.out.2.2.2.2.2.1 hCUT.out.2.2.2.2.2.2).mono ?_; rintro e w4 ⟨gr, cr, p, rfl, hcr1, hcr2, hMOST⟩))
  have hC := hCUT.out
  have hMF := hMOST.out.1
  have hM := hMOST.out.2
  have hs2 := hM.1.size
  have hADD : Hid (∀ k, k < mm → p k < zs.length ∧ ((List.range zs.length).map (fun k => ((p k : Nat) : Int))).getD k 0 = (p k : Int)) := by
    intro k hkm
    refine ⟨by have := hMF.lt k (by omega); omega, ?_⟩
    rw [List.getD_eq_getElem?_getD, List.getElem?_map, List.getElem?_range (by omega)]; rfl
  have hrl : ((List.range zs.length).map (fun k => ((p k : Nat) : Int))).length = zs.length := by simp
  have HEQ := Lib.hid (HSP.out p hMF)
  generalize (List.range zs.length).map (fun k => ((p k : Nat) : Int)) = RL at hM hADD hrl
  have hstart : Adds w.heap.size gp cp gr zs.length w (addAll ((List.range 0).map p) PL) RL w4 :=
    ⟨hC.1.trans (hM.1.mono hC.1.size), OI.below hC.2.1 hM.1, hM.2.2⟩
  have hST := Lib.hid hstart
  have hgp : w.heap.size ≤ gp := hC.2.2.1
  have hgr : gp ≠ gr := by have := hC.2.2.2.1; have := hM.2.1; omega
  clear hC hM hs2 hstart hCUT hMOST hMF
  go_loopw [38] (fun i wr => ∃ k : Nat, k ≤ mm ∧ i = .int .i64 k ∧ Aside (Adds w.heap.size gp cp gr zs.length w (addAll ((List.range k).map p) PL) RL wr)) (fun i _ => mm - (intOf i).toNat)
  case atStart => exact ⟨0, Nat.zero_le _, rfl, hST.out⟩
  case round =>
    clear hST
    obtain ⟨k, hk, rfl, hT⟩ := hrel
    have hT0 := Lib.hid hT
    clear hT
    by_cases hlt : k < mm
    · have hlt' : (k : Int) < (mm : Int) := by omega
      obtain ⟨hp1, hp2⟩ := hADD.out k hlt
      have hp1' : (p k : Int) < (zs.length : Int) := by omega
      have hcell : wr.cell? ⟨gr, k, none⟩ = some (.int .i64 (p k)) := by
        have := hT0.out.2.2 k (by omega)
        rw [Nat.zero_add, hp2] at this; exact this
      have hlen : (addAll ((List.range k).map p) PL).length = zs.length := by rw [addAll_length]; exact hPl
      have hcell2 : wr.cell? ⟨gp, p k, none⟩ = some (.int .i64 ((addAll ((List.range k).map p) PL).getD (p k) 0)) := by
        have := World.ownsRow.cellAt (hlen ▸ hT0.out.2.1) (p k) (by omega)
        rw [this, List.getElem?_map, List.getElem?_eq_getElem (by omega), List.getD_eq_getElem?_getD, List.getElem?_eq_getElem (by omega)]; rfl
      have hfz : wr.frozen? ⟨gp, p k, none⟩ = false := World.ownsRow.frozenAt (hlen ▸ hT0.out.2.1) _
      have hbd := hABH.out ((List.range k).map p) (p k)
      rw [List.length_map, List.length_range] at hbd
      have hnext := Lib.hid (Adds.store (x := p k) hT0.out hgp hgr hlen)
      have hsnoc := Lib.hid (addAll_snoc ((List.range k).map p) (p k) PL)
      generalize (addAll ((List.range k).map p) PL).getD (p k) 0 = y at hcell2 hbd hnext
      clear hp2 hlen
      go_wp2
      go_roundw
      case rel => exact ⟨k + 1, by omega, by go_num, by rw [List.range_succ, List.map_append, List.map_cons, List.map_nil, hsnoc.out]; exact hnext.out⟩
      case measure => simp [intOf]; omega
    · have hlt' : ¬ (k : Int) < (mm : Int) := by omega
      have : k = mm := by omega
      subst this
      go_wp2
      go_ret2
      refine ⟨_, rfl, hT0.out.1, ?_⟩
      rw [HEQ.out]; exact hT0.out.2.1
end Go.Proofs.Yticfefiiiinadaa
