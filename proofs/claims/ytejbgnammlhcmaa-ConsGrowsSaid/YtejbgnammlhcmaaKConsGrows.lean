/- The code's grow: one weight alone. What cons.Grow's closure does, walked. cons.Grow: what change tells, told on. Plain: a weight of a tree grows; what the document's Grow asks of it. The document's Grow. The law's example. ConsRemoves, walked. What the calls that change a tree answer, in one form for the code's and the document's. ConsGrows, walked. An argument that is a container, opened. The law ConsGrows holds for every input: the call returns true, and each argument reads behind it as it read before. No condition. -/
import Derived.Test.YtejbgnammlhcmaaCoX
import Derived.Test.YtejbgnammlhcmaaKS
import Derived.Test.YtejbgnammlhcmaaCoY
import Derived.Test.YtejbgnammlhcmaaCoZ
import Derived.Test.YtejbgnammlhcmaaKY
import Derived.Test.YtejbgnammlhcmaaKX
import Derived.Test.YtejbgnammlhcmaaCpZ
import Derived.Test.YtejbgnammlhcmaaKZ
import Derived.Deep.Slices
import Derived.Deep.Fields
import Derived.SizedLaws
import Derived.Test.YtejbgnammlhcmaaRows
import Derived.Lib.SmallJoins
import Derived.Laws.Cover2
import Derived.ChangeMaps5
section
namespace Go.Proofs.Ytejbgnammlhcmaa.Co
open Go.RowKit Go.Shelf
/-- What a weight that is grown becomes. -/
def growZ (z : Int) (y : Nat) : Int := (growL [z] 0 y).getD 0 0
theorem grow9_c (b o : Nat) (z : Int) (y : Nat) (w : World) (hz : w.cell? ⟨b, o + 1, none⟩ = some (.int .i64 z)) (hf : w.frozen? ⟨b, o + 1, none⟩ = false) :
    Calls Try.prog 81 #[.pointer (some ⟨b, o, none⟩), .float .f64 y] w fun e w' => e = .returned (.int .i64 (growE [z] 0)) ∧ ∃ w1, Below w.heap.size w w1 ∧ ((growE [z] 0 = 0 ∧ w' = w1.setCell ⟨b, o + 1, none⟩ (.int .i64 (growZ z y))) ∨ (growE [z] 0 ≠ 0 ∧ w' = w1)) := by
  have hbl : b < w.heap.size := World.block_lt_of_cell? w ⟨b, o + 1, none⟩ hz
  have hq := Blk.new w 3 #[.int .i64 z]
  have hb0 := (Below.refl w.heap.size w).alloc (Nat.le_refl _) (.cells #[.int .i64 z] 3)
  have HG := Lib.hid (grow_c (.slice (some ⟨w.heap.size, 0, none⟩) 1 1) [z] 0 y (w.alloc (.cells #[.int .i64 z] 3)) (.inr ⟨w.heap.size, 0, 1, rfl, by simp, by simp, by simp, fun j hj => by
    obtain rfl : j = 0 := by simpa using hj
    exact hq.at_ rfl⟩))
  have HB0 := Lib.hid hb0
  have HZ := Lib.hid hz
  have HF := Lib.hid hf
  have hR0 : growE [z] 0 = 0 → growR [z] 0 y = [growZ z y] := fun h => by
    unfold growR growZ
    rw [if_pos h]
    have hl := growL_length [z] 0 y
    obtain ⟨a, ha⟩ : ∃ a, growL [z] (Int.toNat 0) y = [a] := List.length_eq_one_iff.1 hl
    rw [ha]
    have ha : growL [z] 0 y = [a] := ha
    rw [ha]; rfl
  have HR0 := Lib.hid hR0
  obtain ⟨E, hE⟩ : ∃ E, E = growE [z] 0 := ⟨_, rfl⟩
  obtain ⟨L, hL⟩ : ∃ L, L = growR [z] 0 y := ⟨_, rfl⟩
  rw [← hE] at HG HR0 ⊢
  rw [← hL] at HG HR0
  obtain ⟨x, hx⟩ : ∃ x, x = growZ z y := ⟨_, rfl⟩
  rw [← hx] at HR0 ⊢
  clear hq hb0 hf hR0 hE hL hx
  by_cases h0 : E = 0
  · subst h0
    have hl := HR0.out rfl
    subst hl
    clear HR0
    go_enter Try.func81, Try.ntmps81
    go_wp2_with fail
    refine HG.out.mono ?_
    rintro e w1 ⟨v', rfl, hb, ho⟩
    obtain ⟨g, cap, rfl, hge, hgl, hsi, -⟩ := ho.form (by simp)
    have hb1 := HB0.out.trans (hb.mono HB0.out.size)
    have hg0 : w1.cell? ⟨g, 0, none⟩ = some (.int .i64 x) := hsi 0 (by simp)
    have hc1 : w1.cell? ⟨b, o + 1, none⟩ = some (.int .i64 z) := (hb1.cell (p := ⟨b, o + 1, none⟩) hbl).trans HZ.out
    have hf1 : w1.frozen? ⟨b, o + 1, none⟩ = false := ((bcell (W := w) hb1).2 b (o + 1) hbl).trans HF.out
    have HB1 := Lib.hid hb1
    clear hb ho hb1 hsi hz
    go_wp2_with fail
    go_ret
    exact ⟨rfl, w1, HB1.out, .inl ⟨trivial, rfl⟩⟩
  · have HN := Lib.hid h0
    have hne : (E == 0) = false := by simpa using h0
    clear HR0
    go_enter Try.func81, Try.ntmps81
    go_wp2_with fail
    refine HG.out.mono ?_
    rintro e w1 ⟨v', rfl, hb, ho⟩
    have HB1 := Lib.hid (HB0.out.trans (hb.mono HB0.out.size))
    clear hb ho
    go_wp2_with fail
    go_ret
    exact ⟨rfl, w1, HB1.out, .inr ⟨HN.out, rfl⟩⟩
end Go.Proofs.Ytejbgnammlhcmaa.Co
end
section
namespace Go.Proofs.Ytejbgnammlhcmaa.Co
open Go.RowKit Go.Shelf
/-- From below upward: the first split of the kind, of two kids or more. -/
def growN (kind : Int) (y : Nat) (x : Con) (way : List Nat) : Nat → Con × Int
  | 0 => (x, 120)
  | d + 1 => match get x (way.take d), get x (way.take (d + 1)) with
    | some p, some q => if p.a.k = kind ∧ 2 ≤ p.ks.length then (if growE [q.a.w] 0 = 0 then (put x (way.take (d + 1)) (.mk { q.a with w := growZ q.a.w y } q.ks), 0) else (x, growE [q.a.w] 0)) else growN kind y x way d
    | _, _ => (x, 120)
def growF (kind : Int) (y : Nat) (x : Con) (way : List Nat) : Con × Int := growN kind y x way way.length
theorem growN_at {kind : Int} {y : Nat} {x p q : Con} {way : List Nat} {d : Nat} (hp : get x (way.take d) = some p) (hq : get x (way.take (d + 1)) = some q) : growN kind y x way (d + 1) = if p.a.k = kind ∧ 2 ≤ p.ks.length then (if growE [q.a.w] 0 = 0 then (put x (way.take (d + 1)) (.mk { q.a with w := growZ q.a.w y } q.ks), 0) else (x, growE [q.a.w] 0)) else growN kind y x way d := by
  simp only [growN, hp, hq]
theorem enters_grow : ∀ args w, (callFunc 80 args).run Try.prog w = .ok (.enter 80 args) w := enters_of Try.func80 (by kernel_rfl) rfl
theorem turn_false {F : Nat → Prop} {w w' : World} (hb : Below w.heap.size w w') : Turn F (fun _ => False) w w' := ⟨hb.os, hb.tape, hb.output, hb.size, fun i hl _ => hb.block i hl, fun _ h => h.elim⟩
/-- What lies along a way. -/
theorem way_at {t z : ATr} {u : List Nat} (h : get t u = some z) {k : Nat} (hk : k < u.length) : ∃ (p q : ATr) (i : Nat), u[k]? = some i ∧ get t (u.take k) = some p ∧ p.ks[i]? = some q ∧ get t (u.take (k + 1)) = some q ∧ ∀ b o, loc b o t (u.take (k + 1)) = (p.a.g, i * 5) := by
  have hi : u[k]? = some u[k] := List.getElem?_eq_getElem hk
  obtain ⟨p, q, h1, h2, h3⟩ := loc_step (b := 0) (o := 0) h hi
  have h4 : get t (u.take (k + 1)) = some q := by
    rw [take_snoc hi, get_append _ h1]; obtain ⟨a, ks⟩ := p; simp only [get]; rw [show ks[u[k]]? = some q from h2]
  refine ⟨p, q, u[k], hi, h1, h2, h4, fun b o => ?_⟩
  rw [take_snoc hi, loc_append _ h1]
  obtain ⟨a, ks⟩ := p
  rw [loc_cons (show ks[u[k]]? = some q from h2)]
  rfl
set_option maxHeartbeats 8000000 in
set_option maxRecDepth 100000 in
theorem how_grow (kb fb : Nat) (kind : Int) (y : Nat) : HowC 80 #[.pointer (some ⟨kb, 0, none⟩), .pointer (some ⟨fb, 0, none⟩)] (fun w => Blk w kb 3 #[.int .i64 kind] ∧ Blk w fb 48 #[.float .f64 y]) (growF kind y) := by
  intro N w r t u j p0 y0 v hK hN hR hW hp hy hfi hlen
  have hgy : get t (u ++ [j]) = some y0 := by rw [get_append _ hp]; obtain ⟨a, ks⟩ := p0; simp only [get]; rw [show ks[j]? = some y0 from hy]
  have hpos : 0 < (u ++ [j]).length := by simp
  obtain ⟨W, hWe⟩ : ∃ W, W = u ++ [j] := ⟨_, rfl⟩
  rw [← hWe] at hgy hW hlen hpos ⊢
  clear hp hy hWe
  obtain ⟨q, c, rfl⟩ := hW.slice
  have hnc : W.length ≤ c := by
    obtain ⟨q', c', e, -, h2, -⟩ := hW
    obtain ⟨-, -, rfl⟩ := Value.slice.inj e
    exact h2
  obtain ⟨bq, rfl⟩ : ∃ b, q = some ⟨b, 0, none⟩ := by
    obtain ⟨q', c', e, -, -, -, -, h5⟩ := hW
    obtain ⟨b, e2, -⟩ := h5 0 _ (List.getElem?_eq_getElem hpos)
    obtain ⟨rfl, -, -⟩ := Value.slice.inj e
    exact ⟨b, e2⟩
  obtain ⟨R, hRR⟩ : ∃ R, R = fun (e : Ending) (w' : World) => e = .returned (.int .i64 (growF kind y (era t) W).2) ∧ Turn (fun b => b ∈ blks (topT r t)) (fun _ => False) w w' ∧ ((growF kind y (era t) W).2 = 0 → ∃ t', Root N w' r t' ∧ era t' = (growF kind y (era t) W).1) := ⟨_, rfl⟩
  rw [← hRR]
  have HRR := Lib.hid hRR
  have HGF : Hid (growF kind y (era t) W = growN kind y (era t) W W.length) := rfl
  have HR := Lib.hid hR
  have HW := Lib.hid hW
  have HGY := Lib.hid hgy
  have HNN := Lib.hid hN
  have HK := Lib.hid hK
  obtain ⟨n, hn⟩ : ∃ n, n = W.length := ⟨_, rfl⟩
  rw [← hn] at hnc hlen hpos HGF ⊢
  have HN := Lib.hid hn
  clear hRR hR hW hgy hN hK hn
  show Calls Try.prog 80 #[.pointer (some ⟨r, 0, none⟩), .slice (some ⟨bq, 0, none⟩) n c, .pointer (some ⟨kb, 0, none⟩), .pointer (some ⟨fb, 0, none⟩)] w R
  go_enter Try.func80, Try.ntmps80
  go_upto_region 2 with fail
  go_loopw [7] (fun z wr => ∃ d : Nat, d ≤ n ∧ z = .int .i64 d ∧ Below w.heap.size w wr ∧ Asd (growF kind y (era t) W = growN kind y (era t) W d)) (fun z _ => (intOf z).toNat)
  case atStart => exact ⟨n, Nat.le_refl _, rfl, Below.refl _ _, HGF.out⟩
  case round =>
    clear HGF
    obtain ⟨d, hd, rfl, hB, hA⟩ := hrel
    have HB := Lib.hid hB
    clear hB
    have HA := Lib.hid (show growF kind y (era t) W = growN kind y (era t) W d from hA)
    clear hA
    cases d with
    | zero =>
      go_wp2_with fail
      show R (.returned (.int .i64 120)) _
      rw [HRR.out]
      refine ⟨by rw [HA.out]; rfl, turn_false HB.out, fun h => ?_⟩
      rw [HA.out] at h
      exact absurd h (by simp [growN])
    | succ k =>
      obtain ⟨p, q, i, hi, hp, hq, hgq, hloc⟩ := way_at HGY.out (k := k) (by rw [← HN.out]; omega)
      have hWk := HW.out.front (k + 1) (by rw [← HN.out]; exact hd)
      rw [take_snoc hi] at hWk
      have HRW : Hid (Root N wr r t) := HR.out.next HB.out
      have HC := Lib.hid (cut_c (fun _ => True) t p r 0 (W.take k) i _ wr HRW.out.held (hWk.next HB.out) hp)
      have hh := HRW.out.held.get hp
      have hwide := (hfi [] (era t) rfl).2
      have h0 := hh.cells 0 _ rfl
      have h4 := hh.cells 4 _ rfl
      rw [slA_some hq] at h4
      simp only [Nat.add_zero] at h0
      obtain ⟨L, hL⟩ : ∃ L, L = loc r 0 t (W.take k) := ⟨_, rfl⟩
      rw [← hL] at HC h0 h4
      obtain ⟨lb, lo⟩ := L
      have hstep := growN_at (kind := kind) (y := y) (x := era t) (p := era p) (q := era q) (way := W) (d := k) (by rw [era_get, hp]; rfl) (by rw [era_get, hgq]; rfl)
      rw [era_a, era_a, era_ks, era_ks, List.length_map] at hstep
      have hq5 := HRW.out.held.get hgq
      rw [hloc] at hq5
      have hqw := hq5.cells 1 _ rfl
      have hqf := hq5.free (i * 5 + 1)
      have hil := (List.getElem?_eq_some_iff.1 hq).1
      have hlbp : lb ≠ p.a.g := fun e => by
        have h1 := HRW.out.loc_not hp
        rw [← hL] at h1
        have h2 : p.a.g ∈ blks p := by obtain ⟨a, ks⟩ := p; rw [blks_kid (show ks[i]? = some q from hq)]; simp
        exact h1 (by show lb ∈ blks p; rw [e]; exact h2)
      have hkc := (HK.out.1.next HB.out).at_ (i := 0) rfl
      have hfc := (HK.out.2.next HB.out).at_ (i := 0) rfl
      obtain ⟨cur, hcur, -⟩ := HRW.out.block hgq
      rw [hloc] at hcur
      have hfbp : fb ≠ p.a.g := (HK.out.2.next HB.out).ne_ (show Blk wr p.a.g 24 cur from hcur) (by decide)
      have HGQ := Lib.hid hgq
      have HLOC := Lib.hid (hloc r 0)
      have hset := fun (w1 : World) (h : Below wr.heap.size wr w1) (z : Int) => (HRW.out.next h).set (f := 1) (s' := .mk { q.a with d := { q.a.d with w := z } } q.ks) (v := .int .i64 z) hgq (by omega) rfl (by obtain ⟨a, ks⟩ := q; rfl) (fun w' ho => by obtain ⟨a, ks⟩ := q; exact ho) (Nat.le_trans HNN.out (Nat.le_trans HB.out.size h.size))
      rw [hloc] at hset
      have HSET := Lib.hid hset
      have hera : ∀ z : Int, era (put t (W.take (k + 1)) (.mk { q.a with d := { q.a.d with w := z } } q.ks)) = put (era t) (W.take (k + 1)) (.mk { q.a.d with w := z } (q.ks.map era)) := fun z => by rw [era_put hgq, era_mk]
      have HERA := Lib.hid hera
      obtain ⟨pk, hpk⟩ : ∃ a, a = p.a.d.k := ⟨_, rfl⟩
      obtain ⟨pg, hpg⟩ : ∃ a, a = p.a.g := ⟨_, rfl⟩
      obtain ⟨pc, hpc⟩ : ∃ a, a = p.a.cap := ⟨_, rfl⟩
      obtain ⟨np, hnp⟩ : ∃ a, a = p.ks.length := ⟨_, rfl⟩
      obtain ⟨qw, hqv⟩ : ∃ a, a = q.a.d.w := ⟨_, rfl⟩
      rw [← hpk] at h0 hstep
      rw [← hpg] at h4 hqw hqf hlbp hfbp HSET
      rw [← hpc] at h4
      rw [← hnp] at h4 hstep hil
      rw [← hqv] at hqw hstep
      have HST := Lib.hid hstep
      have HLB := Lib.hid (World.block_lt_of_cell? wr ⟨lb, lo + 4, none⟩ h4)
      have HPL := Lib.hid (World.block_lt_of_cell? wr ⟨pg, i * 5 + 1, none⟩ hqw)
      have HFL := Lib.hid (World.block_lt_of_cell? wr ⟨fb, 0, none⟩ hfc)
      have hd0 : (0 : Int) < (k : Int) + 1 := by omega
      have hd1 : k + 1 ≤ c := by omega
      have hi0 : (0 : Int) ≤ (i : Int) := by omega
      have hi1 : (i : Int) < (np : Int) := by omega
      have HGR : Hid (∀ W', Drew wr W' → Calls Try.prog 81 #[.pointer (some ⟨pg, i * 5, none⟩), .float .f64 y] W' fun e w' => e = .returned (.int .i64 (growE [qw] 0)) ∧ ∃ w1, Below wr.heap.size wr w1 ∧ ((growE [qw] 0 = 0 ∧ w' = w1.setCell ⟨pg, i * 5 + 1, none⟩ (.int .i64 (growZ qw y))) ∨ (growE [qw] 0 ≠ 0 ∧ w' = w1))) := by
        rintro W' ⟨m, rfl⟩
        refine (grow9_c pg (i * 5) qw y (wr.drewN m) hqw hqf).mono ?_
        rintro e w' ⟨h1, w1, h2, h3⟩
        exact ⟨h1, w1, (below_drewN (Below.refl _ _) m).trans h2, h3⟩
      have HKEEP : Hid (∀ w7 w8 : World, Below wr.heap.size wr w7 → ((growE [qw] 0 = 0 ∧ w8 = w7.setCell ⟨pg, i * 5 + 1, none⟩ (.int .i64 (growZ qw y))) ∨ (growE [qw] 0 ≠ 0 ∧ w8 = w7)) → w8.cell? ⟨lb, lo + 4, none⟩ = some (.slice (some ⟨pg, 0, none⟩) np pc) ∧ w8.cell? ⟨fb, 0, none⟩ = some (.float .f64 y)) := by
        intro w7 w8 hb hcs
        have e1 := (cell_same (hb.block lb HLB.out) (lo + 4)).trans h4
        have e2 := (cell_same (hb.block fb HFL.out) 0).trans hfc
        rcases hcs with ⟨-, rfl⟩ | ⟨-, rfl⟩
        · exact ⟨(cell_same (Below.heap_setCell w7 ⟨pg, i * 5 + 1, none⟩ _ lb hlbp) _).trans e1, (cell_same (Below.heap_setCell w7 ⟨pg, i * 5 + 1, none⟩ _ fb hfbp) _).trans e2⟩
        · exact ⟨e1, e2⟩
      clear hq5 hcur hset hera hstep hpk hpg hpc hnp hqv hh hgq hq hp hL hloc hWk hi hqw hqf hil hlbp hfbp HRW
      by_cases hk1 : pk = kind
      · subst hk1
        by_cases hk2 : 2 ≤ np
        · have hk3 : (2 : Int) ≤ (np : Int) := by omega
          go_upto_region 4 with fail
          go_wp2_with fail
          refine HC.out.mono ?_
          rintro e w4 ⟨rfl, m4, rfl⟩
          go_upto_region 5 with fail
          refine wp_region_noPanic ?_
          refine wp_region_held_drew (S := fun wx => wx.cell? ⟨lb, lo, none⟩ = some (.int .i64 pk) ∧ wx.cell? ⟨lb, lo + 4, none⟩ = some (.slice (some ⟨pg, 0, none⟩) np pc) ∧ wx.cell? ⟨kb, 0, none⟩ = some (.int .i64 pk)) (by kernel_rfl) (by exact ⟨h0, h4, hkc⟩) (fun hHeld => ?_)
          refine wpAnyH_take (i := 0) (v := ?va0) rfl (by kernel_rfl) (by kernel_rfl) (by kernel_rfl) (fun _ _ _ h => h) (Or.inl ⟨by kernel_rfl, ?ya0⟩) (by assumption) ?ra0
          case ya0 => (intro wq hSw; (try dsimp only at hSw); go_simp; (try with_reducible rfl))
          (try simp only [Act.put, List.getElem_toArray, List.getElem_cons_zero, List.setIfInBounds_toArray, List.set_cons_zero, List.set_cons_succ])
          refine wpAnyH_take (i := 1) (v := ?va1) rfl (by kernel_rfl) (by kernel_rfl) (by kernel_rfl) (fun _ _ _ h => h) (Or.inl ⟨by kernel_rfl, ?ya1⟩) (by assumption) ?ra1
          case ya1 => (intro wq hSw; (try dsimp only at hSw); go_simp; (try with_reducible rfl))
          (try simp only [Act.put, List.getElem_toArray, List.getElem_cons_succ, List.getElem_cons_zero, List.setIfInBounds_toArray, List.set_cons_zero, List.set_cons_succ])
          refine wpAnyH_take (i := 2) (v := ?va2) rfl (by kernel_rfl) (by kernel_rfl) (by kernel_rfl) (fun _ _ _ h => h) (Or.inl ⟨by kernel_rfl, ?ya2⟩) (by assumption) ?ra2
          case ya2 => (intro wq hSw; (try dsimp only at hSw); go_simp; (try with_reducible rfl))
          (try simp only [Act.put, List.getElem_toArray, List.getElem_cons_succ, List.getElem_cons_zero, List.setIfInBounds_toArray, List.set_cons_zero, List.set_cons_succ])
          refine wpAnyH_take (i := 3) (v := ?va3) rfl (by kernel_rfl) (by kernel_rfl) (by kernel_rfl) (fun _ _ _ h => h) (Or.inl ⟨by kernel_rfl, ?ya3⟩) (by assumption) ?ra3
          case ya3 => (intro wq hSw; (try dsimp only at hSw); go_simp; (try with_reducible rfl))
          (try simp only [Act.put, List.getElem_toArray, List.getElem_cons_succ, List.getElem_cons_zero, List.setIfInBounds_toArray, List.set_cons_zero, List.set_cons_succ])
          refine wpAnyH_take (i := 4) (v := ?va4) rfl (by kernel_rfl) (by kernel_rfl) (by kernel_rfl) (fun _ _ _ h => h) (Or.inl ⟨by kernel_rfl, ?ya4⟩) (by assumption) ?ra4
          case ya4 => (intro wq hSw; (try dsimp only at hSw); go_simp; (try with_reducible rfl))
          (try simp only [Act.put, List.getElem_toArray, List.getElem_cons_succ, List.getElem_cons_zero, List.setIfInBounds_toArray, List.set_cons_zero, List.set_cons_succ])
          refine wpAnyH_take (i := 5) (v := ?va5) rfl (by kernel_rfl) (by kernel_rfl) (by kernel_rfl) (fun _ _ _ h => h) (Or.inl ⟨by kernel_rfl, ?ya5⟩) (by assumption) ?ra5
          case ya5 => (intro wq hSw; (try dsimp only at hSw); go_simp; (try with_reducible rfl))
          (try simp only [Act.put, List.getElem_toArray, List.getElem_cons_succ, List.getElem_cons_zero, List.setIfInBounds_toArray, List.set_cons_zero, List.set_cons_succ])
          refine wpAnyH_take (i := 6) (v := ?va6) rfl (by kernel_rfl) (by kernel_rfl) (by kernel_rfl) (fun _ _ _ h => h) (Or.inl ⟨by kernel_rfl, ?ya6⟩) (by assumption) ?ra6
          case ya6 => (intro wq hSw; (try dsimp only at hSw); go_simp; (try with_reducible rfl))
          (try simp only [Act.put, List.getElem_toArray, List.getElem_cons_succ, List.getElem_cons_zero, List.setIfInBounds_toArray, List.set_cons_zero, List.set_cons_succ])
          refine wpAnyH_take (i := 7) (v := ?va7) rfl (by kernel_rfl) (by kernel_rfl) (by kernel_rfl) (fun _ _ _ h => h) (Or.inl ⟨by kernel_rfl, ?ya7⟩) (by assumption) ?ra7
          case ya7 => (intro wq hSw; (try dsimp only at hSw); go_simp; (try with_reducible rfl))
          (try simp only [Act.put, List.getElem_toArray, List.getElem_cons_succ, List.getElem_cons_zero, List.setIfInBounds_toArray, List.set_cons_zero, List.set_cons_succ])
          refine wpAnyH_take (i := 8) (v := ?va8) rfl (by kernel_rfl) (by kernel_rfl) (by kernel_rfl) (fun _ _ _ h => h) (Or.inl ⟨by kernel_rfl, ?ya8⟩) (by assumption) ?ra8
          case ya8 => (intro wq hSw; (try dsimp only at hSw); go_simp; (try with_reducible rfl))
          (try simp only [Act.put, List.getElem_toArray, List.getElem_cons_succ, List.getElem_cons_zero, List.setIfInBounds_toArray, List.set_cons_zero, List.set_cons_succ])
          refine wpAnyH_take (i := 9) (v := ?va9) rfl (by kernel_rfl) (by kernel_rfl) (by kernel_rfl) (fun _ _ _ h => h) (Or.inl ⟨by kernel_rfl, ?ya9⟩) (by assumption) ?ra9
          case ya9 => (intro wq hSw; (try dsimp only at hSw); go_simp; (try with_reducible rfl))
          (try simp only [Act.put, List.getElem_toArray, List.getElem_cons_succ, List.getElem_cons_zero, List.setIfInBounds_toArray, List.set_cons_zero, List.set_cons_succ])
          refine wpAnyH_take (i := 10) (v := ?va10) rfl (by kernel_rfl) (by kernel_rfl) (by kernel_rfl) (fun _ _ _ h => h) (Or.inl ⟨by kernel_rfl, ?ya10⟩) (by assumption) ?ra10
          case ya10 => (intro wq hSw; (try dsimp only at hSw); go_simp; (try with_reducible rfl))
          (try simp only [Act.put, List.getElem_toArray, List.getElem_cons_succ, List.getElem_cons_zero, List.setIfInBounds_toArray, List.set_cons_zero, List.set_cons_succ])
          refine wpAnyH_take (i := 11) (v := ?va11) rfl (by kernel_rfl) (by kernel_rfl) (by kernel_rfl) (fun _ _ _ h => h) (Or.inl ⟨by kernel_rfl, ?ya11⟩) (by assumption) ?ra11
          case ya11 => (intro wq hSw; (try dsimp only at hSw); go_simp; (try with_reducible rfl))
          (try simp only [Act.put, List.getElem_toArray, List.getElem_cons_succ, List.getElem_cons_zero, List.setIfInBounds_toArray, List.set_cons_zero, List.set_cons_succ])
          refine wpAnyH_take (i := 12) (v := ?va12) rfl (by kernel_rfl) (by kernel_rfl) (by kernel_rfl) (fun _ _ _ h => h) (Or.inl ⟨by kernel_rfl, ?ya12⟩) (by assumption) ?ra12
          case ya12 => (intro wq hSw; (try dsimp only at hSw); go_simp; (try with_reducible rfl))
          (try simp only [Act.put, List.getElem_toArray, List.getElem_cons_succ, List.getElem_cons_zero, List.setIfInBounds_toArray, List.set_cons_zero, List.set_cons_succ])
          refine wpAnyH_take (i := 13) (v := ?va13) rfl (by kernel_rfl) (by kernel_rfl) (by kernel_rfl) (fun _ _ _ h => h) (Or.inl ⟨by kernel_rfl, ?ya13⟩) (by assumption) ?ra13
          case ya13 => (intro wq hSw; (try dsimp only at hSw); go_simp; (try with_reducible rfl))
          (try simp only [Act.put, List.getElem_toArray, List.getElem_cons_succ, List.getElem_cons_zero, List.setIfInBounds_toArray, List.set_cons_zero, List.set_cons_succ])
          refine wpAnyH_done (by kernel_rfl) ?_ _
          refine NoPanic.normal ?_
          clear hHeld
          go_upto_region 6 with fail
          have hDw : Drew wr ((wr.drewN m4).drew).drew := ⟨m4 + 1 + 1, rfl⟩
          refine wp_region_noPanic ?_
          refine wp_region_held_drew (S := fun wx => wx.cell? ⟨lb, lo + 4, none⟩ = some (.slice (some ⟨pg, 0, none⟩) np pc) ∧ wx.cell? ⟨fb, 0, none⟩ = some (.float .f64 y)) (by kernel_rfl) (by exact ⟨h4, hfc⟩) (fun hHeld => ?_)
          refine wpAnyH_take (i := 0) (v := ?vc0) rfl (by kernel_rfl) (by kernel_rfl) (by kernel_rfl) (fun _ _ _ h => h) (Or.inl ⟨by kernel_rfl, ?yc0⟩) (by assumption) ?rc0
          case yc0 => (intro wq hSw; (try dsimp only at hSw); go_simp; (try with_reducible rfl))
          (try simp only [Act.put, List.getElem_toArray, List.getElem_cons_zero, List.setIfInBounds_toArray, List.set_cons_zero, List.set_cons_succ])
          refine wpAnyH_take (i := 1) (v := ?vc1) rfl (by kernel_rfl) (by kernel_rfl) (by kernel_rfl) (fun _ _ _ h => h) (Or.inl ⟨by kernel_rfl, ?yc1⟩) (by assumption) ?rc1
          case yc1 => (intro wq hSw; (try dsimp only at hSw); go_simp; (try with_reducible rfl))
          (try simp only [Act.put, List.getElem_toArray, List.getElem_cons_succ, List.getElem_cons_zero, List.setIfInBounds_toArray, List.set_cons_zero, List.set_cons_succ])
          refine wpAnyH_take (i := 2) (v := ?vc2) rfl (by kernel_rfl) (by kernel_rfl) (by kernel_rfl) (fun _ _ _ h => h) (Or.inl ⟨by kernel_rfl, ?yc2⟩) (by assumption) ?rc2
          case yc2 => (intro wq hSw; (try dsimp only at hSw); go_simp; (try with_reducible rfl))
          (try simp only [Act.put, List.getElem_toArray, List.getElem_cons_succ, List.getElem_cons_zero, List.setIfInBounds_toArray, List.set_cons_zero, List.set_cons_succ])
          refine wpAnyH_take (i := 3) (v := ?vc3) rfl (by kernel_rfl) (by kernel_rfl) (by kernel_rfl) (fun _ _ _ h => h) (Or.inl ⟨by kernel_rfl, ?yc3⟩) (by assumption) ?rc3
          case yc3 => (intro wq hSw; (try dsimp only at hSw); go_simp; (try with_reducible rfl))
          (try simp only [Act.put, List.getElem_toArray, List.getElem_cons_succ, List.getElem_cons_zero, List.setIfInBounds_toArray, List.set_cons_zero, List.set_cons_succ])
          refine wpAnyH_take (i := 4) (v := ?vc4) rfl (by kernel_rfl) (by kernel_rfl) (by kernel_rfl) (fun _ _ _ h => h) (Or.inl ⟨by kernel_rfl, ?yc4⟩) (by assumption) ?rc4
          case yc4 => (intro wq hSw; (try dsimp only at hSw); go_simp; (try with_reducible rfl))
          (try simp only [Act.put, List.getElem_toArray, List.getElem_cons_succ, List.getElem_cons_zero, List.setIfInBounds_toArray, List.set_cons_zero, List.set_cons_succ])
          refine wpAnyH_take (i := 5) (v := ?vc5) rfl (by kernel_rfl) (by kernel_rfl) (by kernel_rfl) (fun _ _ _ h => h) (Or.inl ⟨by kernel_rfl, ?yc5⟩) (by assumption) ?rc5
          case yc5 => (intro wq hSw; (try dsimp only at hSw); go_simp; (try with_reducible rfl))
          (try simp only [Act.put, List.getElem_toArray, List.getElem_cons_succ, List.getElem_cons_zero, List.setIfInBounds_toArray, List.set_cons_zero, List.set_cons_succ])
          refine wpAnyH_take (i := 6) (v := ?vc6) rfl (by kernel_rfl) (by kernel_rfl) (by kernel_rfl) (fun _ _ _ h => h) (Or.inl ⟨by kernel_rfl, ?yc6⟩) (by assumption) ?rc6
          case yc6 => (intro wq hSw; (try dsimp only at hSw); go_simp; (try with_reducible rfl))
          (try simp only [Act.put, List.getElem_toArray, List.getElem_cons_succ, List.getElem_cons_zero, List.setIfInBounds_toArray, List.set_cons_zero, List.set_cons_succ])
          refine wpAnyH_ready (rs := [7]) (by kernel_rfl) (by simp) ?_
          refine AllReadyH.cons rfl (fun K hK => ?_) AllReadyH.nil
          go_simp
          refine (HGR.out _ hDw).mono ?_
          rintro e w8 ⟨rfl, w7, hb7, hcs⟩; have hS8 := HKEEP.out w7 w8 hb7 hcs
          (try dsimp only)
          refine hK.out _ _ (by exact hS8) (fun hHeld => ?_)
          clear hK K
          (try simp only [Act.put, List.getElem_toArray, List.getElem_cons_succ, List.getElem_cons_zero, List.setIfInBounds_toArray, List.set_cons_zero, List.set_cons_succ])
          refine wpAnyH_ready (rs := [8]) (by kernel_rfl) (by simp) ?_
          refine AllReadyH.cons rfl (fun K hK => ?_) AllReadyH.nil
          go_simp
          refine hK.out _ _ (by trivial) (fun hHeld => ?_)
          clear hK K
          (try simp only [Act.put, List.getElem_toArray, List.getElem_cons_succ, List.getElem_cons_zero, List.setIfInBounds_toArray, List.set_cons_zero, List.set_cons_succ])
          refine wpAnyH_done (by kernel_rfl) ?_ _
          refine NoPanic.normal ?_
          clear hHeld hS8
          go_wp2_with fail
          show R (.returned (.int .i64 (growE [qw] 0))) _
          rw [HRR.out, HA.out]
          rw [if_pos ⟨trivial, hk2⟩] at HST
          rcases hcs with ⟨hE, rfl⟩ | ⟨hE, rfl⟩
          · rw [if_pos hE] at HST
            obtain ⟨h1, h2⟩ := HSET.out w7 hb7 (growZ qw y)
            rw [HST.out]
            exact ⟨by rw [hE], (Turn.of_below (HB.out.trans (hb7.mono HB.out.size))).trans h2, fun _ => ⟨_, h1, HERA.out _⟩⟩
          · rw [if_neg hE] at HST
            rw [HST.out]
            exact ⟨rfl, turn_false (HB.out.trans (hb7.mono HB.out.size)), fun h => absurd h hE⟩
        · have hk3 : ¬ (2 : Int) ≤ (np : Int) := by omega
          rw [if_neg (by omega)] at HST
          go_upto_region 4 with fail
          go_wp2_with fail
          refine HC.out.mono ?_
          rintro e w4 ⟨rfl, m4, rfl⟩
          go_upto_region 5 with fail
          refine wp_region_noPanic ?_
          refine wp_region_held_drew (S := fun wx => wx.cell? ⟨lb, lo, none⟩ = some (.int .i64 pk) ∧ wx.cell? ⟨lb, lo + 4, none⟩ = some (.slice (some ⟨pg, 0, none⟩) np pc) ∧ wx.cell? ⟨kb, 0, none⟩ = some (.int .i64 pk)) (by kernel_rfl) (by exact ⟨h0, h4, hkc⟩) (fun hHeld => ?_)
          refine wpAnyH_take (i := 0) (v := ?vb0) rfl (by kernel_rfl) (by kernel_rfl) (by kernel_rfl) (fun _ _ _ h => h) (Or.inl ⟨by kernel_rfl, ?yb0⟩) (by assumption) ?rb0
          case yb0 => (intro wq hSw; (try dsimp only at hSw); go_simp; (try with_reducible rfl))
          (try simp only [Act.put, List.getElem_toArray, List.getElem_cons_zero, List.setIfInBounds_toArray, List.set_cons_zero, List.set_cons_succ])
          refine wpAnyH_take (i := 1) (v := ?vb1) rfl (by kernel_rfl) (by kernel_rfl) (by kernel_rfl) (fun _ _ _ h => h) (Or.inl ⟨by kernel_rfl, ?yb1⟩) (by assumption) ?rb1
          case yb1 => (intro wq hSw; (try dsimp only at hSw); go_simp; (try with_reducible rfl))
          (try simp only [Act.put, List.getElem_toArray, List.getElem_cons_succ, List.getElem_cons_zero, List.setIfInBounds_toArray, List.set_cons_zero, List.set_cons_succ])
          refine wpAnyH_take (i := 2) (v := ?vb2) rfl (by kernel_rfl) (by kernel_rfl) (by kernel_rfl) (fun _ _ _ h => h) (Or.inl ⟨by kernel_rfl, ?yb2⟩) (by assumption) ?rb2
          case yb2 => (intro wq hSw; (try dsimp only at hSw); go_simp; (try with_reducible rfl))
          (try simp only [Act.put, List.getElem_toArray, List.getElem_cons_succ, List.getElem_cons_zero, List.setIfInBounds_toArray, List.set_cons_zero, List.set_cons_succ])
          refine wpAnyH_take (i := 3) (v := ?vb3) rfl (by kernel_rfl) (by kernel_rfl) (by kernel_rfl) (fun _ _ _ h => h) (Or.inl ⟨by kernel_rfl, ?yb3⟩) (by assumption) ?rb3
          case yb3 => (intro wq hSw; (try dsimp only at hSw); go_simp; (try with_reducible rfl))
          (try simp only [Act.put, List.getElem_toArray, List.getElem_cons_succ, List.getElem_cons_zero, List.setIfInBounds_toArray, List.set_cons_zero, List.set_cons_succ])
          refine wpAnyH_take (i := 4) (v := ?vb4) rfl (by kernel_rfl) (by kernel_rfl) (by kernel_rfl) (fun _ _ _ h => h) (Or.inl ⟨by kernel_rfl, ?yb4⟩) (by assumption) ?rb4
          case yb4 => (intro wq hSw; (try dsimp only at hSw); go_simp; (try with_reducible rfl))
          (try simp only [Act.put, List.getElem_toArray, List.getElem_cons_succ, List.getElem_cons_zero, List.setIfInBounds_toArray, List.set_cons_zero, List.set_cons_succ])
          refine wpAnyH_take (i := 5) (v := ?vb5) rfl (by kernel_rfl) (by kernel_rfl) (by kernel_rfl) (fun _ _ _ h => h) (Or.inl ⟨by kernel_rfl, ?yb5⟩) (by assumption) ?rb5
          case yb5 => (intro wq hSw; (try dsimp only at hSw); go_simp; (try with_reducible rfl))
          (try simp only [Act.put, List.getElem_toArray, List.getElem_cons_succ, List.getElem_cons_zero, List.setIfInBounds_toArray, List.set_cons_zero, List.set_cons_succ])
          refine wpAnyH_take (i := 6) (v := ?vb6) rfl (by kernel_rfl) (by kernel_rfl) (by kernel_rfl) (fun _ _ _ h => h) (Or.inl ⟨by kernel_rfl, ?yb6⟩) (by assumption) ?rb6
          case yb6 => (intro wq hSw; (try dsimp only at hSw); go_simp; (try with_reducible rfl))
          (try simp only [Act.put, List.getElem_toArray, List.getElem_cons_succ, List.getElem_cons_zero, List.setIfInBounds_toArray, List.set_cons_zero, List.set_cons_succ])
          refine wpAnyH_take (i := 7) (v := ?vb7) rfl (by kernel_rfl) (by kernel_rfl) (by kernel_rfl) (fun _ _ _ h => h) (Or.inl ⟨by kernel_rfl, ?yb7⟩) (by assumption) ?rb7
          case yb7 => (intro wq hSw; (try dsimp only at hSw); go_simp; (try with_reducible rfl))
          (try simp only [Act.put, List.getElem_toArray, List.getElem_cons_succ, List.getElem_cons_zero, List.setIfInBounds_toArray, List.set_cons_zero, List.set_cons_succ])
          refine wpAnyH_take (i := 8) (v := ?vb8) rfl (by kernel_rfl) (by kernel_rfl) (by kernel_rfl) (fun _ _ _ h => h) (Or.inl ⟨by kernel_rfl, ?yb8⟩) (by assumption) ?rb8
          case yb8 => (intro wq hSw; (try dsimp only at hSw); go_simp; (try with_reducible rfl))
          (try simp only [Act.put, List.getElem_toArray, List.getElem_cons_succ, List.getElem_cons_zero, List.setIfInBounds_toArray, List.set_cons_zero, List.set_cons_succ])
          refine wpAnyH_take (i := 9) (v := ?vb9) rfl (by kernel_rfl) (by kernel_rfl) (by kernel_rfl) (fun _ _ _ h => h) (Or.inl ⟨by kernel_rfl, ?yb9⟩) (by assumption) ?rb9
          case yb9 => (intro wq hSw; (try dsimp only at hSw); go_simp; (try with_reducible rfl))
          (try simp only [Act.put, List.getElem_toArray, List.getElem_cons_succ, List.getElem_cons_zero, List.setIfInBounds_toArray, List.set_cons_zero, List.set_cons_succ])
          refine wpAnyH_take (i := 10) (v := ?vb10) rfl (by kernel_rfl) (by kernel_rfl) (by kernel_rfl) (fun _ _ _ h => h) (Or.inl ⟨by kernel_rfl, ?yb10⟩) (by assumption) ?rb10
          case yb10 => (intro wq hSw; (try dsimp only at hSw); go_simp; (try with_reducible rfl))
          (try simp only [Act.put, List.getElem_toArray, List.getElem_cons_succ, List.getElem_cons_zero, List.setIfInBounds_toArray, List.set_cons_zero, List.set_cons_succ])
          refine wpAnyH_take (i := 11) (v := ?vb11) rfl (by kernel_rfl) (by kernel_rfl) (by kernel_rfl) (fun _ _ _ h => h) (Or.inl ⟨by kernel_rfl, ?yb11⟩) (by assumption) ?rb11
          case yb11 => (intro wq hSw; (try dsimp only at hSw); go_simp; (try with_reducible rfl))
          (try simp only [Act.put, List.getElem_toArray, List.getElem_cons_succ, List.getElem_cons_zero, List.setIfInBounds_toArray, List.set_cons_zero, List.set_cons_succ])
          refine wpAnyH_take (i := 12) (v := ?vb12) rfl (by kernel_rfl) (by kernel_rfl) (by kernel_rfl) (fun _ _ _ h => h) (Or.inl ⟨by kernel_rfl, ?yb12⟩) (by assumption) ?rb12
          case yb12 => (intro wq hSw; (try dsimp only at hSw); go_simp; (try with_reducible rfl))
          (try simp only [Act.put, List.getElem_toArray, List.getElem_cons_succ, List.getElem_cons_zero, List.setIfInBounds_toArray, List.set_cons_zero, List.set_cons_succ])
          refine wpAnyH_take (i := 13) (v := ?vb13) rfl (by kernel_rfl) (by kernel_rfl) (by kernel_rfl) (fun _ _ _ h => h) (Or.inl ⟨by kernel_rfl, ?yb13⟩) (by assumption) ?rb13
          case yb13 => (intro wq hSw; (try dsimp only at hSw); go_simp; (try with_reducible rfl))
          (try simp only [Act.put, List.getElem_toArray, List.getElem_cons_succ, List.getElem_cons_zero, List.setIfInBounds_toArray, List.set_cons_zero, List.set_cons_succ])
          refine wpAnyH_done (by kernel_rfl) ?_ _
          refine NoPanic.normal ?_
          clear hHeld
          have HB4 : Hid (Below w.heap.size w (wr.drewN m4).drew) := (below_drewN HB.out m4).drew
          go_wp2_with fail
          go_roundw
          case rel => exact ⟨k, by omega, by go_num, HB4.out, HA.out.trans HST.out⟩
          case measure => simp [intOf]
      · rw [if_neg (fun h => hk1 h.1)] at HST
        have hkf : (pk == kind) = false := by simpa using hk1
        go_upto_region 4 with fail
        go_wp2_with fail
        refine HC.out.mono ?_
        rintro e w4 ⟨rfl, m4, rfl⟩
        go_upto_region 5 with fail
        refine wp_region_noPanic ?_
        refine wp_region_held_drew (S := fun wx => wx.cell? ⟨lb, lo, none⟩ = some (.int .i64 pk) ∧ wx.cell? ⟨lb, lo + 4, none⟩ = some (.slice (some ⟨pg, 0, none⟩) np pc) ∧ wx.cell? ⟨kb, 0, none⟩ = some (.int .i64 kind)) (by kernel_rfl) (by exact ⟨h0, h4, hkc⟩) (fun hHeld => ?_)
        refine wpAnyH_take (i := 0) (v := ?vd0) rfl (by kernel_rfl) (by kernel_rfl) (by kernel_rfl) (fun _ _ _ h => h) (Or.inl ⟨by kernel_rfl, ?yd0⟩) (by assumption) ?rd0
        case yd0 => (intro wq hSw; (try dsimp only at hSw); go_simp; (try with_reducible rfl))
        (try simp only [Act.put, List.getElem_toArray, List.getElem_cons_zero, List.setIfInBounds_toArray, List.set_cons_zero, List.set_cons_succ])
        refine wpAnyH_take (i := 1) (v := ?vd1) rfl (by kernel_rfl) (by kernel_rfl) (by kernel_rfl) (fun _ _ _ h => h) (Or.inl ⟨by kernel_rfl, ?yd1⟩) (by assumption) ?rd1
        case yd1 => (intro wq hSw; (try dsimp only at hSw); go_simp; (try with_reducible rfl))
        (try simp only [Act.put, List.getElem_toArray, List.getElem_cons_succ, List.getElem_cons_zero, List.setIfInBounds_toArray, List.set_cons_zero, List.set_cons_succ])
        refine wpAnyH_take (i := 2) (v := ?vd2) rfl (by kernel_rfl) (by kernel_rfl) (by kernel_rfl) (fun _ _ _ h => h) (Or.inl ⟨by kernel_rfl, ?yd2⟩) (by assumption) ?rd2
        case yd2 => (intro wq hSw; (try dsimp only at hSw); go_simp; (try with_reducible rfl))
        (try simp only [Act.put, List.getElem_toArray, List.getElem_cons_succ, List.getElem_cons_zero, List.setIfInBounds_toArray, List.set_cons_zero, List.set_cons_succ])
        refine wpAnyH_take (i := 3) (v := ?vd3) rfl (by kernel_rfl) (by kernel_rfl) (by kernel_rfl) (fun _ _ _ h => h) (Or.inl ⟨by kernel_rfl, ?yd3⟩) (by assumption) ?rd3
        case yd3 => (intro wq hSw; (try dsimp only at hSw); go_simp; (try with_reducible rfl))
        (try simp only [Act.put, List.getElem_toArray, List.getElem_cons_succ, List.getElem_cons_zero, List.setIfInBounds_toArray, List.set_cons_zero, List.set_cons_succ])
        refine wpAnyH_take (i := 4) (v := ?vd4) rfl (by kernel_rfl) (by kernel_rfl) (by kernel_rfl) (fun _ _ _ h => h) (Or.inl ⟨by kernel_rfl, ?yd4⟩) (by assumption) ?rd4
        case yd4 => (intro wq hSw; (try dsimp only at hSw); go_simp; (try with_reducible rfl))
        (try simp only [Act.put, List.getElem_toArray, List.getElem_cons_succ, List.getElem_cons_zero, List.setIfInBounds_toArray, List.set_cons_zero, List.set_cons_succ])
        refine wpAnyH_take (i := 5) (v := ?vd5) rfl (by kernel_rfl) (by kernel_rfl) (by kernel_rfl) (fun _ _ _ h => h) (Or.inl ⟨by kernel_rfl, ?yd5⟩) (by assumption) ?rd5
        case yd5 => (intro wq hSw; (try dsimp only at hSw); go_simp; (try with_reducible rfl))
        (try simp only [Act.put, List.getElem_toArray, List.getElem_cons_succ, List.getElem_cons_zero, List.setIfInBounds_toArray, List.set_cons_zero, List.set_cons_succ])
        refine wpAnyH_take (i := 6) (v := ?vd6) rfl (by kernel_rfl) (by kernel_rfl) (by kernel_rfl) (fun _ _ _ h => h) (Or.inl ⟨by kernel_rfl, ?yd6⟩) (by assumption) ?rd6
        case yd6 => (intro wq hSw; (try dsimp only at hSw); go_simp; (try with_reducible rfl))
        (try simp only [Act.put, List.getElem_toArray, List.getElem_cons_succ, List.getElem_cons_zero, List.setIfInBounds_toArray, List.set_cons_zero, List.set_cons_succ])
        refine wpAnyH_take (i := 7) (v := undef) rfl (by kernel_rfl) (by kernel_rfl) (by kernel_rfl) (fun _ _ _ h => h) (Or.inr ⟨by kernel_rfl, rfl⟩) (by assumption) ?_
        (try simp only [Act.put, List.getElem_toArray, List.getElem_cons_succ, List.getElem_cons_zero, List.setIfInBounds_toArray, List.set_cons_zero, List.set_cons_succ])
        refine wpAnyH_take (i := 8) (v := undef) rfl (by kernel_rfl) (by kernel_rfl) (by kernel_rfl) (fun _ _ _ h => h) (Or.inr ⟨by kernel_rfl, rfl⟩) (by assumption) ?_
        (try simp only [Act.put, List.getElem_toArray, List.getElem_cons_succ, List.getElem_cons_zero, List.setIfInBounds_toArray, List.set_cons_zero, List.set_cons_succ])
        refine wpAnyH_take (i := 9) (v := undef) rfl (by kernel_rfl) (by kernel_rfl) (by kernel_rfl) (fun _ _ _ h => h) (Or.inr ⟨by kernel_rfl, rfl⟩) (by assumption) ?_
        (try simp only [Act.put, List.getElem_toArray, List.getElem_cons_succ, List.getElem_cons_zero, List.setIfInBounds_toArray, List.set_cons_zero, List.set_cons_succ])
        refine wpAnyH_take (i := 10) (v := undef) rfl (by kernel_rfl) (by kernel_rfl) (by kernel_rfl) (fun _ _ _ h => h) (Or.inr ⟨by kernel_rfl, rfl⟩) (by assumption) ?_
        (try simp only [Act.put, List.getElem_toArray, List.getElem_cons_succ, List.getElem_cons_zero, List.setIfInBounds_toArray, List.set_cons_zero, List.set_cons_succ])
        refine wpAnyH_take (i := 11) (v := undef) rfl (by kernel_rfl) (by kernel_rfl) (by kernel_rfl) (fun _ _ _ h => h) (Or.inr ⟨by kernel_rfl, rfl⟩) (by assumption) ?_
        (try simp only [Act.put, List.getElem_toArray, List.getElem_cons_succ, List.getElem_cons_zero, List.setIfInBounds_toArray, List.set_cons_zero, List.set_cons_succ])
        refine wpAnyH_take (i := 12) (v := undef) rfl (by kernel_rfl) (by kernel_rfl) (by kernel_rfl) (fun _ _ _ h => h) (Or.inr ⟨by kernel_rfl, rfl⟩) (by assumption) ?_
        (try simp only [Act.put, List.getElem_toArray, List.getElem_cons_succ, List.getElem_cons_zero, List.setIfInBounds_toArray, List.set_cons_zero, List.set_cons_succ])
        refine wpAnyH_take (i := 13) (v := ?vd13) rfl (by kernel_rfl) (by kernel_rfl) (by kernel_rfl) (fun _ _ _ h => h) (Or.inl ⟨by kernel_rfl, ?yd13⟩) (by assumption) ?rd13
        case yd13 => (intro wq hSw; (try dsimp only at hSw); go_simp; (try with_reducible rfl))
        (try simp only [Act.put, List.getElem_toArray, List.getElem_cons_succ, List.getElem_cons_zero, List.setIfInBounds_toArray, List.set_cons_zero, List.set_cons_succ])
        refine wpAnyH_done (by kernel_rfl) ?_ _
        refine NoPanic.normal ?_
        clear hHeld
        have HB4 : Hid (Below w.heap.size w (wr.drewN m4).drew) := (below_drewN HB.out m4).drew
        go_wp2_with fail
        go_roundw
        case rel => exact ⟨k, by omega, by go_num, HB4.out, HA.out.trans HST.out⟩
        case measure => simp [intOf]
end Go.Proofs.Ytejbgnammlhcmaa.Co
end
section
namespace Go.Proofs.Ytejbgnammlhcmaa.Co
open Go.RowKit Go.Shelf
def growI (x : Con) (c kind : Int) (y : Nat) : Con × Int := if kind ≠ 1 ∧ kind ≠ 2 then (zeroT, 1) else chgI x c (growF kind y)
set_option maxHeartbeats 2000000 in
theorem growc_c (x : Con) (sv : Value) (c k : Int) (y : Nat) (w : World) (hK : KV w (fun b => b < w.heap.size) x.ks sv) (hw : x.a.wide) (hd : ht x ≤ 1000000) (hwd : wd x ≤ 100000) :
    Calls Try.prog 43 #[conV x.a sv, .int .i64 c, .int .i64 k, .float .f64 y] w fun e w' => TellR w.heap.size (growI x c k y) e w' ∧ Below w.heap.size w w' := by
  obtain ⟨p, cap, rfl, hl⟩ := hK.slice
  obtain ⟨n, hn⟩ : ∃ n, n = x.ks.length := ⟨_, rfl⟩
  rw [← hn] at hK ⊢
  obtain ⟨R, hR⟩ : ∃ R, R = fun (e : Ending) (w' : World) => TellR w.heap.size (growI x c k y) e w' ∧ Below w.heap.size w w' := ⟨_, rfl⟩
  have hRe : ∀ e w', R e w' ↔ (TellR w.heap.size (growI x c k y) e w' ∧ Below w.heap.size w w') := by rw [hR]; exact fun _ _ => Iff.rfl
  rw [← hR]
  have HR := Lib.hid hRe
  obtain ⟨wB, hwB⟩ : ∃ wB, wB = (((w.alloc (.cells #[.int .i64 x.a.k, .int .i64 x.a.w, .int .i64 x.a.c, .int .i64 x.a.s, .slice p n cap] 24)).alloc (.cells #[.int .i64 k] 3)).alloc (.cells #[.float .f64 y] 48)).alloc (.cells #[.int .i64 0, .int .i64 0, .int .i64 0, .int .i64 0, .slice none 0 0] 24) := ⟨_, rfl⟩
  have hb0 : Below w.heap.size w wB := by rw [hwB]; exact ((((Below.refl _ _).alloc (Nat.le_refl _) _).alloc (by simp) _).alloc (by simp; omega) _).alloc (by simp; omega) _
  have hkb : Blk wB (w.heap.size + 1) 3 #[.int .i64 k] := by
    rw [hwB]; have := ((Blk.new (w.alloc (.cells #[.int .i64 x.a.k, .int .i64 x.a.w, .int .i64 x.a.c, .int .i64 x.a.s, .slice p n cap] 24)) 3 #[.int .i64 k]).alloc (.cells #[.float .f64 y] 48)).alloc (.cells #[.int .i64 0, .int .i64 0, .int .i64 0, .int .i64 0, .slice none 0 0] 24); rwa [World.size_alloc] at this
  have hfb : Blk wB (w.heap.size + 1 + 1) 48 #[.float .f64 y] := by
    rw [hwB]; have := (Blk.new ((w.alloc (.cells #[.int .i64 x.a.k, .int .i64 x.a.w, .int .i64 x.a.c, .int .i64 x.a.s, .slice p n cap] 24)).alloc (.cells #[.int .i64 k] 3)) 48 #[.float .f64 y]).alloc (.cells #[.int .i64 0, .int .i64 0, .int .i64 0, .int .i64 0, .slice none 0 0] 24); rwa [World.size_alloc, World.size_alloc] at this
  have hq2 : Blk wB (w.heap.size + 1 + 1 + 1) 24 #[.int .i64 0, .int .i64 0, .int .i64 0, .int .i64 0, .slice none 0 0] := by
    rw [hwB]; have := Blk.new (((w.alloc (.cells #[.int .i64 x.a.k, .int .i64 x.a.w, .int .i64 x.a.c, .int .i64 x.a.s, .slice p n cap] 24)).alloc (.cells #[.int .i64 k] 3)).alloc (.cells #[.float .f64 y] 48)) 24 #[.int .i64 0, .int .i64 0, .int .i64 0, .int .i64 0, .slice none 0 0]; rwa [World.size_alloc, World.size_alloc, World.size_alloc] at this
  have hsz : wB.heap.size = w.heap.size + 4 := by rw [hwB]; simp
  have HCH := Lib.hid (change_c x (.slice p n cap) c 80 #[.pointer (some ⟨w.heap.size + 1, 0, none⟩), .pointer (some ⟨w.heap.size + 1 + 1, 0, none⟩)] (fun W => Blk W (w.heap.size + 1) 3 #[.int .i64 k] ∧ Blk W (w.heap.size + 1 + 1) 48 #[.float .f64 y]) (growF k y) wB
    (hK.same (Z' := fun b => b < wB.heap.size) (fun b h => Nat.lt_of_lt_of_le h hb0.size) hb0.size fun b _ hl => hb0.block b hl) hw hd hwd enters_grow (how_grow (w.heap.size + 1) (w.heap.size + 1 + 1) k y) (fun W h => ⟨hkb.next h, hfb.next h⟩))
  have HB := Lib.hid hb0
  have HQ2 := Lib.hid hq2
  have HWB := Lib.hid hwB
  have HSZ := Lib.hid hsz
  clear hn hR hRe hK hw hd hwd hl hb0 hwB hkb hfb hsz
  have hmf : ∀ (fn : Fn) (first cap : Array Value) (w : World), (Instr.makeFunc fn first cap).run Try.prog w = .ok (.func fn first cap) w := fun _ _ _ _ => rfl
  by_cases hs : k ≠ 1 ∧ k ≠ 2
  · have hI : growI x c k y = (zeroT, 1) := by unfold growI; rw [if_pos hs]
    have HI := Lib.hid hI
    obtain ⟨hk1, hk2⟩ := hs
    have hb1 : (k != 1) = true := by simpa using hk1
    have hb2 : (k != 2) = true := by simpa using hk2
    clear hI HCH hq2
    go_enter Try.func43, Try.ntmps43
    go_wp2_with fail
    have hq2 := HQ2.out
    rw [← HWB.out]
    obtain ⟨⟨b3, b4, b5, b6, b7⟩, -⟩ := c5 hq2
    refine bodyPost_ret (v := .tuple #[zeroC, .int .i64 1]) (by simp [results, Try.results43, go_sem, b3, b4, b5, b6, b7]) rfl ?_
    refine (HR.out _ _).2 ⟨.inl ?_, HB.out⟩
    rw [HI.out]
    exact ⟨by simp, rfl⟩
  · have hI : growI x c k y = chgI x c (growF k y) := by unfold growI; rw [if_neg hs]
    have HI := Lib.hid hI
    have hk : k = 1 ∨ k = 2 := by omega
    clear hI hq2 hs
    rcases hk with rfl | rfl
    · go_enter Try.func43, Try.ntmps43
      go_wp2_with fail
      rw [← HWB.out]
      refine HCH.out.mono ?_
      rintro e w1 ⟨hte, hb1⟩
      have HB1 := Lib.hid (HB.out.trans (hb1.mono HB.out.size))
      have hq2 := HQ2.out.next hb1
      clear hb1
      rcases hte with ⟨hz, rfl⟩ | ⟨hz, t', ho, hnd, hge, he, rfl⟩
      · obtain ⟨z, hzz⟩ : ∃ z, z = (chgI x c (growF 1 y)).2 := ⟨_, rfl⟩
        rw [← hzz] at hz ⊢
        have HZ := Lib.hid hz
        have HZZ := Lib.hid hzz
        clear hz hzz
        have b2 := blk_st5 hq2 (.int .i64 0) (.int .i64 0) (.int .i64 0) (.int .i64 0) (.slice none 0 0)
        have hbl := below_st5 (g := w.heap.size + 1 + 1 + 1) HB1.out (by omega) (.int .i64 0) (.int .i64 0) (.int .i64 0) (.int .i64 0) (.slice none 0 0)
        have hfar := far_st5 w1 (w.heap.size + 1 + 1 + 1) (.int .i64 0) (.int .i64 0) (.int .i64 0) (.int .i64 0) (.slice none 0 0)
        obtain ⟨⟨b3, b4, b5, b6, b7⟩, -⟩ := c5 b2
        obtain ⟨w8, hw8⟩ : ∃ w8, w8 = st5 w1 (w.heap.size + 1 + 1 + 1) (.int .i64 0) (.int .i64 0) (.int .i64 0) (.int .i64 0) (.slice none 0 0) := ⟨_, rfl⟩
        rw [← hw8] at b3 b4 b5 b6 b7 hbl hfar
        have HW8 := Lib.hid hw8
        have HBL := Lib.hid hbl
        have HFAR := Lib.hid hfar
        obtain ⟨⟨r0, r1, r2, r3, r4⟩, f0, f1, f2, f3, f4⟩ := c5 hq2
        clear b2 hbl hw8 hq2 hfar
        go_wp2_with fail
        rw [show ((((w1.setCell ⟨w.heap.size + 1 + 1 + 1, 0, none⟩ (.int .i64 0)).setCell ⟨w.heap.size + 1 + 1 + 1, 1, none⟩ (.int .i64 0)).setCell ⟨w.heap.size + 1 + 1 + 1, 2, none⟩ (.int .i64 0)).setCell ⟨w.heap.size + 1 + 1 + 1, 3, none⟩ (.int .i64 0)).setCell ⟨w.heap.size + 1 + 1 + 1, 4, none⟩ (.slice none 0 0) = w8 from HW8.out.symm]
        refine bodyPost_ret (v := .tuple #[zeroC, .int .i64 z]) (by simp [results, Try.results43, go_sem, b3, b4, b5, b6, b7]) rfl ?_
        refine (HR.out _ _).2 ⟨.inl ?_, HBL.out⟩
        rw [HI.out, ← HZZ.out]
        exact ⟨HZ.out, rfl⟩
      · obtain ⟨pz, cz, hsz⟩ : ∃ pz cz, slA t' = .slice pz t'.ks.length cz := slV_slice _ _ _
        obtain ⟨nz, hnz⟩ : ∃ nz, nz = t'.ks.length := ⟨_, rfl⟩
        rw [← hnz] at hsz
        rw [hsz]
        obtain ⟨ta, hta⟩ : ∃ ta, ta = t'.a := ⟨_, rfl⟩
        rw [← hta]
        have HZ := Lib.hid hz
        have HO := Lib.hid ho
        have HND := Lib.hid hnd
        have HGE := Lib.hid hge
        have HE := Lib.hid he
        have HSL := Lib.hid hsz
        have HTA := Lib.hid hta
        clear hz ho hnd hge he hsz hnz hta
        have b2 := blk_st5 hq2 (.int .i64 ta.d.k) (.int .i64 ta.d.w) (.int .i64 ta.d.c) (.int .i64 ta.d.s) (.slice pz nz cz)
        have hbl := below_st5 (g := w.heap.size + 1 + 1 + 1) HB1.out (by omega) (.int .i64 ta.d.k) (.int .i64 ta.d.w) (.int .i64 ta.d.c) (.int .i64 ta.d.s) (.slice pz nz cz)
        have hfar := far_st5 w1 (w.heap.size + 1 + 1 + 1) (.int .i64 ta.d.k) (.int .i64 ta.d.w) (.int .i64 ta.d.c) (.int .i64 ta.d.s) (.slice pz nz cz)
        obtain ⟨⟨b3, b4, b5, b6, b7⟩, -⟩ := c5 b2
        obtain ⟨w8, hw8⟩ : ∃ w8, w8 = st5 w1 (w.heap.size + 1 + 1 + 1) (.int .i64 ta.d.k) (.int .i64 ta.d.w) (.int .i64 ta.d.c) (.int .i64 ta.d.s) (.slice pz nz cz) := ⟨_, rfl⟩
        rw [← hw8] at b3 b4 b5 b6 b7 hbl hfar
        have HW8 := Lib.hid hw8
        have HBL := Lib.hid hbl
        have HFAR := Lib.hid hfar
        obtain ⟨⟨r0, r1, r2, r3, r4⟩, f0, f1, f2, f3, f4⟩ := c5 hq2
        clear b2 hbl hw8 hq2 hfar
        go_wp2_with fail
        rw [show ((((w1.setCell ⟨w.heap.size + 1 + 1 + 1, 0, none⟩ (.int .i64 ta.d.k)).setCell ⟨w.heap.size + 1 + 1 + 1, 1, none⟩ (.int .i64 ta.d.w)).setCell ⟨w.heap.size + 1 + 1 + 1, 2, none⟩ (.int .i64 ta.d.c)).setCell ⟨w.heap.size + 1 + 1 + 1, 3, none⟩ (.int .i64 ta.d.s)).setCell ⟨w.heap.size + 1 + 1 + 1, 4, none⟩ (.slice pz nz cz) = w8 from HW8.out.symm]
        refine bodyPost_ret (v := .tuple #[.agg #[.int .i64 ta.d.k, .int .i64 ta.d.w, .int .i64 ta.d.c, .int .i64 ta.d.s, .slice pz nz cz], .int .i64 0]) (by simp [results, Try.results43, go_sem, b3, b4, b5, b6, b7]) rfl ?_
        refine (HR.out _ _).2 ⟨.inr ?_, HBL.out⟩
        rw [HI.out]
        refine ⟨HZ.out, t', HO.out.same fun b hb => HFAR.out b fun e => ?_, HND.out, fun b hb => Nat.le_trans HB.out.size (HGE.out b hb), HE.out, ?_⟩
        · have h1 := HGE.out b hb
          have h2 := HSZ.out
          omega
        · rw [HSL.out, ← HTA.out]
    · go_enter Try.func43, Try.ntmps43
      go_wp2_with fail
      rw [← HWB.out]
      refine HCH.out.mono ?_
      rintro e w1 ⟨hte, hb1⟩
      have HB1 := Lib.hid (HB.out.trans (hb1.mono HB.out.size))
      have hq2 := HQ2.out.next hb1
      clear hb1
      rcases hte with ⟨hz, rfl⟩ | ⟨hz, t', ho, hnd, hge, he, rfl⟩
      · obtain ⟨z, hzz⟩ : ∃ z, z = (chgI x c (growF 2 y)).2 := ⟨_, rfl⟩
        rw [← hzz] at hz ⊢
        have HZ := Lib.hid hz
        have HZZ := Lib.hid hzz
        clear hz hzz
        have b2 := blk_st5 hq2 (.int .i64 0) (.int .i64 0) (.int .i64 0) (.int .i64 0) (.slice none 0 0)
        have hbl := below_st5 (g := w.heap.size + 1 + 1 + 1) HB1.out (by omega) (.int .i64 0) (.int .i64 0) (.int .i64 0) (.int .i64 0) (.slice none 0 0)
        have hfar := far_st5 w1 (w.heap.size + 1 + 1 + 1) (.int .i64 0) (.int .i64 0) (.int .i64 0) (.int .i64 0) (.slice none 0 0)
        obtain ⟨⟨b3, b4, b5, b6, b7⟩, -⟩ := c5 b2
        obtain ⟨w8, hw8⟩ : ∃ w8, w8 = st5 w1 (w.heap.size + 1 + 1 + 1) (.int .i64 0) (.int .i64 0) (.int .i64 0) (.int .i64 0) (.slice none 0 0) := ⟨_, rfl⟩
        rw [← hw8] at b3 b4 b5 b6 b7 hbl hfar
        have HW8 := Lib.hid hw8
        have HBL := Lib.hid hbl
        have HFAR := Lib.hid hfar
        obtain ⟨⟨r0, r1, r2, r3, r4⟩, f0, f1, f2, f3, f4⟩ := c5 hq2
        clear b2 hbl hw8 hq2 hfar
        go_wp2_with fail
        rw [show ((((w1.setCell ⟨w.heap.size + 1 + 1 + 1, 0, none⟩ (.int .i64 0)).setCell ⟨w.heap.size + 1 + 1 + 1, 1, none⟩ (.int .i64 0)).setCell ⟨w.heap.size + 1 + 1 + 1, 2, none⟩ (.int .i64 0)).setCell ⟨w.heap.size + 1 + 1 + 1, 3, none⟩ (.int .i64 0)).setCell ⟨w.heap.size + 1 + 1 + 1, 4, none⟩ (.slice none 0 0) = w8 from HW8.out.symm]
        refine bodyPost_ret (v := .tuple #[zeroC, .int .i64 z]) (by simp [results, Try.results43, go_sem, b3, b4, b5, b6, b7]) rfl ?_
        refine (HR.out _ _).2 ⟨.inl ?_, HBL.out⟩
        rw [HI.out, ← HZZ.out]
        exact ⟨HZ.out, rfl⟩
      · obtain ⟨pz, cz, hsz⟩ : ∃ pz cz, slA t' = .slice pz t'.ks.length cz := slV_slice _ _ _
        obtain ⟨nz, hnz⟩ : ∃ nz, nz = t'.ks.length := ⟨_, rfl⟩
        rw [← hnz] at hsz
        rw [hsz]
        obtain ⟨ta, hta⟩ : ∃ ta, ta = t'.a := ⟨_, rfl⟩
        rw [← hta]
        have HZ := Lib.hid hz
        have HO := Lib.hid ho
        have HND := Lib.hid hnd
        have HGE := Lib.hid hge
        have HE := Lib.hid he
        have HSL := Lib.hid hsz
        have HTA := Lib.hid hta
        clear hz ho hnd hge he hsz hnz hta
        have b2 := blk_st5 hq2 (.int .i64 ta.d.k) (.int .i64 ta.d.w) (.int .i64 ta.d.c) (.int .i64 ta.d.s) (.slice pz nz cz)
        have hbl := below_st5 (g := w.heap.size + 1 + 1 + 1) HB1.out (by omega) (.int .i64 ta.d.k) (.int .i64 ta.d.w) (.int .i64 ta.d.c) (.int .i64 ta.d.s) (.slice pz nz cz)
        have hfar := far_st5 w1 (w.heap.size + 1 + 1 + 1) (.int .i64 ta.d.k) (.int .i64 ta.d.w) (.int .i64 ta.d.c) (.int .i64 ta.d.s) (.slice pz nz cz)
        obtain ⟨⟨b3, b4, b5, b6, b7⟩, -⟩ := c5 b2
        obtain ⟨w8, hw8⟩ : ∃ w8, w8 = st5 w1 (w.heap.size + 1 + 1 + 1) (.int .i64 ta.d.k) (.int .i64 ta.d.w) (.int .i64 ta.d.c) (.int .i64 ta.d.s) (.slice pz nz cz) := ⟨_, rfl⟩
        rw [← hw8] at b3 b4 b5 b6 b7 hbl hfar
        have HW8 := Lib.hid hw8
        have HBL := Lib.hid hbl
        have HFAR := Lib.hid hfar
        obtain ⟨⟨r0, r1, r2, r3, r4⟩, f0, f1, f2, f3, f4⟩ := c5 hq2
        clear b2 hbl hw8 hq2 hfar
        go_wp2_with fail
        rw [show ((((w1.setCell ⟨w.heap.size + 1 + 1 + 1, 0, none⟩ (.int .i64 ta.d.k)).setCell ⟨w.heap.size + 1 + 1 + 1, 1, none⟩ (.int .i64 ta.d.w)).setCell ⟨w.heap.size + 1 + 1 + 1, 2, none⟩ (.int .i64 ta.d.c)).setCell ⟨w.heap.size + 1 + 1 + 1, 3, none⟩ (.int .i64 ta.d.s)).setCell ⟨w.heap.size + 1 + 1 + 1, 4, none⟩ (.slice pz nz cz) = w8 from HW8.out.symm]
        refine bodyPost_ret (v := .tuple #[.agg #[.int .i64 ta.d.k, .int .i64 ta.d.w, .int .i64 ta.d.c, .int .i64 ta.d.s, .slice pz nz cz], .int .i64 0]) (by simp [results, Try.results43, go_sem, b3, b4, b5, b6, b7]) rfl ?_
        refine (HR.out _ _).2 ⟨.inr ?_, HBL.out⟩
        rw [HI.out]
        refine ⟨HZ.out, t', HO.out.same fun b hb => HFAR.out b fun e => ?_, HND.out, fun b hb => Nat.le_trans HB.out.size (HGE.out b hb), HE.out, ?_⟩
        · have h1 := HGE.out b hb
          have h2 := HSZ.out
          omega
        · rw [HSL.out, ← HTA.out]
end Go.Proofs.Ytejbgnammlhcmaa.Co
end
section
namespace Go.Proofs.Ytejbgnammlhcmaa.Co
open Go.RowKit Go.Shelf Go.Maps
theorem grow1_ok {z : Int} (h : 1 ≤ z ∧ z ≤ 1048576) : growE [z] 0 = 0 := by
  have hc : Go.Proofs.Ytejbgnammlhcmaa.chk [z] = 0 := by
    unfold Go.Proofs.Ytejbgnammlhcmaa.chk badW
    simp
    omega
  unfold growE
  rw [if_neg (by rw [hc]; simp), if_neg (by simp)]
theorem growZ_in {z : Int} (y : Nat) (h : 1 ≤ z ∧ z ≤ 1048576) : 1 ≤ growZ z y ∧ growZ z y ≤ 1048576 := by
  unfold growZ growL
  split
  · simpa using h
  · simpa using wt_bounds _
/-- What lies along a way, and how heavy. -/
theorem way_atC {x z : Con} {u : List Nat} (ht : treeB x = true) (h : get x u = some z) {k : Nat} (hk : k < u.length) : ∃ (p q : Con) (i : Nat), u[k]? = some i ∧ get x (u.take k) = some p ∧ p.ks[i]? = some q ∧ get x (u.take (k + 1)) = some q ∧ (1 ≤ q.a.w ∧ q.a.w ≤ 1048576) := by
  have hi : u[k]? = some u[k] := List.getElem?_eq_getElem hk
  obtain ⟨p, h1, h2⟩ := get_take h k
  have hd : u.drop k = u[k] :: u.drop (k + 1) := List.drop_eq_getElem_cons hk
  rw [hd] at h2
  obtain ⟨a, ks⟩ := p
  obtain ⟨q, hq, _⟩ := get_cons h2
  have h4 : get x (u.take (k + 1)) = some q := by
    rw [take_snoc hi, get_append _ h1]; simp only [get]; rw [hq]
  refine ⟨_, q, u[k], hi, h1, hq, h4, ?_⟩
  have hs := shape_get (tree_parts ht).1 h4
  obtain ⟨b, ls⟩ := q
  simp only [shape, Bool.and_eq_true] at hs
  have h5 := hs.1
  unfold soundB at h5
  by_cases hc : 8 < 0 + (List.take (k + 1) u).length ∨ (Tr.mk b ls).a.w < 1 ∨ 1048576 < (Tr.mk b ls).a.w
  · rw [if_pos hc] at h5; cases h5
  · omega
theorem rgrow9_c (g : Nat) (z : Int) (y : Nat) (w : World) (hq : Blk w g 3 #[.int .i64 z]) (hz : 1 ≤ z ∧ z ≤ 1048576) :
    Calls Try.prog 82 #[.slice (some ⟨g, 0, none⟩) 1 1, .int .i64 0, .float .f64 y] w fun e w' => ∃ g' c', e = .returned (.tuple #[.slice (some ⟨g', 0, none⟩) 1 c', .int .i64 0]) ∧ w'.cell? ⟨g', 0, none⟩ = some (.int .i64 (growZ z y)) ∧ Below w.heap.size w w' := by
  have hE := grow1_ok hz
  refine (rgrow_c (.slice (some ⟨g, 0, none⟩) 1 1) [z] 0 y w (.inr ⟨g, 0, 1, rfl, hq.lt, by simp, by simp, fun j hj => by
    obtain rfl : j = 0 := by simpa using hj
    exact hq.at_ rfl⟩)).mono ?_
  rintro e w' ⟨v', rfl, hb, ho⟩
  have hl : growR [z] 0 y = [growZ z y] := by
    unfold growR growZ
    rw [if_pos hE]
    have hl := growL_length [z] 0 y
    obtain ⟨a, ha⟩ : ∃ a, growL [z] (Int.toNat 0) y = [a] := List.length_eq_one_iff.1 hl
    rw [ha]
    have ha : growL [z] 0 y = [a] := ha
    rw [ha]; rfl
  rw [hl] at ho
  obtain ⟨g', cap, rfl, _, _, hsi, -⟩ := ho.form (by simp)
  exact ⟨g', cap, by rw [hE]; rfl, hsi 0 (by simp), hb⟩
end Go.Proofs.Ytejbgnammlhcmaa.Co
end
section
namespace Go.Proofs.Ytejbgnammlhcmaa.Co
open Go.RowKit Go.Shelf Go.Maps
set_option maxHeartbeats 8000000 in
set_option maxRecDepth 100000 in
theorem GrowR_c (c k : Int) (y : Nat) (x : Con) (Z : Nat → Prop) (sv : Value) (w : World) (hK : KV w Z x.ks sv) (hZ : ∀ b, Z b → b < w.heap.size) (hd : (all x).length ≤ 1000000) (hf : fine x) :
    Calls Try.prog 44 #[conV x.a sv, .int .i64 c, .int .i64 k, .float .f64 y] w (DocR Z (growI x c k y) w) := by
  obtain ⟨p, cap, rfl, -⟩ := hK.slice
  obtain ⟨m, hm⟩ : ∃ m, m = x.ks.length := ⟨_, rfl⟩
  rw [← hm] at hK ⊢
  obtain ⟨R, hR⟩ : ∃ R, R = DocR Z (growI x c k y) w := ⟨_, rfl⟩
  have hRe : ∀ e w', R e w' ↔ DocR Z (growI x c k y) w e w' := by rw [hR]; exact fun _ _ => Iff.rfl
  rw [← hR]
  have HA := Lib.hid (fun (W : World) (h : Below w.heap.size w W) => asked_c Z x (.slice p m cap) c W (hK.next h) hd (fun b hb => Nat.lt_of_lt_of_le (hZ b hb) h.size))
  have HF := Lib.hid (fun (W : World) (h : Below w.heap.size w W) => FindRE_c Z x (.slice p m cap) c W (hK.next h) hd (fun b hb => Nat.lt_of_lt_of_le (hZ b hb) h.size))
  have hat := askedI_tree (x := x) (c := c)
  obtain ⟨wB, hwB⟩ : ∃ wB, wB = (w.alloc (.cells #[.int .i64 x.a.k, .int .i64 x.a.w, .int .i64 x.a.c, .int .i64 x.a.s, .slice p m cap] 24)).alloc (.cells #[.int .i64 0, .int .i64 0, .int .i64 0, .int .i64 0, .slice none 0 0] 24) := ⟨_, rfl⟩
  have hb0 : Below w.heap.size w wB := by rw [hwB]; exact ((Below.refl w.heap.size w).alloc (Nat.le_refl _) _).alloc (by simp) _
  have hq1 : Blk wB w.heap.size 24 #[.int .i64 x.a.k, .int .i64 x.a.w, .int .i64 x.a.c, .int .i64 x.a.s, .slice p m cap] := by rw [hwB]; exact (Blk.new w 24 _).alloc _
  have hq2 : Blk wB (w.heap.size + 1) 24 #[.int .i64 0, .int .i64 0, .int .i64 0, .int .i64 0, .slice none 0 0] := by
    rw [hwB]; have := Blk.new (w.alloc (.cells #[.int .i64 x.a.k, .int .i64 x.a.w, .int .i64 x.a.c, .int .i64 x.a.s, .slice p m cap] 24)) 24 #[.int .i64 0, .int .i64 0, .int .i64 0, .int .i64 0, .slice none 0 0]; rwa [World.size_alloc] at this
  have HB := Lib.hid hb0
  have HQ1 := Lib.hid hq1
  have HQ2 := Lib.hid hq2
  have HWB := Lib.hid hwB
  have HZ := Lib.hid hZ
  have HS1 : Hid (w.heap.size + 1 + 1 ≤ wB.heap.size) := hq2.lt
  obtain ⟨q9, hq9⟩ : ∃ q, q = askedI x c := ⟨_, rfl⟩
  rw [← hq9] at HA hat
  by_cases hg : k ≠ 1 ∧ k ≠ 2
  · rw [show growI x c k y = (zeroT, 1) by unfold growI; rw [if_pos hg]] at hRe
    have HR := Lib.hid hRe
    obtain ⟨hg1, hg2⟩ := hg
    have hk1 : (k != 1) = true := by simpa using hg1
    have hk2 : (k != 2) = true := by simpa using hg2
    obtain ⟨⟨b0, b1, b2, b3, b4⟩, -⟩ := c5 hq2
    have hkz : KV wB (fun b => Z b ∨ w.heap.size ≤ b) [] (.slice none 0 0) := KV.nil wB _ none 0
    clear hR hRe hK hZ hd hf hwB hb0 hq1 hq2 hm hat hq9
    show Calls Try.prog 44 #[.agg #[.int .i64 x.a.k, .int .i64 x.a.w, .int .i64 x.a.c, .int .i64 x.a.s, .slice p m cap], .int .i64 c, .int .i64 k, .float .f64 y] w R
    go_enter Try.func44, Try.ntmps44
    go_wp2_with fail
    rw [← HWB.out]
    exact bodyPost_ret (v := .tuple #[.agg #[.int .i64 0, .int .i64 0, .int .i64 0, .int .i64 0, .slice none 0 0], .int .i64 1]) (by simp [results, Try.results44, go_sem, b0, b1, b2, b3, b4]) rfl ((HR.out _ _).2 ⟨HB.out, zeroT, .slice none 0 0, rfl, hkz, rfl⟩)
  · have hkk : k = 1 ∨ k = 2 := by omega
    have hkk : (k != 1) = false ∨ ((k != 1) = true ∧ (k != 2) = false) := by rcases hkk with rfl | rfl; exact .inl rfl; exact .inr ⟨rfl, rfl⟩
    by_cases h0 : q9 = 0
    · subst h0
      obtain ⟨htr, hhb⟩ := hat rfl
      rcases findI_spec (c := c) htr with ⟨h9, _⟩ | ⟨_, u, hu, hfi⟩
      · rw [hhb] at h9; cases h9
      · obtain ⟨y0, hgy, -, -, -, hun, -⟩ := hu.leaf htr
        rw [show growI x c k y = growF k y x u by unfold growI; rw [if_neg hg]; exact chgI_some htr hu] at hRe
        have HR := Lib.hid hRe
        have HFI := Lib.hid hfi
        have HTR := Lib.hid htr
        have HGY := Lib.hid hgy
        have HFX := Lib.hid hf
        have HKX := Lib.hid (fun (W : World) (h : Below w.heap.size w W) => hK.next h)
        have hul : 0 < u.length := by cases u; exact absurd rfl hun; simp
        clear hR hRe hK hZ hd hf hwB hb0 hq1 hq2 hm hat hq9 hu hfi htr hhb hgy hun hg
        show Calls Try.prog 44 #[.agg #[.int .i64 x.a.k, .int .i64 x.a.w, .int .i64 x.a.c, .int .i64 x.a.s, .slice p m cap], .int .i64 c, .int .i64 k, .float .f64 y] w R
        go_enter Try.func44, Try.ntmps44
        go_upto_region 1 with fail
        rw [← HWB.out]
        go_cut [22] (fun s wx => s = .bool false ∧ wB = wx)
        case first =>
          rcases hkk with hb1 | ⟨hb1, hb2⟩
          all_goals
            go_wp2_with fail
            go_meet
            exact ⟨rfl, rfl⟩
        case rest =>
          obtain ⟨rfl, rfl⟩ := hcut
          obtain ⟨⟨z0, z1, z2, z3, z4⟩, -⟩ := c5 HQ1.out
          go_wp2_with fail
          refine (HA.out wB HB.out).mono ?_
          rintro e w1 ⟨rfl, hb⟩
          clear z0 z1 z2 z3 z4
          have HB1 := Lib.hid (HB.out.trans (hb.mono HB.out.size))
          have HQ3 := Lib.hid (HQ1.out.next hb)
          have HQ4 := Lib.hid (HQ2.out.next hb)
          obtain ⟨⟨q0, q1, q2, q3, q4⟩, -⟩ := c5 HQ3.out
          clear hb
          go_wp2_with fail
          refine (HF.out w1 HB1.out).mono ?_
          rintro e w2 ⟨hb, ⟨hn, -⟩ | ⟨u2, vw, hfi2, rfl, hwi, -⟩⟩
          · rw [HFI.out] at hn; cases hn
          rw [HFI.out] at hfi2
          have hfi2 := Option.some.inj hfi2
          subst hfi2
          obtain ⟨pw, cw, rfl, hl6, hlc⟩ := hwi.slice
          have HB2 := Lib.hid (HB1.out.trans (hb.mono HB1.out.size))
          have HQ5 := Lib.hid (HQ3.out.next hb)
          have HQ6 := Lib.hid (HQ4.out.next hb)
          clear q0 q1 q2 q3 q4
          obtain ⟨⟨q0, q1, q2, q3, q4⟩, -⟩ := c5 HQ5.out
          obtain ⟨n, hn⟩ : ∃ n, n = u.length := ⟨_, rfl⟩
          rw [← hn] at hwi hl6 hlc hul ⊢
          have HN := Lib.hid hn
          have HWI := Lib.hid hwi
          have hbx := HB2.out
          have hqx := HQ5.out
          have hqy := HQ6.out
          have hul1 : (0 : Int) < (n : Int) := by omega
          clear hb hn hwi q0 q1 q2 q3 q4
          go_upto_region 7 with fail
          go_loopw [12] (fun z wr => ∃ d : Nat, d ≤ n ∧ z = .int .i64 ((d : Int) - 1) ∧ Below w.heap.size w wr ∧ Blk wr w.heap.size 24 #[.int .i64 x.a.k, .int .i64 x.a.w, .int .i64 x.a.c, .int .i64 x.a.s, .slice p m cap] ∧ Blk wr (w.heap.size + 1) 24 #[.int .i64 0, .int .i64 0, .int .i64 0, .int .i64 0, .slice none 0 0] ∧ WI wr u (.slice pw n cw) ∧ Asd (growF k y x u = growN k y x u d)) (fun z _ => (intOf z + 1).toNat)
          case atStart => exact ⟨n, Nat.le_refl _, by go_num, hbx, hqx, hqy, HWI.out, by rw [HN.out]; rfl⟩
          case round =>
            clear hbx hqx hqy
            obtain ⟨d, hd, rfl, hB, hq1, hq2, hwi, hA⟩ := hrel
            have HA := Lib.hid (show growF k y x u = growN k y x u d from hA)
            have HB := Lib.hid hB
            have HQ1 := Lib.hid hq1
            have HQ2 := Lib.hid hq2
            have HWI := Lib.hid hwi
            clear hA hB hq1 hq2 hwi
            cases d with
            | zero =>
              obtain ⟨⟨r0, r1, r2, r3, r4⟩, ⟨f0, f1, f2, f3, f4⟩⟩ := c5 HQ2.out
              have hm1 : ((0 : Nat) : Int) - 1 = -1 := by omega
              rw [hm1]
              clear hm1
              go_wp2_with fail
              obtain ⟨hb5, hq5, -⟩ := st5_next HB.out (by omega) HQ2.out (.int .i64 0) (.int .i64 0) (.int .i64 0) (.int .i64 0) (.slice none 0 0)
              have hk5 := KV.st5 (g := w.heap.size + 1) (Z' := fun b => Z b ∨ w.heap.size ≤ b) (KV.nil wr Z none 0) (fun b hb => by have := HZ.out b hb; omega) (fun b hb => .inl hb) (.int .i64 0) (.int .i64 0) (.int .i64 0) (.int .i64 0) (.slice none 0 0)
              obtain ⟨w5, hw5⟩ : ∃ w5, w5 = st5 wr (w.heap.size + 1) (.int .i64 0) (.int .i64 0) (.int .i64 0) (.int .i64 0) (.slice none 0 0) := ⟨_, rfl⟩
              rw [← hw5] at hb5 hq5 hk5
              unfold st5 at hw5
              rw [← hw5]
              obtain ⟨⟨b0, b1, b2, b3, b4⟩, -⟩ := c5 hq5
              exact bodyPost_ret (v := .tuple #[.agg #[.int .i64 0, .int .i64 0, .int .i64 0, .int .i64 0, .slice none 0 0], .int .i64 120]) (by simp [results, Try.results44, go_sem, b0, b1, b2, b3, b4]) rfl ((HR.out _ _).2 ⟨hb5, zeroT, .slice none 0 0, (by rw [HA.out]; rfl), hk5, (by rw [HA.out]; rfl)⟩)
            | succ kd =>
              obtain ⟨pp, q, i, hi, hp, hq, hgq, hwt⟩ := way_atC HTR.out HGY.out (k := kd) (by rw [← HN.out]; omega)
              have hst := growN_at (kind := k) (y := y) hp hgq
              rw [if_pos (grow1_ok hwt)] at hst
              have HZW : Hid (∀ b, Z b → b < wr.heap.size) := fun b hb => Nat.lt_of_lt_of_le (HZ.out b hb) HB.out.size
              have HWK := Lib.hid (HWI.out.take (k := kd) (by omega))
              have HAT := Lib.hid (fun (W : World) (h : Below wr.heap.size wr W) => At_c Z x pp (.slice p m cap) (u.take kd) (.slice pw kd cw) W (HKX.out W (HB.out.trans (h.mono HB.out.size))) (fun b hb => Nat.lt_of_lt_of_le (HZW.out b hb) h.size) (HWK.out.next h) hp)
              have HSS : Hid (∀ W, Below wr.heap.size wr W → W.cell? ⟨w.heap.size, 0, none⟩ = some (.int .i64 x.a.k) ∧ W.cell? ⟨w.heap.size, 1, none⟩ = some (.int .i64 x.a.w) ∧ W.cell? ⟨w.heap.size, 2, none⟩ = some (.int .i64 x.a.c) ∧ W.cell? ⟨w.heap.size, 3, none⟩ = some (.int .i64 x.a.s) ∧ W.cell? ⟨w.heap.size, 4, none⟩ = some (.slice p m cap)) := fun W h => by
                obtain ⟨⟨q0, q1, q2, q3, q4⟩, -⟩ := c5 (HQ1.out.next h)
                exact ⟨q0, q1, q2, q3, q4⟩
              obtain ⟨-, -, e9, hw1, hw2⟩ : True ∧ True ∧ (((kd + 1 : Nat) : Int) - 1 = (kd : Int)) ∧ (0 : Int) ≤ (kd : Int) ∧ kd ≤ cw := ⟨trivial, trivial, by omega, by omega, by omega⟩
              rw [e9]
              clear e9
              obtain ⟨np, hnp⟩ : ∃ np, np = pp.ks.length := ⟨_, rfl⟩
              rw [← hnp] at hst
              obtain ⟨pa, hpa⟩ : ∃ pa, pa = pp.a := ⟨_, rfl⟩
              rw [← hpa] at hst HAT
              have HNP := Lib.hid hnp
              have HST := Lib.hid hst
              have HI := Lib.hid hi
              have HQK := Lib.hid hq
              have HGQ := Lib.hid hgq
              have HWT := Lib.hid hwt
              clear hst hi hp hq hgq hwt hnp hpa
              go_upto_region 9 with fail
              go_cut [13] (fun s13 wx => ∃ g p3 c3, s13 = .pointer (some ⟨g, 0, none⟩) ∧ Blk wx g 24 #[.int .i64 pa.k, .int .i64 pa.w, .int .i64 pa.c, .int .i64 pa.s, .slice p3 np c3] ∧ KV wx Z pp.ks (.slice p3 np c3) ∧ wr.heap.size ≤ g ∧ Below wr.heap.size wr wx)
              case first =>
                refine wp_region_noPanic ?_
                refine wp_region_held_drew (S := fun wx => wx.cell? ⟨w.heap.size, 0, none⟩ = some (.int .i64 x.a.k) ∧ wx.cell? ⟨w.heap.size, 1, none⟩ = some (.int .i64 x.a.w) ∧ wx.cell? ⟨w.heap.size, 2, none⟩ = some (.int .i64 x.a.c) ∧ wx.cell? ⟨w.heap.size, 3, none⟩ = some (.int .i64 x.a.s) ∧ wx.cell? ⟨w.heap.size, 4, none⟩ = some (.slice p m cap)) (by kernel_rfl) (by exact HSS.out _ (Below.refl _ _).drew) (fun hHeld => ?_)
                refine wpAnyH_take (i := 0) (v := ?va0) rfl (by kernel_rfl) (by kernel_rfl) (by kernel_rfl) (fun _ _ _ h => h) (Or.inl ⟨by kernel_rfl, ?ya0⟩) (by assumption) ?ra0
                case ya0 => (intro wq hSw; (try dsimp only at hSw); go_simp; (try with_reducible rfl))
                (try simp only [Act.put, List.getElem_toArray, List.getElem_cons_zero, List.setIfInBounds_toArray, List.set_cons_zero, List.set_cons_succ])
                refine wpAnyH_take (i := 1) (v := ?va1) rfl (by kernel_rfl) (by kernel_rfl) (by kernel_rfl) (fun _ _ _ h => h) (Or.inl ⟨by kernel_rfl, ?ya1⟩) (by assumption) ?ra1
                case ya1 => (intro wq hSw; (try dsimp only at hSw); go_simp; (try with_reducible rfl))
                (try simp only [Act.put, List.getElem_toArray, List.getElem_cons_succ, List.getElem_cons_zero, List.setIfInBounds_toArray, List.set_cons_zero, List.set_cons_succ])
                refine wpAnyH_take (i := 2) (v := ?va2) rfl (by kernel_rfl) (by kernel_rfl) (by kernel_rfl) (fun _ _ _ h => h) (Or.inl ⟨by kernel_rfl, ?ya2⟩) (by assumption) ?ra2
                case ya2 => (intro wq hSw; (try dsimp only at hSw); go_simp; (try with_reducible rfl))
                (try simp only [Act.put, List.getElem_toArray, List.getElem_cons_succ, List.getElem_cons_zero, List.setIfInBounds_toArray, List.set_cons_zero, List.set_cons_succ])
                refine wpAnyH_take (i := 3) (v := ?va3) rfl (by kernel_rfl) (by kernel_rfl) (by kernel_rfl) (fun _ _ _ h => h) (Or.inl ⟨by kernel_rfl, ?ya3⟩) (by assumption) ?ra3
                case ya3 => (intro wq hSw; (try dsimp only at hSw); go_simp; (try with_reducible rfl))
                (try simp only [Act.put, List.getElem_toArray, List.getElem_cons_succ, List.getElem_cons_zero, List.setIfInBounds_toArray, List.set_cons_zero, List.set_cons_succ])
                obtain ⟨wd, hwd⟩ : ∃ wd, wd = wr.drew := ⟨_, rfl⟩
                have HBd := Lib.hid (show Below wr.heap.size wr wd from hwd ▸ (Below.refl _ _).drew)
                rw [← hwd]
                clear hwd
                refine wpAnyH_ready (rs := [4, 5]) (by kernel_rfl) (by simp) ?_
                refine AllReadyH.cons rfl (fun K hK => ?_) (AllReadyH.cons rfl (fun K hK => ?_) AllReadyH.nil)
                · go_simp
                  refine (HAT.out wd HBd.out).mono ?_
                  rintro e w5 ⟨hb, s3, rfl, hk⟩
                  obtain ⟨p3, c3, rfl, -⟩ := hk.slice
                  rw [← HNP.out] at hk ⊢
                  have HB5 := Lib.hid (HBd.out.trans (hb.mono HBd.out.size))
                  have HK5 := Lib.hid hk
                  (try dsimp only)
                  refine hK.out _ _ (by exact HSS.out _ HB5.out) (fun hHeld => ?_)
                  clear hK K hb hk
                  (try simp only [Act.put, List.getElem_toArray, List.getElem_cons_succ, List.getElem_cons_zero, List.setIfInBounds_toArray, List.set_cons_zero, List.set_cons_succ])
                  refine wpAnyH_ready (rs := [5]) (by kernel_rfl) (by simp) ?_
                  refine AllReadyH.cons rfl (fun K hK => ?_) AllReadyH.nil
                  go_simp
                  refine hK.out _ _ (by exact HSS.out _ (HB5.out.alloc HB5.out.size (.cells #[.int .i64 0, .int .i64 0, .int .i64 0, .int .i64 0, .slice none 0 0] 24))) (fun hHeld => ?_)
                  clear hK K
                  (try simp only [Act.put, List.getElem_toArray, List.getElem_cons_succ, List.getElem_cons_zero, List.setIfInBounds_toArray, List.set_cons_zero, List.set_cons_succ])
                  obtain ⟨w6, hw6⟩ : ∃ wn, wn = w5.alloc (.cells #[.int .i64 0, .int .i64 0, .int .i64 0, .int .i64 0, .slice none 0 0] 24) := ⟨_, rfl⟩
                  have HB6 := Lib.hid (show Below wr.heap.size wr w6 from hw6 ▸ HB5.out.alloc HB5.out.size _)
                  have HQ6 := Lib.hid (show Blk w6 w5.heap.size 24 #[.int .i64 0, .int .i64 0, .int .i64 0, .int .i64 0, .slice none 0 0] from hw6 ▸ Blk.new _ _ _)
                  have HL6 : Hid (wr.heap.size ≤ w5.heap.size) := HB5.out.size
                  have HK6 := Lib.hid (KV.next HK5.out (hw6 ▸ (Below.refl w5.heap.size w5).alloc (Nat.le_refl _) _))
                  have HZGa : Hid (∀ b, Z b → b ≠ w5.heap.size) := fun b hb => Nat.ne_of_lt (Nat.lt_of_lt_of_le (HZW.out b hb) HL6.out)
                  rw [← hw6]
                  clear hw6
                  obtain ⟨⟨g0, g1, g2, g3, g4⟩, k0, k1, k2, k3, k4⟩ := c5 HQ6.out
                  refine wpAnyH_ready (rs := [6]) (by kernel_rfl) (by simp) ?_
                  refine AllReadyH.cons rfl (fun K hK => ?_) AllReadyH.nil
                  go_simp
                  have hbn := below_st5 HB6.out HL6.out (.int .i64 pa.k) (.int .i64 pa.w) (.int .i64 pa.c) (.int .i64 pa.s) (.slice p3 np c3)
                  have hqn := blk_st5 HQ6.out (.int .i64 pa.k) (.int .i64 pa.w) (.int .i64 pa.c) (.int .i64 pa.s) (.slice p3 np c3)
                  have hkn := KV.st5 (Z' := Z) HK6.out (fun b hb => HZGa.out b hb) (fun b hb => hb) (.int .i64 pa.k) (.int .i64 pa.w) (.int .i64 pa.c) (.int .i64 pa.s) (.slice p3 np c3)
                  refine hK.out _ _ (by exact HSS.out _ hbn) (fun hHeld => ?_)
                  clear hK K
                  (try simp only [Act.put, List.getElem_toArray, List.getElem_cons_succ, List.getElem_cons_zero, List.setIfInBounds_toArray, List.set_cons_zero, List.set_cons_succ])
                  refine wpAnyH_done (by kernel_rfl) ?_ _
                  refine NoPanic.normal ?_
                  clear g0 g1 g2 g3 g4 k0 k1 k2 k3 k4 hHeld
                  go_wp2_with fail
                  go_meet
                  exact ⟨_, p3, c3, rfl, hqn, hkn, HL6.out, hbn⟩
                · go_simp
                  refine hK.out _ _ (by exact HSS.out _ (HBd.out.alloc HBd.out.size (.cells #[.int .i64 0, .int .i64 0, .int .i64 0, .int .i64 0, .slice none 0 0] 24))) (fun hHeld => ?_)
                  clear hK K
                  (try simp only [Act.put, List.getElem_toArray, List.getElem_cons_succ, List.getElem_cons_zero, List.setIfInBounds_toArray, List.set_cons_zero, List.set_cons_succ])
                  obtain ⟨w5, hw5⟩ : ∃ wn, wn = wd.alloc (.cells #[.int .i64 0, .int .i64 0, .int .i64 0, .int .i64 0, .slice none 0 0] 24) := ⟨_, rfl⟩
                  have HB5 := Lib.hid (show Below wr.heap.size wr w5 from hw5 ▸ HBd.out.alloc HBd.out.size _)
                  have HQ5 := Lib.hid (show Blk w5 wd.heap.size 24 #[.int .i64 0, .int .i64 0, .int .i64 0, .int .i64 0, .slice none 0 0] from hw5 ▸ Blk.new _ _ _)
                  have HL5 : Hid (wr.heap.size ≤ wd.heap.size) := HBd.out.size
                  have HZGb : Hid (∀ b, Z b → b ≠ wd.heap.size) := fun b hb => Nat.ne_of_lt (Nat.lt_of_lt_of_le (HZW.out b hb) HL5.out)
                  rw [← hw5]
                  clear hw5
                  refine wpAnyH_ready (rs := [4]) (by kernel_rfl) (by simp) ?_
                  refine AllReadyH.cons rfl (fun K hK => ?_) AllReadyH.nil
                  go_simp
                  refine (HAT.out w5 HB5.out).mono ?_
                  rintro e w6 ⟨hb, s3, rfl, hk⟩
                  obtain ⟨p3, c3, rfl, -⟩ := hk.slice
                  rw [← HNP.out] at hk ⊢
                  have HB6 := Lib.hid (HB5.out.trans (hb.mono HB5.out.size))
                  have HK6 := Lib.hid hk
                  have HQ6 := Lib.hid (HQ5.out.next hb)
                  (try dsimp only)
                  refine hK.out _ _ (by exact HSS.out _ HB6.out) (fun hHeld => ?_)
                  clear hK K hb hk
                  (try simp only [Act.put, List.getElem_toArray, List.getElem_cons_succ, List.getElem_cons_zero, List.setIfInBounds_toArray, List.set_cons_zero, List.set_cons_succ])
                  obtain ⟨⟨g0, g1, g2, g3, g4⟩, k0, k1, k2, k3, k4⟩ := c5 HQ6.out
                  refine wpAnyH_ready (rs := [6]) (by kernel_rfl) (by simp) ?_
                  refine AllReadyH.cons rfl (fun K hK => ?_) AllReadyH.nil
                  go_simp
                  have hbn := below_st5 HB6.out HL5.out (.int .i64 pa.k) (.int .i64 pa.w) (.int .i64 pa.c) (.int .i64 pa.s) (.slice p3 np c3)
                  have hqn := blk_st5 HQ6.out (.int .i64 pa.k) (.int .i64 pa.w) (.int .i64 pa.c) (.int .i64 pa.s) (.slice p3 np c3)
                  have hkn := KV.st5 (Z' := Z) HK6.out (fun b hb => HZGb.out b hb) (fun b hb => hb) (.int .i64 pa.k) (.int .i64 pa.w) (.int .i64 pa.c) (.int .i64 pa.s) (.slice p3 np c3)
                  refine hK.out _ _ (by exact HSS.out _ hbn) (fun hHeld => ?_)
                  clear hK K
                  (try simp only [Act.put, List.getElem_toArray, List.getElem_cons_succ, List.getElem_cons_zero, List.setIfInBounds_toArray, List.set_cons_zero, List.set_cons_succ])
                  refine wpAnyH_done (by kernel_rfl) ?_ _
                  refine NoPanic.normal ?_
                  clear g0 g1 g2 g3 g4 k0 k1 k2 k3 k4 hHeld
                  go_wp2_with fail
                  go_meet
                  exact ⟨_, p3, c3, rfl, hqn, hkn, HL5.out, hbn⟩
              case rest =>
                obtain ⟨g3, p3, c3, rfl, hq3, hk3, hg3, hbc⟩ := hcut
                have HB3 := Lib.hid (HB.out.trans (hbc.mono HB.out.size))
                have HX3 := Lib.hid (HQ1.out.next hbc)
                have HY3 := Lib.hid (HQ2.out.next hbc)
                have HW3 := Lib.hid (HWI.out.next hbc)
                have HQ3 := Lib.hid hq3
                have HK3 := Lib.hid hk3
                have HZ3 : Hid (∀ b, Z b → b < wc.heap.size) := fun b hb => Nat.lt_of_lt_of_le (HZW.out b hb) hbc.size
                clear HSS HAT HWK hq3 hk3 hbc HZW
                obtain ⟨w3, hw3⟩ : ∃ w3, w3 = wc := ⟨_, rfl⟩
                subst hw3
                by_cases hk1 : pa.k = k
                rotate_left
                · have hkf : (pa.k == k) = false := by simpa using hk1
                  rw [if_neg (fun h => hk1 h.1)] at HST
                  obtain ⟨⟨y0, y1, y2, y3, y4⟩, -⟩ := c5 HQ3.out
                  go_upto_region 10 with fail
                  go_wp2_with fail
                  go_roundw
                  case rel => exact ⟨kd, by omega, by go_num, HB3.out, HX3.out, HY3.out, HW3.out, HA.out.trans HST.out⟩
                  case measure => (try simp only [intOf]); omega
                · have hkt : (pa.k == k) = true := by simpa using hk1
                  by_cases hk2 : 2 ≤ np
                  rotate_left
                  · have hk3 : ¬ (2 : Int) ≤ (np : Int) := by omega
                    rw [if_neg (fun h => hk2 h.2)] at HST
                    obtain ⟨⟨y0, y1, y2, y3, y4⟩, -⟩ := c5 HQ3.out
                    go_upto_region 10 with fail
                    go_wp2_with fail
                    go_roundw
                    case rel => exact ⟨kd, by omega, by go_num, HB3.out, HX3.out, HY3.out, HW3.out, HA.out.trans HST.out⟩
                    case measure => (try simp only [intOf]); omega
                  · have hk3 : (2 : Int) ≤ (np : Int) := by omega
                    rw [if_pos ⟨hk1, hk2⟩] at HST
                    obtain ⟨hnp2, bk, ok, sq, rfl, -, hbk, hqw, hkq, y0, y1, y2, y3, y4⟩ := HK3.out.kid HQK.out
                    obtain ⟨bw, ow, rfl, hbw, hwc⟩ := HW3.out.at_ HI.out
                    obtain ⟨pq, cq, rfl, -⟩ := hkq.slice
                    obtain ⟨nq, hnq⟩ : ∃ a, a = q.ks.length := ⟨_, rfl⟩
                    obtain ⟨qa, hqa⟩ : ∃ a, a = q.a := ⟨_, rfl⟩
                    rw [← hnq] at hkq y4
                    rw [← hqa] at hqw y0 y1 y2 y3 HST
                    have hil : i < np := by rw [hnp2]; exact (List.getElem?_eq_some_iff.1 HQK.out).1
                    have hi0 : (0 : Int) ≤ (i : Int) := by omega
                    have hi1 : (i : Int) < (np : Int) := by omega
                    have hkn : (kd : Int) < (n : Int) := by omega
                    have HKQ := Lib.hid hkq
                    have HQW := Lib.hid hqw
                    have HWT2 : Hid (1 ≤ qa.w ∧ qa.w ≤ 1048576) := by rw [hqa]; exact HWT.out
                    have HSB : Hid (∀ W, Below w3.heap.size w3 W → (W.cell? ⟨g3, 4, none⟩ = some (.slice (some ⟨bk, ok, none⟩) np c3) ∧ W.cell? ⟨bw, ow + kd, none⟩ = some (.int .i64 (i : Int)) ∧ W.cell? ⟨bk, ok + i * 5, none⟩ = some (.int .i64 qa.k) ∧ W.cell? ⟨bk, ok + i * 5 + 1, none⟩ = some (.int .i64 qa.w) ∧ W.cell? ⟨bk, ok + i * 5 + 2, none⟩ = some (.int .i64 qa.c) ∧ W.cell? ⟨bk, ok + i * 5 + 3, none⟩ = some (.int .i64 qa.s) ∧ W.cell? ⟨bk, ok + i * 5 + 4, none⟩ = some (.slice pq nq cq))) := fun W h => by
                      obtain ⟨⟨-, -, -, -, z4⟩, -⟩ := c5 (HQ3.out.next h)
                      exact ⟨z4, (cell_same (h.block bw hbw) _).trans hwc, (cell_same (h.block bk hbk) _).trans y0, (cell_same (h.block bk hbk) _).trans y1, (cell_same (h.block bk hbk) _).trans y2, (cell_same (h.block bk hbk) _).trans y3, (cell_same (h.block bk hbk) _).trans y4⟩
                    have HPU : Hid (∀ (W : World), Below w3.heap.size w3 W → Calls Try.prog 67 #[.agg #[.int .i64 x.a.k, .int .i64 x.a.w, .int .i64 x.a.c, .int .i64 x.a.s, .slice p m cap], .slice (some ⟨bw, ow, none⟩) (kd + 1) cw, .agg #[.int .i64 qa.k, .int .i64 (growZ qa.w y), .int .i64 qa.c, .int .i64 qa.s, .slice pq nq cq]] W fun e w' => Below W.heap.size W w' ∧ ∃ s', e = .returned (conV (put x (u.take (kd + 1)) (.mk { qa with w := growZ qa.w y } q.ks)).a s') ∧ KV w' (fun b => Z b ∨ W.heap.size ≤ b) (put x (u.take (kd + 1)) (.mk { qa with w := growZ qa.w y } q.ks)).ks s') := fun W h => by
                      have hz := growZ_in y HWT2.out
                      exact Put_c (.mk { qa with w := growZ qa.w y } q.ks) (.slice pq nq cq) (by refine ⟨HQW.out.1, ⟨?_, ?_⟩, HQW.out.2.2.1, HQW.out.2.2.2⟩ <;> simp only [Tr.a_mk] <;> omega) (u.take (kd + 1)) Z x q (.slice p m cap) _ W (fun b hb => Nat.lt_of_lt_of_le (HZ3.out b hb) h.size) (HKX.out W (HB3.out.trans (h.mono HB3.out.size))) (HKQ.out.next h) ((HW3.out.take (k := kd + 1) hd).next h) HGQ.out HFX.out
                    obtain ⟨Y, hY⟩ : ∃ Y, Y = put x (u.take (kd + 1)) (.mk { qa with w := growZ qa.w y } q.ks) := ⟨_, rfl⟩
                    rw [← hY] at HPU HST
                    obtain ⟨gz, hgz⟩ : ∃ z, z = growZ qa.w y := ⟨_, rfl⟩
                    have HRG := Lib.hid (fun (g : Nat) (W : World) (h : Blk W g 3 #[.int .i64 qa.w]) => rgrow9_c g qa.w y W h HWT2.out)
                    rw [← hgz] at HPU HRG
                    clear hY hgz hqa hnq hkq hqw hnp2 hil
                    obtain ⟨⟨z0, z1, z2, z3, z4⟩, -⟩ := c5 HQ3.out
                    go_upto_region 10 with fail
                    go_upto_region 11 with fail
                    clear z0 z1 z2 z3 z4 y0 y1 y2 y3 y4 hwc
                    go_cut [14] (fun s14 wx => ∃ g, s14 = .pointer (some ⟨g, 0, none⟩) ∧ Blk wx g 24 #[.int .i64 qa.k, .int .i64 qa.w, .int .i64 qa.c, .int .i64 qa.s, .slice pq nq cq] ∧ w3.heap.size ≤ g ∧ Below w3.heap.size w3 wx)
                    case first =>
                      refine wp_region_noPanic ?_
                      refine wp_region_held_drew (S := fun wx => wx.cell? ⟨g3, 4, none⟩ = some (.slice (some ⟨bk, ok, none⟩) np c3) ∧ wx.cell? ⟨bw, ow + kd, none⟩ = some (.int .i64 (i : Int)) ∧ wx.cell? ⟨bk, ok + i * 5, none⟩ = some (.int .i64 qa.k) ∧ wx.cell? ⟨bk, ok + i * 5 + 1, none⟩ = some (.int .i64 qa.w) ∧ wx.cell? ⟨bk, ok + i * 5 + 2, none⟩ = some (.int .i64 qa.c) ∧ wx.cell? ⟨bk, ok + i * 5 + 3, none⟩ = some (.int .i64 qa.s) ∧ wx.cell? ⟨bk, ok + i * 5 + 4, none⟩ = some (.slice pq nq cq)) (by kernel_rfl) (by exact HSB.out _ (Below.refl _ _).drew) (fun hHeld => ?_)
                      refine wpAnyH_take (i := 0) (v := ?ve0) rfl (by kernel_rfl) (by kernel_rfl) (by kernel_rfl) (fun _ _ _ h => h) (Or.inl ⟨by kernel_rfl, ?ye0⟩) (by assumption) ?re0
                      case ye0 => (intro wq hSw; (try dsimp only at hSw); go_simp; (try with_reducible rfl))
                      (try simp only [Act.put, List.getElem_toArray, List.getElem_cons_zero, List.setIfInBounds_toArray, List.set_cons_zero, List.set_cons_succ])
                      refine wpAnyH_take (i := 1) (v := ?ve1) rfl (by kernel_rfl) (by kernel_rfl) (by kernel_rfl) (fun _ _ _ h => h) (Or.inl ⟨by kernel_rfl, ?ye1⟩) (by assumption) ?re1
                      case ye1 => (intro wq hSw; (try dsimp only at hSw); go_simp; (try with_reducible rfl))
                      (try simp only [Act.put, List.getElem_toArray, List.getElem_cons_succ, List.getElem_cons_zero, List.setIfInBounds_toArray, List.set_cons_zero, List.set_cons_succ])
                      refine wpAnyH_take (i := 2) (v := ?ve2) rfl (by kernel_rfl) (by kernel_rfl) (by kernel_rfl) (fun _ _ _ h => h) (Or.inl ⟨by kernel_rfl, ?ye2⟩) (by assumption) ?re2
                      case ye2 => (intro wq hSw; (try dsimp only at hSw); go_simp; (try with_reducible rfl))
                      (try simp only [Act.put, List.getElem_toArray, List.getElem_cons_succ, List.getElem_cons_zero, List.setIfInBounds_toArray, List.set_cons_zero, List.set_cons_succ])
                      refine wpAnyH_take (i := 3) (v := ?ve3) rfl (by kernel_rfl) (by kernel_rfl) (by kernel_rfl) (fun _ _ _ h => h) (Or.inl ⟨by kernel_rfl, ?ye3⟩) (by assumption) ?re3
                      case ye3 => (intro wq hSw; (try dsimp only at hSw); go_simp; (try with_reducible rfl))
                      (try simp only [Act.put, List.getElem_toArray, List.getElem_cons_succ, List.getElem_cons_zero, List.setIfInBounds_toArray, List.set_cons_zero, List.set_cons_succ])
                      refine wpAnyH_take (i := 4) (v := ?ve4) rfl (by kernel_rfl) (by kernel_rfl) (by kernel_rfl) (fun _ _ _ h => h) (Or.inl ⟨by kernel_rfl, ?ye4⟩) (by assumption) ?re4
                      case ye4 => (intro wq hSw; (try dsimp only at hSw); go_simp; (try with_reducible rfl))
                      (try simp only [Act.put, List.getElem_toArray, List.getElem_cons_succ, List.getElem_cons_zero, List.setIfInBounds_toArray, List.set_cons_zero, List.set_cons_succ])
                      refine wpAnyH_take (i := 5) (v := ?ve5) rfl (by kernel_rfl) (by kernel_rfl) (by kernel_rfl) (fun _ _ _ h => h) (Or.inl ⟨by kernel_rfl, ?ye5⟩) (by assumption) ?re5
                      case ye5 => (intro wq hSw; (try dsimp only at hSw); go_simp; (try with_reducible rfl))
                      (try simp only [Act.put, List.getElem_toArray, List.getElem_cons_succ, List.getElem_cons_zero, List.setIfInBounds_toArray, List.set_cons_zero, List.set_cons_succ])
                      refine wpAnyH_take (i := 6) (v := ?ve6) rfl (by kernel_rfl) (by kernel_rfl) (by kernel_rfl) (fun _ _ _ h => h) (Or.inl ⟨by kernel_rfl, ?ye6⟩) (by assumption) ?re6
                      case ye6 => (intro wq hSw; (try dsimp only at hSw); go_simp; (try with_reducible rfl))
                      (try simp only [Act.put, List.getElem_toArray, List.getElem_cons_succ, List.getElem_cons_zero, List.setIfInBounds_toArray, List.set_cons_zero, List.set_cons_succ])
                      refine wpAnyH_take (i := 7) (v := ?ve7) rfl (by kernel_rfl) (by kernel_rfl) (by kernel_rfl) (fun _ _ _ h => h) (Or.inl ⟨by kernel_rfl, ?ye7⟩) (by assumption) ?re7
                      case ye7 => (intro wq hSw; (try dsimp only at hSw); go_simp; (try with_reducible rfl))
                      (try simp only [Act.put, List.getElem_toArray, List.getElem_cons_succ, List.getElem_cons_zero, List.setIfInBounds_toArray, List.set_cons_zero, List.set_cons_succ])
                      obtain ⟨wd, hwd⟩ : ∃ wd, wd = w3.drew := ⟨_, rfl⟩
                      have HBd := Lib.hid (show Below w3.heap.size w3 wd from hwd ▸ (Below.refl _ _).drew)
                      rw [← hwd]
                      clear hwd
                      refine wpAnyH_ready (rs := [8]) (by kernel_rfl) (by simp) ?_
                      refine AllReadyH.cons rfl (fun K hK => ?_) AllReadyH.nil
                      go_simp
                      refine hK.out _ _ (by exact HSB.out _ (HBd.out.alloc HBd.out.size (.cells #[.int .i64 0, .int .i64 0, .int .i64 0, .int .i64 0, .slice none 0 0] 24))) (fun hHeld => ?_)
                      clear hK K
                      (try simp only [Act.put, List.getElem_toArray, List.getElem_cons_succ, List.getElem_cons_zero, List.setIfInBounds_toArray, List.set_cons_zero, List.set_cons_succ])
                      obtain ⟨w5, hw5⟩ : ∃ wn, wn = wd.alloc (.cells #[.int .i64 0, .int .i64 0, .int .i64 0, .int .i64 0, .slice none 0 0] 24) := ⟨_, rfl⟩
                      have HB5 := Lib.hid (show Below w3.heap.size w3 w5 from hw5 ▸ HBd.out.alloc HBd.out.size _)
                      have HQ5 := Lib.hid (show Blk w5 wd.heap.size 24 #[.int .i64 0, .int .i64 0, .int .i64 0, .int .i64 0, .slice none 0 0] from hw5 ▸ Blk.new _ _ _)
                      have HL5 : Hid (w3.heap.size ≤ wd.heap.size) := HBd.out.size
                      rw [← hw5]
                      clear hw5
                      obtain ⟨⟨g0, g1, g2, g3', g4⟩, k0, k1, k2, k3, k4⟩ := c5 HQ5.out
                      refine wpAnyH_ready (rs := [9]) (by kernel_rfl) (by simp) ?_
                      refine AllReadyH.cons rfl (fun K hK => ?_) AllReadyH.nil
                      go_simp
                      have hbn := below_st5 HB5.out HL5.out (.int .i64 qa.k) (.int .i64 qa.w) (.int .i64 qa.c) (.int .i64 qa.s) (.slice pq nq cq)
                      have hqn := blk_st5 HQ5.out (.int .i64 qa.k) (.int .i64 qa.w) (.int .i64 qa.c) (.int .i64 qa.s) (.slice pq nq cq)
                      refine hK.out _ _ (by exact HSB.out _ hbn) (fun hHeld => ?_)
                      clear hK K
                      (try simp only [Act.put, List.getElem_toArray, List.getElem_cons_succ, List.getElem_cons_zero, List.setIfInBounds_toArray, List.set_cons_zero, List.set_cons_succ])
                      refine wpAnyH_done (by kernel_rfl) ?_ _
                      refine NoPanic.normal ?_
                      clear g0 g1 g2 g3' g4 k0 k1 k2 k3 k4 hHeld
                      go_wp2_with fail
                      go_meet
                      exact ⟨_, rfl, hqn, HL5.out, hbn⟩
                    case rest =>
                      obtain ⟨g4, rfl, hq4, hg4, hbc⟩ := hcut
                      have HB4 := Lib.hid hbc
                      have HQ4 := Lib.hid hq4
                      have hq5 := Blk.new wc 3 #[.int .i64 qa.w]
                      have hb5 := (Below.refl wc.heap.size wc).alloc (Nat.le_refl _) (.cells #[.int .i64 qa.w] 3)
                      have HQ5 := Lib.hid hq5
                      have HB5 := Lib.hid hb5
                      obtain ⟨⟨z0, z1, z2, z3, z4⟩, -⟩ := c5 HQ4.out
                      clear hbc hq4 hq5 hb5
                      go_upto_region 12 with fail
                      go_wp2_with fail
                      refine (HRG.out _ _ HQ5.out).mono ?_
                      rintro e w6 ⟨g6, c6, rfl, hgc, hb⟩
                      have hb6 := HB5.out.trans (hb.mono HB5.out.size)
                      have HQ6 := Lib.hid (HQ4.out.next hb6)
                      have HB6 := Lib.hid (HB4.out.trans (hb6.mono HB4.out.size))
                      clear z0 z1 z2 z3 z4 hb hb6
                      obtain ⟨⟨z0, z1, z2, z3, z4⟩, ⟨f0, f1, f2, f3, f4⟩⟩ := c5 HQ6.out
                      go_upto_region 14 with fail
                      obtain ⟨w7, hw7⟩ : ∃ w7, w7 = w6.setCell ⟨g4, 1, none⟩ (.int .i64 gz) := ⟨_, rfl⟩
                      have HQ7 : Hid (Blk w7 g4 24 #[.int .i64 qa.k, .int .i64 gz, .int .i64 qa.c, .int .i64 qa.s, .slice pq nq cq]) := by rw [hw7]; exact HQ6.out.set_ 1 _
                      have HB7 : Hid (Below w3.heap.size w3 w7) := by rw [hw7]; exact HB6.out.setCell hg4 _
                      rw [← hw7]
                      clear hw7 z0 z1 z2 z3 z4 f0 f1 f2 f3 f4 hgc
                      have HB8 := Lib.hid (HB3.out.trans (HB7.out.mono HB3.out.size))
                      have HX7 := Lib.hid (HX3.out.next HB7.out)
                      have HY7 := Lib.hid (HY3.out.next HB7.out)
                      have HSC : Hid (∀ W, Below w7.heap.size w7 W → (W.cell? ⟨w.heap.size, 0, none⟩ = some (.int .i64 x.a.k) ∧ W.cell? ⟨w.heap.size, 1, none⟩ = some (.int .i64 x.a.w) ∧ W.cell? ⟨w.heap.size, 2, none⟩ = some (.int .i64 x.a.c) ∧ W.cell? ⟨w.heap.size, 3, none⟩ = some (.int .i64 x.a.s) ∧ W.cell? ⟨w.heap.size, 4, none⟩ = some (.slice p m cap) ∧ W.cell? ⟨g4, 0, none⟩ = some (.int .i64 qa.k) ∧ W.cell? ⟨g4, 1, none⟩ = some (.int .i64 gz) ∧ W.cell? ⟨g4, 2, none⟩ = some (.int .i64 qa.c) ∧ W.cell? ⟨g4, 3, none⟩ = some (.int .i64 qa.s) ∧ W.cell? ⟨g4, 4, none⟩ = some (.slice pq nq cq))) := fun W h => by
                        obtain ⟨⟨q0, q1, q2, q3, q4⟩, -⟩ := c5 (HX7.out.next h)
                        obtain ⟨⟨z0, z1, z2, z3, z4⟩, -⟩ := c5 (HQ7.out.next h)
                        exact ⟨q0, q1, q2, q3, q4, z0, z1, z2, z3, z4⟩
                      have hadd : IntKind.i64.wrap ((kd : Int) + 1) = (kd : Int) + 1 := IntWalk.i64_in _ (by omega)
                      have hk0 : (0 : Int) ≤ (kd : Int) + 1 := by omega
                      have hkc : kd + 1 ≤ cw := by omega
                      have hkc2 : (kd : Int) + 1 ≤ (cw : Int) := by omega
                      have htn : ((kd : Int) + 1).toNat = kd + 1 := by omega
                      refine wp_region_noPanic ?_
                      refine wp_region_held_drew (S := fun wx => wx.cell? ⟨w.heap.size, 0, none⟩ = some (.int .i64 x.a.k) ∧ wx.cell? ⟨w.heap.size, 1, none⟩ = some (.int .i64 x.a.w) ∧ wx.cell? ⟨w.heap.size, 2, none⟩ = some (.int .i64 x.a.c) ∧ wx.cell? ⟨w.heap.size, 3, none⟩ = some (.int .i64 x.a.s) ∧ wx.cell? ⟨w.heap.size, 4, none⟩ = some (.slice p m cap) ∧ wx.cell? ⟨g4, 0, none⟩ = some (.int .i64 qa.k) ∧ wx.cell? ⟨g4, 1, none⟩ = some (.int .i64 gz) ∧ wx.cell? ⟨g4, 2, none⟩ = some (.int .i64 qa.c) ∧ wx.cell? ⟨g4, 3, none⟩ = some (.int .i64 qa.s) ∧ wx.cell? ⟨g4, 4, none⟩ = some (.slice pq nq cq)) (by kernel_rfl) (by exact HSC.out _ (Below.refl _ _).drew) (fun hHeld => ?_)
                      refine wpAnyH_take (i := 0) (v := ?vf0) rfl (by kernel_rfl) (by kernel_rfl) (by kernel_rfl) (fun _ _ _ h => h) (Or.inl ⟨by kernel_rfl, ?yf0⟩) (by assumption) ?rf0
                      case yf0 => (intro wq hSw; (try dsimp only at hSw); go_simp; (try with_reducible rfl))
                      (try simp only [Act.put, List.getElem_toArray, List.getElem_cons_zero, List.setIfInBounds_toArray, List.set_cons_zero, List.set_cons_succ])
                      refine wpAnyH_take (i := 1) (v := ?vf1) rfl (by kernel_rfl) (by kernel_rfl) (by kernel_rfl) (fun _ _ _ h => h) (Or.inl ⟨by kernel_rfl, ?yf1⟩) (by assumption) ?rf1
                      case yf1 => (intro wq hSw; (try dsimp only at hSw); go_simp; (try with_reducible rfl))
                      (try simp only [Act.put, List.getElem_toArray, List.getElem_cons_succ, List.getElem_cons_zero, List.setIfInBounds_toArray, List.set_cons_zero, List.set_cons_succ])
                      refine wpAnyH_take (i := 2) (v := ?vf2) rfl (by kernel_rfl) (by kernel_rfl) (by kernel_rfl) (fun _ _ _ h => h) (Or.inl ⟨by kernel_rfl, ?yf2⟩) (by assumption) ?rf2
                      case yf2 => (intro wq hSw; (try dsimp only at hSw); go_simp; (try with_reducible rfl))
                      (try simp only [Act.put, List.getElem_toArray, List.getElem_cons_succ, List.getElem_cons_zero, List.setIfInBounds_toArray, List.set_cons_zero, List.set_cons_succ])
                      refine wpAnyH_take (i := 3) (v := ?vf3) rfl (by kernel_rfl) (by kernel_rfl) (by kernel_rfl) (fun _ _ _ h => h) (Or.inl ⟨by kernel_rfl, ?yf3⟩) (by assumption) ?rf3
                      case yf3 => (intro wq hSw; (try dsimp only at hSw); go_simp; (try with_reducible rfl))
                      (try simp only [Act.put, List.getElem_toArray, List.getElem_cons_succ, List.getElem_cons_zero, List.setIfInBounds_toArray, List.set_cons_zero, List.set_cons_succ])
                      refine wpAnyH_take (i := 4) (v := ?vf4) rfl (by kernel_rfl) (by kernel_rfl) (by kernel_rfl) (fun _ _ _ h => h) (Or.inl ⟨by kernel_rfl, ?yf4⟩) (by assumption) ?rf4
                      case yf4 => (intro wq hSw; (try dsimp only at hSw); go_simp; (try with_reducible rfl))
                      (try simp only [Act.put, List.getElem_toArray, List.getElem_cons_succ, List.getElem_cons_zero, List.setIfInBounds_toArray, List.set_cons_zero, List.set_cons_succ])
                      refine wpAnyH_take (i := 5) (v := ?vf5) rfl (by kernel_rfl) (by kernel_rfl) (by kernel_rfl) (fun _ _ _ h => h) (Or.inl ⟨by kernel_rfl, ?yf5⟩) (by assumption) ?rf5
                      case yf5 => (intro wq hSw; (try dsimp only at hSw); go_simp; (try with_reducible rfl))
                      (try simp only [Act.put, List.getElem_toArray, List.getElem_cons_succ, List.getElem_cons_zero, List.setIfInBounds_toArray, List.set_cons_zero, List.set_cons_succ])
                      obtain ⟨wd, hwd⟩ : ∃ wd, wd = w7.drew := ⟨_, rfl⟩
                      have HBd := Lib.hid (show Below w7.heap.size w7 wd from hwd ▸ (Below.refl _ _).drew)
                      rw [← hwd]
                      clear hwd
                      refine wpAnyH_ready (rs := [6]) (by kernel_rfl) (by simp) ?_
                      refine AllReadyH.cons rfl (fun K hK => ?_) AllReadyH.nil
                      go_simp
                      refine (HPU.out wd (HB7.out.trans (HBd.out.mono HB7.out.size))).mono ?_
                      rintro e w8 ⟨hb, s8, rfl, hk8⟩
                      obtain ⟨p8, c8, rfl, -⟩ := hk8.slice
                      obtain ⟨n8, hn8⟩ : ∃ a, a = Y.ks.length := ⟨_, rfl⟩
                      rw [← hn8] at hk8 ⊢
                      have HB9 := Lib.hid (HBd.out.trans (hb.mono HBd.out.size))
                      have HK8 := Lib.hid hk8
                      have HY8 := Lib.hid (HY7.out.next HB9.out)
                      have HBA := Lib.hid (HB8.out.trans (HB9.out.mono HB8.out.size))
                      have HWS : Hid (w.heap.size + 1 + 1 ≤ wd.heap.size) := Nat.le_trans HY7.out.lt HBd.out.size
                      obtain ⟨⟨r0, r1, r2, r3, r4⟩, ⟨f0, f1, f2, f3, f4⟩⟩ := c5 HY8.out
                      (try dsimp only)
                      refine hK.out _ _ (by exact HSC.out _ HB9.out) (fun hHeld => ?_)
                      clear hK K hb hk8 hn8
                      (try simp only [Act.put, List.getElem_toArray, List.getElem_cons_succ, List.getElem_cons_zero, List.setIfInBounds_toArray, List.set_cons_zero, List.set_cons_succ])
                      refine wpAnyH_ready (rs := [7]) (by kernel_rfl) (by simp) ?_
                      refine AllReadyH.cons rfl (fun K hK => ?_) AllReadyH.nil
                      go_simp
                      obtain ⟨hb5, hq5, hfq⟩ := st5_next HBA.out (g := w.heap.size + 1) (by omega) HY8.out (.int .i64 Y.a.k) (.int .i64 Y.a.w) (.int .i64 Y.a.c) (.int .i64 Y.a.s) (.slice p8 n8 c8)
                      have hk5 := KV.st5 (g := w.heap.size + 1) (Z' := fun b => Z b ∨ w.heap.size ≤ b) HK8.out (fun b hb => by rcases hb with hb | hb; (have := HZ.out b hb; omega); (have := HWS.out; omega)) (fun b hb => by rcases hb with hb | hb; exact .inl hb; (right; have := HWS.out; omega)) (.int .i64 Y.a.k) (.int .i64 Y.a.w) (.int .i64 Y.a.c) (.int .i64 Y.a.s) (.slice p8 n8 c8)
                      have hx5 := hfq w.heap.size _ _ (by omega) (HX7.out.next HB9.out)
                      have hg5 := hfq g4 _ _ (by have := hg4; have := HQ3.out.lt; have := HY3.out.lt; omega) (HQ7.out.next HB9.out)
                      have hS5 : (st5 w8 (w.heap.size + 1) (.int .i64 Y.a.k) (.int .i64 Y.a.w) (.int .i64 Y.a.c) (.int .i64 Y.a.s) (.slice p8 n8 c8)).cell? ⟨w.heap.size, 0, none⟩ = some (.int .i64 x.a.k) ∧ (st5 w8 (w.heap.size + 1) (.int .i64 Y.a.k) (.int .i64 Y.a.w) (.int .i64 Y.a.c) (.int .i64 Y.a.s) (.slice p8 n8 c8)).cell? ⟨w.heap.size, 1, none⟩ = some (.int .i64 x.a.w) ∧ (st5 w8 (w.heap.size + 1) (.int .i64 Y.a.k) (.int .i64 Y.a.w) (.int .i64 Y.a.c) (.int .i64 Y.a.s) (.slice p8 n8 c8)).cell? ⟨w.heap.size, 2, none⟩ = some (.int .i64 x.a.c) ∧ (st5 w8 (w.heap.size + 1) (.int .i64 Y.a.k) (.int .i64 Y.a.w) (.int .i64 Y.a.c) (.int .i64 Y.a.s) (.slice p8 n8 c8)).cell? ⟨w.heap.size, 3, none⟩ = some (.int .i64 x.a.s) ∧ (st5 w8 (w.heap.size + 1) (.int .i64 Y.a.k) (.int .i64 Y.a.w) (.int .i64 Y.a.c) (.int .i64 Y.a.s) (.slice p8 n8 c8)).cell? ⟨w.heap.size, 4, none⟩ = some (.slice p m cap) ∧ (st5 w8 (w.heap.size + 1) (.int .i64 Y.a.k) (.int .i64 Y.a.w) (.int .i64 Y.a.c) (.int .i64 Y.a.s) (.slice p8 n8 c8)).cell? ⟨g4, 0, none⟩ = some (.int .i64 qa.k) ∧ (st5 w8 (w.heap.size + 1) (.int .i64 Y.a.k) (.int .i64 Y.a.w) (.int .i64 Y.a.c) (.int .i64 Y.a.s) (.slice p8 n8 c8)).cell? ⟨g4, 1, none⟩ = some (.int .i64 gz) ∧ (st5 w8 (w.heap.size + 1) (.int .i64 Y.a.k) (.int .i64 Y.a.w) (.int .i64 Y.a.c) (.int .i64 Y.a.s) (.slice p8 n8 c8)).cell? ⟨g4, 2, none⟩ = some (.int .i64 qa.c) ∧ (st5 w8 (w.heap.size + 1) (.int .i64 Y.a.k) (.int .i64 Y.a.w) (.int .i64 Y.a.c) (.int .i64 Y.a.s) (.slice p8 n8 c8)).cell? ⟨g4, 3, none⟩ = some (.int .i64 qa.s) ∧ (st5 w8 (w.heap.size + 1) (.int .i64 Y.a.k) (.int .i64 Y.a.w) (.int .i64 Y.a.c) (.int .i64 Y.a.s) (.slice p8 n8 c8)).cell? ⟨g4, 4, none⟩ = some (.slice pq nq cq) := by
                        obtain ⟨⟨q0, q1, q2, q3, q4⟩, -⟩ := c5 hx5
                        obtain ⟨⟨z0, z1, z2, z3, z4⟩, -⟩ := c5 hg5
                        exact ⟨q0, q1, q2, q3, q4, z0, z1, z2, z3, z4⟩
                      refine hK.out _ _ (by exact hS5) (fun hHeld => ?_)
                      clear hK K
                      (try simp only [Act.put, List.getElem_toArray, List.getElem_cons_succ, List.getElem_cons_zero, List.setIfInBounds_toArray, List.set_cons_zero, List.set_cons_succ])
                      refine wpAnyH_ready (rs := [8]) (by kernel_rfl) (by simp) ?_
                      refine AllReadyH.cons rfl (fun K hK => ?_) AllReadyH.nil
                      go_simp
                      refine hK.out _ _ (by exact hS5) (fun hHeld => ?_)
                      clear hK K
                      (try simp only [Act.put, List.getElem_toArray, List.getElem_cons_succ, List.getElem_cons_zero, List.setIfInBounds_toArray, List.set_cons_zero, List.set_cons_succ])
                      refine wpAnyH_done (by kernel_rfl) ?_ _
                      refine NoPanic.normal ?_
                      clear r0 r1 r2 r3 r4 f0 f1 f2 f3 f4 hHeld hS5 hx5 hg5 hfq
                      go_wp2_with fail
                      obtain ⟨w5, hw5⟩ : ∃ w5, w5 = st5 w8 (w.heap.size + 1) (.int .i64 Y.a.k) (.int .i64 Y.a.w) (.int .i64 Y.a.c) (.int .i64 Y.a.s) (.slice p8 n8 c8) := ⟨_, rfl⟩
                      rw [← hw5] at hb5 hq5 hk5
                      unfold st5 at hw5
                      rw [← hw5]
                      obtain ⟨⟨b0, b1, b2, b3, b4⟩, -⟩ := c5 hq5
                      exact bodyPost_ret (v := .tuple #[.agg #[.int .i64 Y.a.k, .int .i64 Y.a.w, .int .i64 Y.a.c, .int .i64 Y.a.s, .slice p8 n8 c8], .int .i64 0]) (by simp [results, Try.results44, go_sem, b0, b1, b2, b3, b4]) rfl ((HR.out _ _).2 ⟨hb5, Y, .slice p8 n8 c8, (by rw [HA.out, HST.out]), hk5, (by rw [HA.out, HST.out]; rfl)⟩)
    · rw [show growI x c k y = (zeroT, q9) by unfold growI; rw [if_neg hg]; exact chgI_asked hq9 h0] at hRe
      have HR := Lib.hid hRe
      have hne : (q9 == 0) = false := by simpa using h0
      have HN0 := Lib.hid h0
      clear hg
      clear hR hRe hK hZ hd hf hwB hb0 hq1 hq2 hm hat hq9
      show Calls Try.prog 44 #[.agg #[.int .i64 x.a.k, .int .i64 x.a.w, .int .i64 x.a.c, .int .i64 x.a.s, .slice p m cap], .int .i64 c, .int .i64 k, .float .f64 y] w R
      go_enter Try.func44, Try.ntmps44
      go_upto_region 1 with fail
      rw [← HWB.out]
      go_cut [22] (fun s wx => s = .bool false ∧ wB = wx)
      case first =>
        rcases hkk with hb1 | ⟨hb1, hb2⟩
        all_goals
          go_wp2_with fail
          go_meet
          exact ⟨rfl, rfl⟩
      case rest =>
        obtain ⟨rfl, rfl⟩ := hcut
        obtain ⟨⟨z0, z1, z2, z3, z4⟩, -⟩ := c5 HQ1.out
        go_wp2_with fail
        refine (HA.out wB HB.out).mono ?_
        rintro e w1 ⟨rfl, hb⟩
        clear z0 z1 z2 z3 z4
        have HB1 := Lib.hid (HB.out.trans (hb.mono HB.out.size))
        have HQ3 := Lib.hid (HQ2.out.next hb)
        obtain ⟨⟨q0, q1, q2, q3, q4⟩, -⟩ := c5 (HQ1.out.next hb)
        clear hb
        go_wp2_with fail
        refine (HA.out w1 HB1.out).mono ?_
        rintro e w2 ⟨rfl, hb⟩
        have HB2 := Lib.hid (HB1.out.trans (hb.mono HB1.out.size))
        have HQ4 := Lib.hid (HQ3.out.next hb)
        obtain ⟨⟨r0, r1, r2, r3, r4⟩, ⟨f0, f1, f2, f3, f4⟩⟩ := c5 HQ4.out
        clear hb q0 q1 q2 q3 q4
        go_wp2_with fail
        obtain ⟨hb5, hq5, -⟩ := st5_next HB2.out (by omega) HQ4.out (.int .i64 0) (.int .i64 0) (.int .i64 0) (.int .i64 0) (.slice none 0 0)
        have hk5 := KV.st5 (g := w.heap.size + 1) (Z' := fun b => Z b ∨ w.heap.size ≤ b) (KV.nil w2 Z none 0) (fun b hb => by have := HZ.out b hb; omega) (fun b hb => .inl hb) (.int .i64 0) (.int .i64 0) (.int .i64 0) (.int .i64 0) (.slice none 0 0)
        obtain ⟨w5, hw5⟩ : ∃ w5, w5 = st5 w2 (w.heap.size + 1) (.int .i64 0) (.int .i64 0) (.int .i64 0) (.int .i64 0) (.slice none 0 0) := ⟨_, rfl⟩
        rw [← hw5] at hb5 hq5 hk5
        unfold st5 at hw5
        rw [← hw5]
        obtain ⟨⟨b0, b1, b2, b3, b4⟩, -⟩ := c5 hq5
        exact bodyPost_ret (v := .tuple #[.agg #[.int .i64 0, .int .i64 0, .int .i64 0, .int .i64 0, .slice none 0 0], .int .i64 q9]) (by simp [results, Try.results44, go_sem, b0, b1, b2, b3, b4]) rfl ((HR.out _ _).2 ⟨hb5, zeroT, .slice none 0 0, rfl, hk5, (by rw [if_neg HN0.out])⟩)
end Go.Proofs.Ytejbgnammlhcmaa.Co
end
section
namespace Go.Proofs.Ytejbgnammlhcmaa.Co
open Go.RowKit Go.Shelf
theorem KV.pair {w : World} {g : Nat} {x y : Con} {s t : Value} (hb : Blk w g 24 #[.int .i64 x.a.k, .int .i64 x.a.w, .int .i64 x.a.c, .int .i64 x.a.s, s, .int .i64 y.a.k, .int .i64 y.a.w, .int .i64 y.a.c, .int .i64 y.a.s, t]) {Z : Nat → Prop} (hz : Z g) (hx : KV w Z x.ks s) (hwx : x.a.wide) (hy : KV w Z y.ks t) (hwy : y.a.wide) : KV w Z [x, y] (.slice (some ⟨g, 0, none⟩) 2 2) := by
  refine .mk [x, y] _ 2 (fun j => if j = 0 then s else t) (by simp) (by simp) (fun j z hz' => ?_) (fun j z hz' => ?_)
  · have hj := (List.getElem?_eq_some_iff.1 hz').1
    simp at hj
    obtain rfl | rfl : j = 0 ∨ j = 1 := by omega
    · obtain rfl := Option.some.inj hz'
      refine ⟨g, 0, rfl, hz, hb.lt, hwx, fun i u hu => ?_⟩
      have hi := (List.getElem?_eq_some_iff.1 hu).1
      simp [encC] at hi
      have := hb.at_ (i := i) (v := u) (by
        obtain rfl | rfl | rfl | rfl | rfl : i = 0 ∨ i = 1 ∨ i = 2 ∨ i = 3 ∨ i = 4 := by omega
        all_goals exact hu)
      simpa using this
    · obtain rfl := Option.some.inj hz'
      refine ⟨g, 0, rfl, hz, hb.lt, hwy, fun i u hu => ?_⟩
      have hi := (List.getElem?_eq_some_iff.1 hu).1
      simp [encC] at hi
      have := hb.at_ (i := 5 + i) (v := u) (by
        obtain rfl | rfl | rfl | rfl | rfl : i = 0 ∨ i = 1 ∨ i = 2 ∨ i = 3 ∨ i = 4 := by omega
        all_goals exact hu)
      simpa using this
  · have hj := (List.getElem?_eq_some_iff.1 hz').1
    simp at hj
    obtain rfl | rfl : j = 0 ∨ j = 1 := by omega
    · obtain rfl := Option.some.inj hz'
      exact hx
    · obtain rfl := Option.some.inj hz'
      exact hy
theorem i64c (n : Int) (h : -100000 ≤ n ∧ n ≤ 100000) : I64 n := by unfold I64; omega
theorem spl_wide (k : Int) (h : -100000 ≤ k ∧ k ≤ 100000) : (⟨k, 65536, 0, 0⟩ : D).wide := ⟨i64c k h, i64c 65536 (by decide), i64c 0 (by decide), i64c 0 (by decide)⟩
def T1 : Con := .mk ⟨1, 65536, 0, 0⟩ [leafT 1, leafT 2]
def T2 : Con := .mk ⟨1, 65536, 0, 0⟩ [leafT 1, .mk ⟨2, 65536, 0, 0⟩ [leafT 2]]
def T3 : Con := .mk ⟨1, 65536, 0, 0⟩ [leafT 1, .mk ⟨2, 65536, 0, 0⟩ [leafT 2, leafT 3]]
theorem leafT_fine {c : Int} (h : I64 c) : fine (leafT c) := fine_mk ⟨i64c 0 (by decide), i64c 65536 (by decide), h, i64c 0 (by decide)⟩ (by simp) (by simp)
theorem T1_fine : fine T1 := fine_mk (spl_wide _ (by decide)) (by simp) (by
  intro x hx
  simp only [List.mem_cons, List.not_mem_nil, or_false] at hx
  rcases hx with rfl | rfl
  all_goals exact leafT_fine (i64c _ (by decide)))
theorem T2_fine : fine T2 := fine_mk (spl_wide _ (by decide)) (by simp) (by
  intro x hx
  simp only [List.mem_cons, List.not_mem_nil, or_false] at hx
  rcases hx with rfl | rfl
  · exact leafT_fine (i64c _ (by decide))
  · exact fine_mk (spl_wide _ (by decide)) (by simp) (by
      intro x hx
      simp only [List.mem_cons, List.not_mem_nil, or_false] at hx
      subst hx
      exact leafT_fine (i64c _ (by decide))))
theorem T3_fine : fine T3 := fine_mk (spl_wide _ (by decide)) (by simp) (by
  intro x hx
  simp only [List.mem_cons, List.not_mem_nil, or_false] at hx
  rcases hx with rfl | rfl
  · exact leafT_fine (i64c _ (by decide))
  · exact fine_mk (spl_wide _ (by decide)) (by simp) (by
      intro x hx
      simp only [List.mem_cons, List.not_mem_nil, or_false] at hx
      rcases hx with rfl | rfl
      all_goals exact leafT_fine (i64c _ (by decide))))
theorem aw_wrap : wrapI T1 2 2 = (T2, 0) := by kernel_rfl
theorem aw_insert : insertI T2 2 3 0 = (T3, 0) := by kernel_rfl
theorem aw_remove : removeI T3 3 = (T1, 0) := by kernel_rfl
theorem aw_told {N : Nat} {r : Con × Int} {t : Con} {e : Ending} {w : World} (h : TellR N r e w) (hr : r = (t, 0)) (hf : fine t) : ∃ s, e = .returned (.tuple #[conV t.a s, .int .i64 0]) ∧ KV w (fun b => N ≤ b) t.ks s := by
  subst hr
  obtain ⟨y, s, h1, h2, h3⟩ := h.reads fun _ => hf
  rw [if_pos rfl] at h3
  subst h3
  exact ⟨s, h1, h2⟩
theorem aw_new (w : World) : Calls Try.prog 23 #[.int .i64 1] w fun e w' => e = .returned (.agg #[.int .i64 1, .int .i64 65536, .int .i64 0, .int .i64 0, .slice none 0 0]) ∧ Below w.heap.size w w' := new_c 1 w
theorem aw_leaf (c : Int) (w : World) : Calls Try.prog 55 #[.int .i64 c] w fun e w' => e = .returned (.agg #[.int .i64 0, .int .i64 65536, .int .i64 c, .int .i64 0, .slice none 0 0]) ∧ Below w.heap.size w w' := leaf_c c w
theorem aw_call {N : Nat} {r : Con × Int} {t : Con} {e : Ending} {w : World} (ha : t.a = ⟨1, 65536, 0, 0⟩) (hl : t.ks.length = 2) (h : TellR N r e w) (hr : r = (t, 0)) (hf : fine t) : ∃ p c, e = .returned (.tuple #[.agg #[.int .i64 1, .int .i64 65536, .int .i64 0, .int .i64 0, .slice p 2 c], .int .i64 0]) ∧ KV w (fun b => N ≤ b) t.ks (.slice p 2 c) := by
  obtain ⟨s, h1, h2⟩ := aw_told h hr hf
  obtain ⟨p, c, rfl, -⟩ := h2.slice
  rw [hl] at h1 h2
  rw [ha] at h1
  exact ⟨p, c, h1, h2⟩
theorem wrap_aw (s : Value) (w : World) (hK : KV w (fun b => b < w.heap.size) T1.ks s) : Calls Try.prog 37 #[.agg #[.int .i64 1, .int .i64 65536, .int .i64 0, .int .i64 0, s], .int .i64 2, .int .i64 2] w fun e w' => (∃ p c, e = .returned (.tuple #[.agg #[.int .i64 1, .int .i64 65536, .int .i64 0, .int .i64 0, .slice p 2 c], .int .i64 0]) ∧ KV w' (fun b => w.heap.size ≤ b) T2.ks (.slice p 2 c)) ∧ Below w.heap.size w w' :=
  (wrap_c T1 s 2 2 w hK (T1_fine [] T1 rfl).1 (by decide) (by decide)).mono fun e w' ⟨h1, h2⟩ => ⟨aw_call rfl rfl h1 aw_wrap T2_fine, h2⟩
theorem ins_aw (s : Value) (w : World) (hK : KV w (fun b => b < w.heap.size) T2.ks s) : Calls Try.prog 31 #[.agg #[.int .i64 1, .int .i64 65536, .int .i64 0, .int .i64 0, s], .int .i64 2, .int .i64 3, .int .i64 0] w fun e w' => (∃ p c, e = .returned (.tuple #[.agg #[.int .i64 1, .int .i64 65536, .int .i64 0, .int .i64 0, .slice p 2 c], .int .i64 0]) ∧ KV w' (fun b => w.heap.size ≤ b) T3.ks (.slice p 2 c)) ∧ Below w.heap.size w w' :=
  (Insert_c T2 s 2 3 0 w hK (T2_fine [] T2 rfl).1 (by decide) (by decide) (by decide +kernel)).mono fun e w' ⟨h1, h2⟩ => ⟨aw_call rfl rfl h1 aw_insert T3_fine, h2⟩
theorem rem_aw (s : Value) (w : World) (hK : KV w (fun b => b < w.heap.size) T3.ks s) : Calls Try.prog 33 #[.agg #[.int .i64 1, .int .i64 65536, .int .i64 0, .int .i64 0, s], .int .i64 3] w fun e w' => (∃ p c, e = .returned (.tuple #[.agg #[.int .i64 1, .int .i64 65536, .int .i64 0, .int .i64 0, .slice p 2 c], .int .i64 0]) ∧ KV w' (fun b => w.heap.size ≤ b) T1.ks (.slice p 2 c)) ∧ Below w.heap.size w w' :=
  (remove_c T3 s 3 w hK (T3_fine [] T3 rfl).1 (by decide) (by decide)).mono fun e w' ⟨h1, h2⟩ => ⟨aw_call rfl rfl h1 aw_remove T1_fine, h2⟩
theorem same_aw (t : Con) (ha : t.a = ⟨1, 65536, 0, 0⟩) (s u : Value) (w : World) {Z Z' : Nat → Prop} (h1 : KV w Z t.ks s) (h2 : KV w Z' t.ks u) : Calls Try.prog 21 #[.agg #[.int .i64 1, .int .i64 65536, .int .i64 0, .int .i64 0, s], .agg #[.int .i64 1, .int .i64 65536, .int .i64 0, .int .i64 0, u]] w fun e w' => e = .returned (.bool true) ∧ Below w.heap.size w w' := by
  have := same_c Z Z' t t s u w h1 h2
  rw [sameB_refl, ha] at this
  exact this
set_option maxHeartbeats 4000000 in
theorem awake_c (w : World) : Calls Try.prog 18 #[] w fun e w' => e = .returned (.bool true) ∧ Below w.heap.size w w' := by
  go_enter Try.func18, Try.ntmps18
  go_wp2_with fail
  refine (aw_new w).mono ?_
  rintro e w1 ⟨rfl, hb1⟩
  have q1 := Blk.new w1 24 #[.int .i64 1, .int .i64 65536, .int .i64 0, .int .i64 0, .slice none 0 0]
  go_wp2_with fail
  refine (aw_leaf 1 _).mono ?_
  rintro e w2 ⟨rfl, hb2⟩
  have q2 := q1.next hb2
  go_wp2_with fail
  refine (aw_leaf 2 _).mono ?_
  rintro e w3 ⟨rfl, hb3⟩
  have q3 := q2.next hb3
  obtain ⟨⟨b0, b1, b2, b3, b4⟩, ⟨f0, f1, f2, f3, f4⟩⟩ := c5 q3
  have hs3 : w1.heap.size < w3.heap.size := q3.lt
  have hs4 : w1.heap.size ≠ w3.heap.size := Nat.ne_of_lt hs3
  have hb13 : Below w.heap.size w w3 := by
    have h2 := ((hb1.alloc hb1.size (.cells #[.int .i64 1, .int .i64 65536, .int .i64 0, .int .i64 0, .slice none 0 0] 24)).trans (hb2.mono (by simp; exact Nat.le_succ_of_le hb1.size)))
    exact h2.trans (hb3.mono h2.size)
  have HB13 := Lib.hid hb13
  have HQ3 := Lib.hid q3
  have HS1 := Lib.hid hb1.size
  clear hb1 hb2 hb3 q1 q2 q3 hb13
  go_wp2_with fail
  obtain ⟨wA, hwA⟩ : ∃ wA, wA = (w3.setCell ⟨w1.heap.size, 4, none⟩ (.slice (some ⟨w3.heap.size, 0, none⟩) 2 2)).alloc (.cells #[.int .i64 0, .int .i64 65536, .int .i64 1, .int .i64 0, .slice none 0 0, .int .i64 0, .int .i64 65536, .int .i64 2, .int .i64 0, .slice none 0 0] 24) := ⟨_, rfl⟩
  rewrite [← hwA]
  have hbA : Below w.heap.size w wA := by rw [hwA]; exact (HB13.out.setCell HS1.out _).alloc (by simp; exact HB13.out.size) _
  have qA : Blk wA w1.heap.size 24 #[.int .i64 1, .int .i64 65536, .int .i64 0, .int .i64 0, .slice (some ⟨w3.heap.size, 0, none⟩) 2 2] := by rw [hwA]; exact (HQ3.out.set_ 4 _).alloc _
  have qB : Blk wA w3.heap.size 24 #[.int .i64 0, .int .i64 65536, .int .i64 1, .int .i64 0, .slice none 0 0, .int .i64 0, .int .i64 65536, .int .i64 2, .int .i64 0, .slice none 0 0] := by
    rw [hwA]; have := Blk.new (w3.setCell ⟨w1.heap.size, 4, none⟩ (.slice (some ⟨w3.heap.size, 0, none⟩) 2 2)) 24 #[.int .i64 0, .int .i64 65536, .int .i64 1, .int .i64 0, .slice none 0 0, .int .i64 0, .int .i64 65536, .int .i64 2, .int .i64 0, .slice none 0 0]; rwa [World.size_setCell] at this
  have hkA : KV wA (fun b => b < wA.heap.size) T1.ks (.slice (some ⟨w3.heap.size, 0, none⟩) 2 2) := KV.pair (x := leafT 1) (y := leafT 2) qB qB.lt (KV.nil _ _ _ _) (leafT_fine (i64c _ (by decide)) [] _ rfl).1 (KV.nil _ _ _ _) (leafT_fine (i64c _ (by decide)) [] _ rfl).1
  clear hwA HQ3 HB13 HS1 b0 b1 b2 b3 b4 f0 f1 f2 f3 f4 qB
  refine (wrap_aw _ wA hkA).mono ?_
  rintro e w4 ⟨⟨p4, k4, rfl, hk4⟩, hb4⟩
  have q4 := Blk.new w4 24 #[.int .i64 1, .int .i64 65536, .int .i64 0, .int .i64 0, .slice p4 2 k4]
  go_wp2_with fail
  have hb4' : Below w.heap.size w (w4.alloc (.cells #[.int .i64 1, .int .i64 65536, .int .i64 0, .int .i64 0, .slice p4 2 k4] 24)) := (hbA.trans (hb4.mono hbA.size)).alloc (Nat.le_trans hbA.size hb4.size) _
  have qA4 := (qA.next hb4).alloc (.cells #[.int .i64 1, .int .i64 65536, .int .i64 0, .int .i64 0, .slice p4 2 k4] 24)
  refine (ins_aw _ _ (hk4.alloc _).all).mono ?_
  rintro e w5 ⟨⟨p5, k5, rfl, hk5⟩, hb5⟩
  have hkA4 := (hkA.next hb4).alloc (.cells #[.int .i64 1, .int .i64 65536, .int .i64 0, .int .i64 0, .slice p4 2 k4] 24)
  have hkA5 := hkA4.next hb5
  have qA5 := qA4.next hb5
  have hb5' := hb4'.trans (hb5.mono hb4'.size)
  have q5 := Blk.new w5 24 #[.int .i64 1, .int .i64 65536, .int .i64 0, .int .i64 0, .slice p5 2 k5]
  clear hb4 hb5 hb4' qA qA4 q4 hk4 hbA hkA hkA4
  go_wp2_with fail
  have hb5a : Below w.heap.size w (w5.alloc (.cells #[.int .i64 1, .int .i64 65536, .int .i64 0, .int .i64 0, .slice p5 2 k5] 24)) := hb5'.alloc hb5'.size _
  have qA5' := qA5.alloc (.cells #[.int .i64 1, .int .i64 65536, .int .i64 0, .int .i64 0, .slice p5 2 k5] 24)
  have hkA5' := hkA5.alloc (.cells #[.int .i64 1, .int .i64 65536, .int .i64 0, .int .i64 0, .slice p5 2 k5] 24)
  have hk5' := hk5.alloc (.cells #[.int .i64 1, .int .i64 65536, .int .i64 0, .int .i64 0, .slice p5 2 k5] 24)
  refine (rem_aw _ _ (hk5.alloc _).all).mono ?_
  rintro e w6 ⟨⟨p6, k6, rfl, hk6⟩, hb6⟩
  have hb6' := hb5a.trans (hb6.mono hb5a.size)
  have qA6 := qA5'.next hb6
  have q56 := q5.next hb6
  have hkA6 := hkA5'.next hb6
  have hk56 := hk5'.next hb6
  have q6 := Blk.new w6 24 #[.int .i64 1, .int .i64 65536, .int .i64 0, .int .i64 0, .slice p6 2 k6]
  clear hb5' hb5a qA5 qA5' q5 hk5 hk5' hkA5 hkA5' hb6
  go_wp2_with fail
  have hb6a : Below w.heap.size w (w6.alloc (.cells #[.int .i64 1, .int .i64 65536, .int .i64 0, .int .i64 0, .slice p6 2 k6] 24)) := hb6'.alloc hb6'.size _
  have qA6' := qA6.alloc (.cells #[.int .i64 1, .int .i64 65536, .int .i64 0, .int .i64 0, .slice p6 2 k6] 24)
  have q56' := q56.alloc (.cells #[.int .i64 1, .int .i64 65536, .int .i64 0, .int .i64 0, .slice p6 2 k6] 24)
  have hkA6' := hkA6.alloc (.cells #[.int .i64 1, .int .i64 65536, .int .i64 0, .int .i64 0, .slice p6 2 k6] 24)
  have hk56' := hk56.alloc (.cells #[.int .i64 1, .int .i64 65536, .int .i64 0, .int .i64 0, .slice p6 2 k6] 24)
  have hk6' := hk6.alloc (.cells #[.int .i64 1, .int .i64 65536, .int .i64 0, .int .i64 0, .slice p6 2 k6] 24)
  clear qA6 q56 hkA6 hk56 hk6 hb6'
  refine (aw_leaf 1 _).mono ?_
  rintro e w7 ⟨rfl, hb7⟩
  go_wp2_with fail
  refine (aw_leaf 2 _).mono ?_
  rintro e w8 ⟨rfl, hb8⟩
  have hb68 := hb7.trans (hb8.mono hb7.size)
  clear hb7 hb8
  go_wp2_with fail
  refine (aw_leaf 3 _).mono ?_
  rintro e w9 ⟨rfl, hb9⟩
  have hb69 := hb68.trans (hb9.mono hb68.size)
  have hb9' := hb6a.trans (hb69.mono hb6a.size)
  have qA9 := qA6'.next hb69
  have q59 := q56'.next hb69
  have q69 := q6.next hb69
  have hkA9 := hkA6'.next hb69
  have hk59 := hk56'.next hb69
  have hk69 := hk6'.next hb69
  clear hb9 hb68 hb69 hb6a qA6' q56' q6 hkA6' hk56' hk6'
  obtain ⟨⟨a0, a1, a2, a3, a4⟩, -⟩ := c5 qA9
  obtain ⟨⟨b0, b1, b2, b3, b4⟩, -⟩ := c5 q59
  obtain ⟨⟨c0, c1, c2, c3, c4⟩, -⟩ := c5 q69
  have hw10 : w1.heap.size < w9.heap.size  := by have := qA9.lt; omega
  have hw10' : w1.heap.size ≠ w9.heap.size  := by have := qA9.lt; omega
  have hw11 : w1.heap.size < w9.heap.size + 1 := by have := qA9.lt; omega
  have hw11' : w1.heap.size ≠ w9.heap.size + 1 := by have := qA9.lt; omega
  have hw12 : w1.heap.size < w9.heap.size + 1 + 1 := by have := qA9.lt; omega
  have hw12' : w1.heap.size ≠ w9.heap.size + 1 + 1 := by have := qA9.lt; omega
  have hw50 : w5.heap.size < w9.heap.size  := by have := q59.lt; omega
  have hw50' : w5.heap.size ≠ w9.heap.size  := by have := q59.lt; omega
  have hw51 : w5.heap.size < w9.heap.size + 1 := by have := q59.lt; omega
  have hw51' : w5.heap.size ≠ w9.heap.size + 1 := by have := q59.lt; omega
  have hw52 : w5.heap.size < w9.heap.size + 1 + 1 := by have := q59.lt; omega
  have hw52' : w5.heap.size ≠ w9.heap.size + 1 + 1 := by have := q59.lt; omega
  have hw60 : w6.heap.size < w9.heap.size  := by have := q69.lt; omega
  have hw60' : w6.heap.size ≠ w9.heap.size  := by have := q69.lt; omega
  have hw61 : w6.heap.size < w9.heap.size + 1 := by have := q69.lt; omega
  have hw61' : w6.heap.size ≠ w9.heap.size + 1 := by have := q69.lt; omega
  have hw62 : w6.heap.size < w9.heap.size + 1 + 1 := by have := q69.lt; omega
  have hw62' : w6.heap.size ≠ w9.heap.size + 1 + 1 := by have := q69.lt; omega
  have HQA := Lib.hid qA9
  have HQ6 := Lib.hid q69
  have HB9 := Lib.hid hb9'
  clear qA9 q59 q69 hs3 hs4 hb9'
  have HK5 := Lib.hid hk59
  have HK6 := Lib.hid hk69
  have HKA := Lib.hid hkA9
  clear hk59 hk69 hkA9
  go_wp2_with fail
  obtain ⟨wZ, hwZ⟩ : ∃ W : World, W = ((w9.alloc (.cells #[.int .i64 0, .int .i64 65536, .int .i64 2, .int .i64 0, .slice none 0 0, .int .i64 0, .int .i64 65536, .int .i64 3, .int .i64 0, .slice none 0 0] 24)).alloc (.cells #[.int .i64 0, .int .i64 65536, .int .i64 1, .int .i64 0, .slice none 0 0, .int .i64 2, .int .i64 65536, .int .i64 0, .int .i64 0, .slice (some ⟨w9.heap.size, 0, none⟩) 2 2] 24)).alloc (.cells #[.int .i64 1, .int .i64 65536, .int .i64 0, .int .i64 0, .slice (some ⟨w9.heap.size + 1, 0, none⟩) 2 2] 24) := ⟨_, rfl⟩
  rewrite [← hwZ]
  have hz : Below w9.heap.size w9 wZ := by rw [hwZ]; exact (((Below.refl _ _).alloc (Nat.le_refl _) _).alloc (by simp) _).alloc (by simp; omega) _
  have z1 : Blk wZ w9.heap.size 24 #[.int .i64 0, .int .i64 65536, .int .i64 2, .int .i64 0, .slice none 0 0, .int .i64 0, .int .i64 65536, .int .i64 3, .int .i64 0, .slice none 0 0] := by rw [hwZ]; exact ((Blk.new w9 24 _).alloc _).alloc _
  have z2 : Blk wZ (w9.heap.size + 1) 24 #[.int .i64 0, .int .i64 65536, .int .i64 1, .int .i64 0, .slice none 0 0, .int .i64 2, .int .i64 65536, .int .i64 0, .int .i64 0, .slice (some ⟨w9.heap.size, 0, none⟩) 2 2] := by
    rw [hwZ]; have := (Blk.new (w9.alloc (.cells #[.int .i64 0, .int .i64 65536, .int .i64 2, .int .i64 0, .slice none 0 0, .int .i64 0, .int .i64 65536, .int .i64 3, .int .i64 0, .slice none 0 0] 24)) 24 #[.int .i64 0, .int .i64 65536, .int .i64 1, .int .i64 0, .slice none 0 0, .int .i64 2, .int .i64 65536, .int .i64 0, .int .i64 0, .slice (some ⟨w9.heap.size, 0, none⟩) 2 2]).alloc (.cells #[.int .i64 1, .int .i64 65536, .int .i64 0, .int .i64 0, .slice (some ⟨w9.heap.size + 1, 0, none⟩) 2 2] 24); rwa [World.size_alloc] at this
  have hk1 : KV wZ (fun _ => True) [leafT 2, leafT 3] (.slice (some ⟨w9.heap.size, 0, none⟩) 2 2) := KV.pair (x := leafT 2) (y := leafT 3) z1 trivial (KV.nil _ _ _ _) (leafT_fine (i64c _ (by decide)) [] _ rfl).1 (KV.nil _ _ _ _) (leafT_fine (i64c _ (by decide)) [] _ rfl).1
  have hk2 : KV wZ (fun _ => True) T3.ks (.slice (some ⟨w9.heap.size + 1, 0, none⟩) 2 2) := KV.pair (x := leafT 1) (y := .mk ⟨2, 65536, 0, 0⟩ [leafT 2, leafT 3]) z2 trivial (KV.nil _ _ _ _) (leafT_fine (i64c _ (by decide)) [] _ rfl).1 hk1 (spl_wide _ (by decide))
  have hz' := HB9.out.trans (hz.mono HB9.out.size)
  have qAZ := HQA.out.next hz
  have q6Z := HQ6.out.next hz
  have hk6Z := HK6.out.next hz
  have hkAZ := HKA.out.next hz
  refine (same_aw T3 rfl _ _ wZ (HK5.out.next hz) hk2).mono ?_
  rintro e w10 ⟨rfl, hb10⟩
  have hbX := Lib.hid (hz'.trans (hb10.mono hz'.size))
  have hkX := Lib.hid (hkAZ.next hb10)
  have hkY := Lib.hid (hk6Z.next hb10)
  obtain ⟨⟨x0, x1, x2, x3, x4⟩, -⟩ := c5 (qAZ.next hb10)
  obtain ⟨⟨y0, y1, y2, y3, y4⟩, -⟩ := c5 (q6Z.next hb10)
  clear hb10 hkAZ hk6Z qAZ q6Z hz' hk1 hk2 z1 z2 hz hwZ HQA HQ6 HK6 HKA HK5 HB9
  go_wp2_with fail
  refine (same_aw T1 rfl _ _ w10 hkY.out hkX.out).mono ?_
  rintro e w11 ⟨rfl, hb11⟩
  have hbW := hbX.out.trans (hb11.mono hbX.out.size)
  clear hb11
  go_wp2_with fail
  go_ret
  exact ⟨rfl, hbW⟩
end Go.Proofs.Ytejbgnammlhcmaa.Co
end
section
namespace Go.Proofs.Ytejbgnammlhcmaa.Co
open Go.RowKit Go.Shelf
/-- Both tell the same container. -/
theorem told_same {r q : Con × Int} {y z : Con} (h : r = q) (hy : y = if r.2 = 0 then r.1 else zeroT) (hz : z = if q.2 = 0 then q.1 else zeroT) : sameB y z = true := by
  subst h; rw [hy, hz]; exact sameB_refl _
theorem same_t {Z Z' : Nat → Prop} {y z : Con} {s u : Value} {w : World} (h : sameB y z = true) (h1 : KV w Z y.ks s) (h2 : KV w Z' z.ks u) : Calls Try.prog 21 #[conV y.a s, conV z.a u] w fun e w' => e = .returned (.bool true) ∧ Below w.heap.size w w' := by
  have := same_c Z Z' y z s u w h1 h2
  rwa [h] at this
theorem remove_fine {x : Con} {c : Int} (hf : fine x) (h : (removeD x c).2 = 0) : fine (removeD x c).1 := by
  rw [removeD_asked] at h ⊢
  by_cases h0 : askedI x c = 0
  · rw [if_pos h0]
    obtain ⟨a, ks⟩ := x
    obtain ⟨h1, h2, h3⟩ := fine_kids hf
    exact fine_mk h1 (Nat.le_trans (lessL_len c ks) h2) (lessL_fine h3)
  · rw [if_neg h0] at h; exact absurd h h0
set_option maxHeartbeats 4000000 in
theorem removes_c (x : Con) (sv : Value) (c : Int) (w : World) (hK : KV w (fun b => b < w.heap.size) x.ks sv) (hw : x.a.wide) :
    Calls Try.prog 6 #[conV x.a sv, .int .i64 c] w fun e w' => e = .returned (.bool true) ∧ Below w.heap.size w w' := by
  obtain ⟨p, cap, rfl, -⟩ := hK.slice
  obtain ⟨n, hn⟩ : ∃ n, n = x.ks.length := ⟨_, rfl⟩
  rw [← hn] at hK ⊢
  have hb0 := (Below.refl w.heap.size w).alloc (Nat.le_refl _) (.cells #[.int .i64 x.a.k, .int .i64 x.a.w, .int .i64 x.a.c, .int .i64 x.a.s, .slice p n cap] 24)
  have hq0 := Blk.new w 24 #[.int .i64 x.a.k, .int .i64 x.a.w, .int .i64 x.a.c, .int .i64 x.a.s, .slice p n cap]
  have HF := Lib.hid (few_c (fun b => b < w.heap.size) x (.slice p n cap) _ (hK.next hb0))
  have HB := Lib.hid hb0
  have HQ := Lib.hid hq0
  have HK := Lib.hid hK
  obtain ⟨dn, hdn⟩ : ∃ d, d = decide (nodesC x 0 ≤ 500) := ⟨_, rfl⟩
  rw [← hdn] at HF
  have HD := Lib.hid hdn
  have HW := Lib.hid hw
  clear hn hK hb0 hq0 hdn hw
  show Calls Try.prog 6 #[.agg #[.int .i64 x.a.k, .int .i64 x.a.w, .int .i64 x.a.c, .int .i64 x.a.s, .slice p n cap], .int .i64 c] w _
  go_enter Try.func6, Try.ntmps6
  go_wp2_with fail
  refine HF.out.mono ?_
  rintro e w1 ⟨rfl, hb⟩
  have hb1 := HB.out.trans (hb.mono HB.out.size)
  have HB1 := Lib.hid hb1
  have q1 := HQ.out.next hb
  have HQ1 := Lib.hid q1
  obtain ⟨⟨b0, b1, b2, b3, b4⟩, -⟩ := c5 q1
  clear hb hb1 HF HB q1
  cases dn
  · go_wp2_with fail
    refine (awake_c w1).mono ?_
    rintro e w2 ⟨rfl, hb⟩
    have HB2 := HB1.out.trans (hb.mono HB1.out.size)
    clear hb
    go_wp2_with fail
    go_ret
    exact ⟨rfl, HB2⟩
  · have hs := Small.of HK.out HW.out (of_decide_eq_true HD.out.symm)
    have HR := Lib.hid (remove_c x (.slice p n cap) c w1 (HK.out.next HB1.out).all HW.out hs.ht hs.wd)
    have HS := Lib.hid hs
    clear hs HD
    go_wp2_with fail
    refine HR.out.mono ?_
    rintro e w2 ⟨ht, hb⟩
    rw [show removeI x c = removeD x c from removeD_eq x c] at ht
    obtain ⟨y, s, rfl, hky, hy⟩ := ht.reads (fun h => remove_fine HS.out.f h)
    obtain ⟨py, ky, rfl, -⟩ := hky.slice
    obtain ⟨ny, hny⟩ : ∃ n, n = y.ks.length := ⟨_, rfl⟩
    rw [← hny] at hky ⊢
    obtain ⟨r, hr⟩ : ∃ r, r = removeD x c := ⟨_, rfl⟩
    rw [← hr] at hy ⊢
    obtain ⟨er, her⟩ : ∃ e, e = r.2 := ⟨_, rfl⟩
    rw [← her]
    have hb2 := HB1.out.trans (hb.mono HB1.out.size)
    have q2 := HQ1.out.next hb
    have HB2 := Lib.hid hb2
    have HQ2 := Lib.hid q2
    have HKY := Lib.hid hky
    have HY := Lib.hid hy
    have HRR := Lib.hid hr
    have HER := Lib.hid her
    clear hb hb2 HB1 HQ1 b0 b1 b2 b3 b4 hky hny hy hr her ht HR
    obtain ⟨⟨b0, b1, b2, b3, b4⟩, -⟩ := c5 q2
    have hs1 : w.heap.size < w2.heap.size := q2.lt
    have hs2 : w.heap.size ≠ w2.heap.size := Nat.ne_of_lt hs1
    clear q2
    go_wp2_with fail
    have hbN := HB2.out.alloc HB2.out.size (.cells #[.int .i64 y.a.k, .int .i64 y.a.w, .int .i64 y.a.c, .int .i64 y.a.s, .slice py ny ky] 24)
    have HKN := Lib.hid (HKY.out.alloc (.cells #[.int .i64 y.a.k, .int .i64 y.a.w, .int .i64 y.a.c, .int .i64 y.a.s, .slice py ny ky] 24))
    have HBN := Lib.hid hbN
    have HQN := Lib.hid (Blk.new w2 24 #[.int .i64 y.a.k, .int .i64 y.a.w, .int .i64 y.a.c, .int .i64 y.a.s, .slice py ny ky])
    refine (RemoveR_c c x (fun b => b < w.heap.size) (.slice p n cap) _ (HK.out.next hbN) (fun b h => Nat.lt_of_lt_of_le h hbN.size) HS.out.al HS.out.f).mono ?_
    rintro e w3 ⟨hb, z, s, rfl, hkz, hz⟩
    obtain ⟨pz, kz, rfl, -⟩ := hkz.slice
    obtain ⟨nz, hnz⟩ : ∃ n, n = z.ks.length := ⟨_, rfl⟩
    rw [← hnz] at hkz ⊢
    rw [← HRR.out] at hz ⊢
    rw [← HER.out]
    have hb3 := HBN.out.trans (hb.mono HBN.out.size)
    have HB3 := Lib.hid hb3
    have HKY3 := Lib.hid (HKN.out.next hb)
    have HKZ := Lib.hid hkz
    have HSM := Lib.hid (told_same (y := y) (z := z) rfl HY.out hz)
    obtain ⟨⟨b0, b1, b2, b3, b4⟩, -⟩ := c5 (HQN.out.next hb)
    have hs1 : w2.heap.size < w3.heap.size := (HQN.out.next hb).lt
    have hs2 : w2.heap.size ≠ w3.heap.size := Nat.ne_of_lt hs1
    clear hb hb3 hkz hnz hz HKN HQN HBN hbN HB2 HKY HY HRR HER
    go_wp2_with fail
    have hbN := HB3.out.alloc HB3.out.size (.cells #[.int .i64 z.a.k, .int .i64 z.a.w, .int .i64 z.a.c, .int .i64 z.a.s, .slice pz nz kz] 24)
    have HBN := Lib.hid hbN
    refine (same_t HSM.out (HKY3.out.alloc _) (HKZ.out.alloc _)).mono ?_
    rintro e w4 ⟨rfl, hb⟩
    have hb4 := HBN.out.trans (hb.mono HBN.out.size)
    have HB4 := Lib.hid hb4
    clear hb hb4 hbN HBN
    go_wp2_with fail
    refine (awake_c w4).mono ?_
    rintro e w5 ⟨rfl, hb⟩
    have hb5 := HB4.out.trans (hb.mono HB4.out.size)
    clear hb HB4
    go_wp2_with fail
    go_ret
    exact ⟨rfl, hb5⟩
end Go.Proofs.Ytejbgnammlhcmaa.Co
end
section
namespace Go.Proofs.Ytejbgnammlhcmaa.Co
open Go.RowKit Go.Shelf
theorem zeroT_fine : fine zeroT := fine_mk ⟨⟨by decide, by decide⟩, ⟨by decide, by decide⟩, ⟨by decide, by decide⟩, ⟨by decide, by decide⟩⟩ (by simp) (by simp)
theorem chg_fine {x : Con} {c : Int} {F : Con → List Nat → Con × Int} (h : ∀ u, fine (F x u).1) : fine (chgI x c F).1 := by
  unfold chgI
  split
  · exact zeroT_fine
  · split
    · exact h _
    · exact zeroT_fine
theorem turnF_fine {x : Con} {k : Int} {u : List Nat} (hf : fine x) (hk : I64 k) : fine (turnF k x u).1 := by
  unfold turnF
  split
  · rename_i p hp
    obtain ⟨⟨_, f1, f2, f3⟩, f4⟩ := hf _ p hp
    have := fine_get hf hp
    obtain ⟨a, ks⟩ := p
    exact fine_put hf (fine_mk ⟨hk, f1, f2, f3⟩ f4 (fine_kids this).2.2)
  · exact hf
theorem touchF_fine {x : Con} {k : Int} {u : List Nat} (hf : fine x) (hk : I64 k) : fine (touchF k x u).1 := by
  unfold touchF
  split
  · rename_i p hp
    obtain ⟨⟨f0, f1, f2, f3⟩, f4⟩ := hf _ p hp
    have := fine_get hf hp
    obtain ⟨a, ks⟩ := p
    exact fine_put hf (fine_mk ⟨f0, f1, f2, hk⟩ f4 (fine_kids this).2.2)
  · exact hf
theorem wrapF_fine {x : Con} {k : Int} {u : List Nat} (hf : fine x) (hk : I64 k) : fine (wrapF k x u).1 := by
  unfold wrapF
  split
  · rename_i p y hp hy
    obtain ⟨⟨_, f1, f2, f3⟩, f4⟩ := hf _ p hp
    obtain ⟨⟨g0, g1, g2, g3⟩, g4⟩ := hf _ y hy
    have h1 := fine_get hf hp
    have h2 := fine_get hf hy
    have h0 : I64 0 := ⟨by decide, by decide⟩
    split
    · obtain ⟨a, ks⟩ := p
      exact fine_put hf (fine_mk ⟨hk, f1, f2, f3⟩ f4 (fine_kids h1).2.2)
    · split
      · exact hf
      · obtain ⟨a, ks⟩ := y
        refine fine_put hf (fine_mk ⟨hk, g1, h0, h0⟩ (by simp) ?_)
        intro t ht
        rw [List.mem_singleton] at ht
        subst ht
        exact fine_mk ⟨g0, (show I64 65536 from ⟨by decide, by decide⟩), g2, g3⟩ g4 (fine_kids h2).2.2
  · exact hf
theorem wrap_fine {x : Con} {c k : Int} (hf : fine x) (hk : I64 k) : fine (wrapI x c k).1 := by
  unfold wrapI; split; exact chg_fine fun u => wrapF_fine hf hk; exact zeroT_fine
theorem turn_fine {x : Con} {c k : Int} (hf : fine x) (hk : I64 k) : fine (turnI x c k).1 := by
  unfold turnI; split; exact chg_fine fun u => turnF_fine hf hk; exact zeroT_fine
theorem touch_fine {x : Con} {c k : Int} (hf : fine x) (hk : I64 k) : fine (touchI x c k).1 := by
  unfold touchI; split; exact zeroT_fine; exact chg_fine fun u => touchF_fine hf hk
/-- What a call answers: an error's number, and a container. -/
def AnsR (B : Nat) (r : Con × Int) (W : World) (e : Ending) (w' : World) : Prop :=
  ∃ (y : Con) (p : Option Addr) (n k : Nat), e = .returned (.tuple #[.agg #[.int .i64 y.a.k, .int .i64 y.a.w, .int .i64 y.a.c, .int .i64 y.a.s, .slice p n k], .int .i64 r.2]) ∧ KV w' (fun b => b < B ∨ W.heap.size ≤ b) y.ks (.slice p n k) ∧ (y = if r.2 = 0 then r.1 else zeroT) ∧ Below W.heap.size W w'
theorem TellR.ans {B : Nat} {r : Con × Int} {W w' : World} {e : Ending} (h : TellR W.heap.size r e w') (hb : Below W.heap.size W w') (hf : fine r.1) : AnsR B r W e w' := by
  obtain ⟨y, s, h1, h2, h3⟩ := h.reads (fun _ => hf)
  obtain ⟨p, k, rfl, -⟩ := h2.slice
  exact ⟨y, p, _, k, h1, h2.weak (fun b h => .inr h), h3, hb⟩
theorem DocR.ans {B : Nat} {r : Con × Int} {W w' : World} {e : Ending} (h : DocR (fun b => b < B) r W e w') : AnsR B r W e w' := by
  obtain ⟨h0, y, s, h1, h2, h3⟩ := h
  obtain ⟨p, k, rfl, -⟩ := h2.slice
  exact ⟨y, p, _, k, h1, h2, h3, h0⟩
theorem swap_fine' {x : Con} {a b : Int} (hf : fine x) : fine (swapI x a b).1 := by
  unfold swapI
  split
  · exact zeroT_fine
  · split
    · exact zeroT_fine
    · split
      · rename_i v w _ _
        show fine (swapF v w x)
        have h0 : I64 0 := ⟨by decide, by decide⟩
        unfold swapF
        split
        · rename_i p q hp hq
          obtain ⟨⟨_, f1, f2, f3⟩, _⟩ := hf v p hp
          obtain ⟨⟨_, f4, f5, f6⟩, _⟩ := hf w q hq
          exact fine_put (fine_put hf (fine_mk ⟨h0, f1, f5, f6⟩ (by simp) (by simp))) (fine_mk ⟨h0, f4, f2, f3⟩ (by simp) (by simp))
        · exact hf
      · exact zeroT_fine
section
variable {x : Con} {p : Option Addr} {n cap : Nat} {w W : World}
theorem swap_ans (a b : Int) (hK : KV w (fun b => b < w.heap.size) x.ks (.slice p n cap)) (hs : Small x) (h : Below w.heap.size w W) : Calls Try.prog 35 #[.agg #[.int .i64 x.a.k, .int .i64 x.a.w, .int .i64 x.a.c, .int .i64 x.a.s, .slice p n cap], .int .i64 a, .int .i64 b] W (AnsR w.heap.size (swapI x a b) W) :=
  (Swap_c x (.slice p n cap) a b W (hK.next h).all hs.wide hs.ht hs.wd).mono fun _ _ h2 => h2.1.ans h2.2 (swap_fine' hs.f)
theorem swap_ansR (a b : Int) (hK : KV w (fun b => b < w.heap.size) x.ks (.slice p n cap)) (hs : Small x) (h : Below w.heap.size w W) : Calls Try.prog 36 #[.agg #[.int .i64 x.a.k, .int .i64 x.a.w, .int .i64 x.a.c, .int .i64 x.a.s, .slice p n cap], .int .i64 a, .int .i64 b] W (AnsR w.heap.size (swapI x a b) W) :=
  (SwapR_c a b x (fun b => b < w.heap.size) (.slice p n cap) W (hK.next h) (fun _ hb => Nat.lt_of_lt_of_le hb h.size) hs.al hs.f).mono fun _ _ h2 => h2.ans
theorem wrap_ans (a b : Int) (hb : I64 b) (hK : KV w (fun b => b < w.heap.size) x.ks (.slice p n cap)) (hs : Small x) (h : Below w.heap.size w W) : Calls Try.prog 37 #[.agg #[.int .i64 x.a.k, .int .i64 x.a.w, .int .i64 x.a.c, .int .i64 x.a.s, .slice p n cap], .int .i64 a, .int .i64 b] W (AnsR w.heap.size (wrapI x a b) W) :=
  (wrap_c x (.slice p n cap) a b W (hK.next h).all hs.wide hs.ht hs.wd).mono fun _ _ h2 => h2.1.ans h2.2 (wrap_fine hs.f hb)
theorem wrap_ansR (a b : Int) (_hb : I64 b) (hK : KV w (fun b => b < w.heap.size) x.ks (.slice p n cap)) (hs : Small x) (h : Below w.heap.size w W) : Calls Try.prog 38 #[.agg #[.int .i64 x.a.k, .int .i64 x.a.w, .int .i64 x.a.c, .int .i64 x.a.s, .slice p n cap], .int .i64 a, .int .i64 b] W (AnsR w.heap.size (wrapI x a b) W) :=
  (WrapR_c a b x (fun b => b < w.heap.size) (.slice p n cap) W (hK.next h) (fun _ hb => Nat.lt_of_lt_of_le hb h.size) hs.al hs.f).mono fun _ _ h2 => h2.ans
theorem turn_ans (a b : Int) (hb : I64 b) (hK : KV w (fun b => b < w.heap.size) x.ks (.slice p n cap)) (hs : Small x) (h : Below w.heap.size w W) : Calls Try.prog 39 #[.agg #[.int .i64 x.a.k, .int .i64 x.a.w, .int .i64 x.a.c, .int .i64 x.a.s, .slice p n cap], .int .i64 a, .int .i64 b] W (AnsR w.heap.size (turnI x a b) W) :=
  (turn_c x (.slice p n cap) a b W (hK.next h).all hs.wide hs.ht hs.wd).mono fun _ _ h2 => h2.1.ans h2.2 (turn_fine hs.f hb)
theorem turn_ansR (a b : Int) (_hb : I64 b) (hK : KV w (fun b => b < w.heap.size) x.ks (.slice p n cap)) (hs : Small x) (h : Below w.heap.size w W) : Calls Try.prog 40 #[.agg #[.int .i64 x.a.k, .int .i64 x.a.w, .int .i64 x.a.c, .int .i64 x.a.s, .slice p n cap], .int .i64 a, .int .i64 b] W (AnsR w.heap.size (turnI x a b) W) :=
  (TurnR_c a b x (fun b => b < w.heap.size) (.slice p n cap) W (hK.next h) (fun _ hb => Nat.lt_of_lt_of_le hb h.size) hs.al hs.f).mono fun _ _ h2 => h2.ans
theorem touch_ans (a b : Int) (hb : I64 b) (hK : KV w (fun b => b < w.heap.size) x.ks (.slice p n cap)) (hs : Small x) (h : Below w.heap.size w W) : Calls Try.prog 41 #[.agg #[.int .i64 x.a.k, .int .i64 x.a.w, .int .i64 x.a.c, .int .i64 x.a.s, .slice p n cap], .int .i64 a, .int .i64 b] W (AnsR w.heap.size (touchI x a b) W) :=
  (touch_c x (.slice p n cap) a b W (hK.next h).all hs.wide hs.ht hs.wd).mono fun _ _ h2 => h2.1.ans h2.2 (touch_fine hs.f hb)
theorem touch_ansR (a b : Int) (hb : I64 b) (hK : KV w (fun b => b < w.heap.size) x.ks (.slice p n cap)) (hs : Small x) (h : Below w.heap.size w W) : Calls Try.prog 42 #[.agg #[.int .i64 x.a.k, .int .i64 x.a.w, .int .i64 x.a.c, .int .i64 x.a.s, .slice p n cap], .int .i64 a, .int .i64 b] W (AnsR w.heap.size (touchI x a b) W) :=
  (TouchR_c a b x (fun b => b < w.heap.size) (.slice p n cap) W (hK.next h) (fun _ hb => Nat.lt_of_lt_of_le hb h.size) hs.al hs.f hb).mono fun _ _ h2 => h2.ans
end
end Go.Proofs.Ytejbgnammlhcmaa.Co
end
section
namespace Go.Proofs.Ytejbgnammlhcmaa.Co
open Go.RowKit Go.Shelf
theorem growN_fine {kind : Int} {yb : Nat} {x : Con} {u : List Nat} (hf : fine x) : ∀ d, fine (growN kind yb x u d).1
  | 0 => hf
  | d + 1 => by
    simp only [growN]
    split
    · rename_i p q hp hq
      split
      · split
        · rename_i hE
          obtain ⟨h1, -, -⟩ := growE_ok hE
          have hw := growZ_in yb ((chk_zero h1).2.2 q.a.w (by simp))
          have hI : I64 (growZ q.a.w yb) := ⟨by omega, by omega⟩
          obtain ⟨⟨f0, f1, f2, f3⟩, f4⟩ := hf _ q hq
          have := fine_get hf hq
          obtain ⟨a, ks⟩ := q
          exact fine_put hf (fine_mk ⟨f0, hI, f2, f3⟩ f4 (fine_kids this).2.2)
        · exact hf
      · exact growN_fine hf d
    · exact hf
theorem grow_fine {x : Con} {c k : Int} {yb : Nat} (hf : fine x) : fine (growI x c k yb).1 := by
  unfold growI; split; exact zeroT_fine; exact chg_fine fun u => growN_fine hf _
set_option maxHeartbeats 4000000 in
theorem grows_c (x : Con) (sv : Value) (c k : Int) (yb : Nat) (w : World) (hK : KV w (fun b => b < w.heap.size) x.ks sv) (hw : x.a.wide) :
    Calls Try.prog 8 #[conV x.a sv, .int .i64 c, .int .i64 k, .float .f64 yb] w fun e w' => e = .returned (.bool true) ∧ Below w.heap.size w w' := by
  obtain ⟨p, cap, rfl, -⟩ := hK.slice
  obtain ⟨n, hn⟩ : ∃ n, n = x.ks.length := ⟨_, rfl⟩
  rw [← hn] at hK ⊢
  have hb0 := (Below.refl w.heap.size w).alloc (Nat.le_refl _) (.cells #[.int .i64 x.a.k, .int .i64 x.a.w, .int .i64 x.a.c, .int .i64 x.a.s, .slice p n cap] 24)
  have hq0 := Blk.new w 24 #[.int .i64 x.a.k, .int .i64 x.a.w, .int .i64 x.a.c, .int .i64 x.a.s, .slice p n cap]
  have HF := Lib.hid (few_c (fun b => b < w.heap.size) x (.slice p n cap) _ (hK.next hb0))
  have HB := Lib.hid hb0
  have HQ := Lib.hid hq0
  have HK := Lib.hid hK
  obtain ⟨dn, hdn⟩ : ∃ d, d = decide (nodesC x 0 ≤ 500) := ⟨_, rfl⟩
  rw [← hdn] at HF
  have HD := Lib.hid hdn
  have HW := Lib.hid hw
  clear hn hK hb0 hq0 hdn hw
  show Calls Try.prog 8 #[.agg #[.int .i64 x.a.k, .int .i64 x.a.w, .int .i64 x.a.c, .int .i64 x.a.s, .slice p n cap], .int .i64 c, .int .i64 k, .float .f64 yb] w _
  go_enter Try.func8, Try.ntmps8
  go_wp2_with fail
  refine HF.out.mono ?_
  rintro e w1 ⟨rfl, hb⟩
  have hb1 := HB.out.trans (hb.mono HB.out.size)
  have HB1 := Lib.hid hb1
  have q1 := HQ.out.next hb
  have HQ1 := Lib.hid q1
  obtain ⟨⟨b0, b1, b2, b3, b4⟩, -⟩ := c5 q1
  clear hb hb1 HF HB q1
  cases dn
  · go_wp2_with fail
    refine (awake_c w1).mono ?_
    rintro e w2 ⟨rfl, hb⟩
    have HB2 := HB1.out.trans (hb.mono HB1.out.size)
    clear hb
    go_wp2_with fail
    go_ret
    exact ⟨rfl, HB2⟩
  · have hs := Small.of HK.out HW.out (of_decide_eq_true HD.out.symm)
    have HR := Lib.hid (growc_c x (.slice p n cap) c k yb w1 (HK.out.next HB1.out).all HW.out hs.ht hs.wd)
    have HS := Lib.hid hs
    clear hs HD
    go_wp2_with fail
    refine HR.out.mono ?_
    rintro e w2 ⟨ht, hb⟩
    obtain ⟨y, s, rfl, hky, hy⟩ := ht.reads (fun h => grow_fine HS.out.f)
    obtain ⟨py, ky, rfl, -⟩ := hky.slice
    obtain ⟨ny, hny⟩ : ∃ n, n = y.ks.length := ⟨_, rfl⟩
    rw [← hny] at hky ⊢
    obtain ⟨r, hr⟩ : ∃ r, r = growI x c k yb := ⟨_, rfl⟩
    rw [← hr] at hy ⊢
    obtain ⟨er, her⟩ : ∃ e, e = r.2 := ⟨_, rfl⟩
    rw [← her]
    have hb2 := HB1.out.trans (hb.mono HB1.out.size)
    have q2 := HQ1.out.next hb
    have HB2 := Lib.hid hb2
    have HQ2 := Lib.hid q2
    have HKY := Lib.hid hky
    have HY := Lib.hid hy
    have HRR := Lib.hid hr
    have HER := Lib.hid her
    clear hb hb2 HB1 HQ1 b0 b1 b2 b3 b4 hky hny hy hr her ht HR
    obtain ⟨⟨b0, b1, b2, b3, b4⟩, -⟩ := c5 q2
    have hs1 : w.heap.size < w2.heap.size := q2.lt
    have hs2 : w.heap.size ≠ w2.heap.size := Nat.ne_of_lt hs1
    clear q2
    go_wp2_with fail
    have hbN := HB2.out.alloc HB2.out.size (.cells #[.int .i64 y.a.k, .int .i64 y.a.w, .int .i64 y.a.c, .int .i64 y.a.s, .slice py ny ky] 24)
    have HKN := Lib.hid (HKY.out.alloc (.cells #[.int .i64 y.a.k, .int .i64 y.a.w, .int .i64 y.a.c, .int .i64 y.a.s, .slice py ny ky] 24))
    have HBN := Lib.hid hbN
    have HQN := Lib.hid (Blk.new w2 24 #[.int .i64 y.a.k, .int .i64 y.a.w, .int .i64 y.a.c, .int .i64 y.a.s, .slice py ny ky])
    refine (GrowR_c c k yb x (fun b => b < w.heap.size) (.slice p n cap) _ (HK.out.next hbN) (fun b h => Nat.lt_of_lt_of_le h hbN.size) HS.out.al HS.out.f).mono ?_
    rintro e w3 ⟨hb, z, s, rfl, hkz, hz⟩
    obtain ⟨pz, kz, rfl, -⟩ := hkz.slice
    obtain ⟨nz, hnz⟩ : ∃ n, n = z.ks.length := ⟨_, rfl⟩
    rw [← hnz] at hkz ⊢
    rw [← HRR.out] at hz ⊢
    rw [← HER.out]
    have hb3 := HBN.out.trans (hb.mono HBN.out.size)
    have HB3 := Lib.hid hb3
    have HKY3 := Lib.hid (HKN.out.next hb)
    have HKZ := Lib.hid hkz
    have HSM := Lib.hid (told_same (y := y) (z := z) rfl HY.out hz)
    obtain ⟨⟨b0, b1, b2, b3, b4⟩, -⟩ := c5 (HQN.out.next hb)
    have hs1 : w2.heap.size < w3.heap.size := (HQN.out.next hb).lt
    have hs2 : w2.heap.size ≠ w3.heap.size := Nat.ne_of_lt hs1
    clear hb hb3 hkz hnz hz HKN HQN HBN hbN HB2 HKY HY HRR HER
    go_wp2_with fail
    have hbN := HB3.out.alloc HB3.out.size (.cells #[.int .i64 z.a.k, .int .i64 z.a.w, .int .i64 z.a.c, .int .i64 z.a.s, .slice pz nz kz] 24)
    have HBN := Lib.hid hbN
    refine (same_t HSM.out (HKY3.out.alloc _) (HKZ.out.alloc _)).mono ?_
    rintro e w4 ⟨rfl, hb⟩
    have hb4 := HBN.out.trans (hb.mono HBN.out.size)
    have HB4 := Lib.hid hb4
    clear hb hb4 hbN HBN
    go_wp2_with fail
    refine (awake_c w4).mono ?_
    rintro e w5 ⟨rfl, hb⟩
    have hb5 := HB4.out.trans (hb.mono HB4.out.size)
    clear hb HB4
    go_wp2_with fail
    go_ret
    exact ⟨rfl, hb5⟩
end Go.Proofs.Ytejbgnammlhcmaa.Co
end
section
namespace Go.Proofs.Ytejbgnammlhcmaa.Co
open Go.RowKit Go.WideShapes Go.ChangeShapes Go.ChangeAt Go.Deep
theorem cs_int : Try.prog.cellsOf 3 = 1 := by kernel_rfl
theorem cs_con : Try.prog.cellsOf 24 = 5 := by kernel_rfl
theorem cs_cons : Try.prog.cellsOf 22 = 1 := by kernel_rfl
theorem i64_of_wf {a : Int} (h : (Lit.int .i64 a).wf = true) : I64 a := by
  simp only [Lit.wf, decide_eq_true_eq, Bool.and_eq_true] at h
  have h1 : IntKind.i64.min = -9223372036854775808 := rfl
  have h2 : IntKind.i64.max = 9223372036854775807 := rfl
  unfold I64; omega
theorem bytes_con : Try.prog.bytesOf 24 = 56 := by kernel_rfl
section
variable {H : Type} {enc : TypeId × Value → H} {w : World}
theorem weights_all {P : Program} {e : TypeId} : ∀ {l : List (DataW H)} {d : DataW H}, d ∈ l → ∀ n ∈ d.weights P e, n ∈ DataW.weightsAll P e l := by
  intro l
  induction l with
  | nil => intro d h; cases h
  | cons y r ih =>
    intro d h n hn
    simp only [DataW.weightsAll, List.mem_append]
    rcases List.mem_cons.1 h with rfl | h
    · exact .inl hn
    · exact .inr (ih h n hn)
theorem open_con : ∀ (fuel : Nat) (cs : List Value) (x : DataW H × List MemPlace), DataW.trod enc Try.prog w 0 (fun _ => true) true fuel 24 cs = some x → (∀ n ∈ x.1.weights Try.prog 24, n ≤ 140737488355328) →
    ∃ (y : Con) (s : Value), cs = encC y.a s ∧ KV w (fun b => b < w.heap.size) y.ks s ∧ y.a.wide := by
  intro fuel
  induction fuel using Nat.strongRecOn with
  | ind fuel ih =>
    intro cs x h hwt
    have hcl : cs.length = 5 := by
      obtain ⟨_, _, _, _, hl, _⟩ := DataW.trod_struct Try.underlying24 h
      rw [hl, cs_con]
    match cs, hcl with
    | [c0, c1, c2, c3, c4], _ =>
      obtain ⟨xs, n, hfn, hx, _, hlen, hg⟩ := DataW.trod_struct Try.underlying24 h
      obtain ⟨y0, e0⟩ : ∃ y, xs[0]? = some y := ⟨_, List.getElem?_eq_getElem (by rw [hlen]; decide)⟩
      have k0 : DataW.trod enc Try.prog w 0 (fun _ => true) true n 3 [c0] = some y0 := by
        have h := (hg 0 _ rfl).trans e0
        simpa [cs_int] using h
      obtain ⟨y1, e1⟩ : ∃ y, xs[1]? = some y := ⟨_, List.getElem?_eq_getElem (by rw [hlen]; decide)⟩
      have k1 : DataW.trod enc Try.prog w 0 (fun _ => true) true n 3 [c1] = some y1 := by
        have h := (hg 1 _ rfl).trans e1
        simpa [cs_int] using h
      obtain ⟨y2, e2⟩ : ∃ y, xs[2]? = some y := ⟨_, List.getElem?_eq_getElem (by rw [hlen]; decide)⟩
      have k2 : DataW.trod enc Try.prog w 0 (fun _ => true) true n 3 [c2] = some y2 := by
        have h := (hg 2 _ rfl).trans e2
        simpa [cs_int] using h
      obtain ⟨y3, e3⟩ : ∃ y, xs[3]? = some y := ⟨_, List.getElem?_eq_getElem (by rw [hlen]; decide)⟩
      have k3 : DataW.trod enc Try.prog w 0 (fun _ => true) true n 3 [c3] = some y3 := by
        have h := (hg 3 _ rfl).trans e3
        simpa [cs_int] using h
      obtain ⟨y4, e4⟩ : ∃ y, xs[4]? = some y := ⟨_, List.getElem?_eq_getElem (by rw [hlen]; decide)⟩
      have k4 : DataW.trod enc Try.prog w 0 (fun _ => true) true n 22 [c4] = some y4 := by
        have h := (hg 4 _ rfl).trans e4
        simpa [cs_cons] using h
      obtain ⟨z0, q0, _, w0⟩ := DataW.trod_int Try.underlying3 k0
      simp only [List.cons.injEq, and_true] at q0
      obtain ⟨z1, q1, _, w1⟩ := DataW.trod_int Try.underlying3 k1
      simp only [List.cons.injEq, and_true] at q1
      obtain ⟨z2, q2, _, w2⟩ := DataW.trod_int Try.underlying3 k2
      simp only [List.cons.injEq, and_true] at q2
      obtain ⟨z3, q3, _, w3⟩ := DataW.trod_int Try.underlying3 k3
      simp only [List.cons.injEq, and_true] at q3
      subst q0 q1 q2 q3
      have hw4 : ∀ n ∈ y4.1.weights Try.prog 22, n ≤ 140737488355328 := fun n hn => hwt n (by
        rw [hx]
        simp only [DataW.weights, Try.underlying24]
        exact DataW.weights_mem_each (j := 4) (t := 22) (d := y4.1) rfl (by rw [List.getElem?_map, e4]; rfl) n hn)
      have hwide : I64 z0 ∧ I64 z1 ∧ I64 z2 ∧ I64 z3 := ⟨i64_of_wf w0, i64_of_wf w1, i64_of_wf w2, i64_of_wf w3⟩
      rcases DataW.trod_slice Try.underlying22 k4 with ⟨hcs, _⟩ | ⟨a, len, cap, elems, rest, n', hn', hcs, hy4, _, hl, hm, hle, hel, _⟩
      · simp only [List.cons.injEq, and_true] at hcs
        subst hcs
        exact ⟨.mk ⟨z0, z1, z2, z3⟩ [], .slice none 0 0, rfl, KV.nil w _ none 0, hwide⟩
      · simp only [List.cons.injEq, and_true] at hcs
        subst hcs
        have hy4' : y4.1 = .slice (elems.map (·.1)) (rest.map (·.1)) := by rw [hy4]
        have hlen9' : len ≤ 2513169434917 := by
          have := hw4 _ (by rw [hy4']; simp only [DataW.weights, Try.underlying22]; exact List.mem_cons_self ..)
          rw [bytes_con, List.length_map, hle] at this
          omega
        have hwe : ∀ e ∈ elems, ∀ n ∈ e.1.weights Try.prog 24, n ≤ 140737488355328 := fun e he n hn => hw4 n (by
          rw [hy4']
          simp only [DataW.weights, Try.underlying22]
          exact List.mem_cons_of_mem _ (List.mem_append.2 (.inl (weights_all (List.mem_map.2 ⟨e, he, rfl⟩) n hn))))
        have hex : ∀ i : Nat, ∃ p : Con × Value, i < len → (∀ (k : Nat) (u : Value), (encC p.1.a p.2)[k]? = some u → w.cell? (a.add (i * 5 + k)) = some u) ∧ KV w (fun b => b < w.heap.size) p.1.ks p.2 ∧ p.1.a.wide := fun i => by
          by_cases hi : i < len
          · have h9 := hel i hi
            obtain ⟨e9, he9⟩ : ∃ e, elems[i]? = some e := ⟨_, List.getElem?_eq_getElem (by omega)⟩
            rw [he9, Option.bind_eq_some_iff] at h9
            obtain ⟨cs', h10, h11⟩ := h9
            obtain ⟨y, s, rfl, h12, h13⟩ := ih n' (by omega) cs' e9 h11 (hwe e9 (List.mem_of_getElem? he9))
            rw [cs_con] at h10
            obtain ⟨_, hl5, hat⟩ := World.cells?_some h10
            refine ⟨(y, s), fun _ => ⟨fun k u hu => ?_, h12, h13⟩⟩
            have hk := (List.getElem?_eq_some_iff.1 hu).1
            rw [enc_len] at hk
            have h14 := hat k hk
            rw [← Go.Deep.add_add, h14]
            exact hu
          · exact ⟨(.mk D0 [], undef), fun h => absurd h hi⟩
        obtain ⟨f, hf⟩ := Classical.axiomOfChoice hex
        have hlist : ∀ (j : Nat) (x : Con), ((List.range len).map fun i => (f i).1)[j]? = some x → j < len ∧ x = (f j).1 := fun j x hx => by
          rw [List.getElem?_map] at hx
          have hj : j < len := by
            have := Option.map_eq_some_iff.1 hx
            obtain ⟨i, hi, _⟩ := this
            have := (List.getElem?_eq_some_iff.1 hi).1
            simpa using this
          rw [List.getElem?_range hj] at hx
          exact ⟨hj, (Option.some.inj hx).symm⟩
        have hlen9 : ((List.range len).map fun i => (f i).1).length = len := by simp
        refine ⟨.mk ⟨z0, z1, z2, z3⟩ ((List.range len).map fun i => (f i).1), .slice (some a) len cap, rfl, ?_, hwide⟩
        have := KV.mk (w := w) (Z := fun b => b < w.heap.size) ((List.range len).map fun i => (f i).1) (some a) cap (fun i => (f i).2) (by rw [hlen9]; omega) (by rw [hlen9]; exact hl) (fun j x hx => by
          obtain ⟨hj, rfl⟩ := hlist j x hx
          obtain ⟨h1, h2, h3⟩ := hf j hj
          have hc := h1 0 _ rfl
          have h0 := (hf 0 (by omega)).1 0 _ rfl
          rw [show 0 * 5 + 0 = 0 from rfl, show a.add 0 = a by unfold Addr.add; simp] at h0
          have ha : a = ⟨a.block, a.off, none⟩ := by
            have h8 : a.spot = none := World.cell?_spot h0
            obtain ⟨b, o, s⟩ := a
            simp only at h8
            subst h8; rfl
          have hlt := World.block_lt_of_cell? w _ h0
          refine ⟨a.block, a.off, by rw [← ha], hlt, hlt, h3, fun i u hu => ?_⟩
          have := h1 i u hu
          rw [ha, Addr.add_lit] at this
          rwa [show a.off + (j * 5 + i) = a.off + j * 5 + i by omega] at this) (fun j x hx => by
          obtain ⟨hj, rfl⟩ := hlist j x hx
          exact (hf j hj).2.1)
        rwa [hlen9] at this
set_option maxRecDepth 100000 in
theorem con_of {b0 : Nat} {v : Value} {d : DataW H} {q : List MemPlace} {ts : List TypeId} {ds : List (DataW H)} {j : Nat} (hsz : (DataW.weightsEach Try.prog ts ds).all (· ≤ reachBytes) = true) (ht : ts[j]? = some 24) (hd : ds[j]? = some d)
    (hv : Value.okWide Try.prog w .any b0 24 v) (h : DataW.Trod enc Try.prog w 0 (fun _ => true) true 24 v d q) :
    ∃ (x : Con) (s : Value), v = conV x.a s ∧ KV w (fun b => b < w.heap.size) x.ks s ∧ x.a.wide := by
  obtain ⟨⟨l⟩, rfl, hs5⟩ := okWide_struct Try.underlying24 hv
  obtain ⟨fuel, hf⟩ := h
  obtain ⟨x, s, h1, h2, h3⟩ := open_con fuel _ _ hf (fun n hn => by
    have := List.all_eq_true.1 hsz n (DataW.weights_mem_each ht hd n hn)
    have h9 := reachBytes_lt
    have h3 : (2 : Nat) ^ 47 = 140737488355328 := by decide
    have := of_decide_eq_true this
    omega)
  refine ⟨x, s, ?_, h2, h3⟩
  have h1 : l = encC x.a s := h1
  rw [h1]; rfl
end
end Go.Proofs.Ytejbgnammlhcmaa.Co
end
section
namespace Go.Proofs.Ytejbgnammlhcmaa.lawConsGrows
open Go.ChangeShapes Go.WideShapes Go.ChangeAt Go.RowKit Go.Joins
theorem own : ownKnob Try.prog.godebug = none := by kernel_rfl
theorem laidOut : laidOutB Try.prog = true := by kernel_rfl
set_option maxHeartbeats 1000000 in
set_option maxRecDepth 100000 in
theorem lifted (os : Os) (started : os.Started) (H : Type) (enc : TypeId × Value → H) :
    ReturnsInHanded {} Try.checked os 8 .any (Rows.consGrowsSpec.pre6 enc Try.prog Try.f8 Rows.consGrowsRow.domain false) (Rows.consGrowsSpec.post enc Try.prog Try.f8 false true false false) := by
  refine returnsInHanded_of_change_sized (C := Try.checked) own started (by kernel_rfl) Try.func8
    (ChangeSpec.witness6 (enc := enc) (C := Try.checked) false ⟨#[], #[.agg #[.int .i64 0, .int .i64 0, .int .i64 0, .int .i64 0, .slice none 0 0], .int .i64 0, .int .i64 0, .float .f64 0], []⟩ 8 (by kernel_rfl) (by kernel_rfl) (by kernel_rfl) (by kernel_rfl)) ?_
  intro W base args ds gs before hval0 hW _ hsz0 _
  have hsz : (DataW.weightsEach Try.prog (Try.f8.params.toList ++ Rows.consGrowsSpec.plain.varTypes Try.prog) (ds ++ gs)).all (· ≤ reachBytes) = true := hsz0
  have hval : ∀ (j : Nat) t v, Try.f8.params[j]? = some t → args[j]? = some v → Value.okWide Try.prog W .any base t v := hval0
  have hW' := hW
  obtain ⟨p, q, hA0, hV, rfl, _, _⟩ := hW
  have hA : DataW.TrodAll enc Try.prog W 0 (fun _ => true) true Try.f8.params.toList args.toList ds p := hA0
  rw [Try.params8] at hA hval hsz
  obtain ⟨v0, vs0, d0, ds0, p0, q0, hargs, rfl, rfl, h0, r0⟩ := trodAll_cons hA
  obtain ⟨v1, vs1, d1, ds1, p1, q1, rfl, rfl, rfl, h1, r1⟩ := trodAll_cons r0
  obtain ⟨v2, vs2, d2, ds2, p2, q2, rfl, rfl, rfl, h2, r2⟩ := trodAll_cons r1
  obtain ⟨v3, vs3, d3, ds3, p3, q3, rfl, rfl, rfl, h3, r3⟩ := trodAll_cons r2
  obtain ⟨rfl, rfl, rfl⟩ := trodAll_nil r3
  obtain rfl : args = #[v0, v1, v2, v3] := by cases args; simp_all
  obtain ⟨rfl, rfl⟩ := trodVars_none hV
  have k0 := h0
  have k1 := h1
  have k2 := h2
  have k3 := h3
  clear hA0 hval0
  simp only [List.append_nil] at hW'
  obtain ⟨x0, s0, rfl, p0, z0⟩ := Co.con_of hsz (j := 0) (d := d0) rfl rfl (hval 0 24 v0 rfl rfl) h0
  obtain ⟨a1, rfl, _, _, hw1⟩ := open_int Try.underlying3 (hval 1 3 v1 rfl rfl) h1
  obtain ⟨a2, rfl, _, _, hw2⟩ := open_int Try.underlying3 (hval 2 3 v2 rfl rfl) h2
  obtain ⟨a3, rfl, _, _, hw3⟩ := open_float Try.underlying48 (hval 3 48 v3 rfl rfl) h3
  refine (Co.grows_c x0 s0 a1 a2 a3 W p0 z0).mono fun e W' ⟨he, hb⟩ => ?_
  subst he
  have g0 := Below.trod (W' := W') laidOut (by kernel_rfl) (of_decide_eq_true (by kernel_rfl)) k0 hb (fun y hy => by simpa using hW'.lt y (by simp [hy]))
  have g1 := Below.trod (W' := W') laidOut (by kernel_rfl) (of_decide_eq_true (by kernel_rfl)) k1 hb (fun y hy => by simpa using hW'.lt y (by simp [hy]))
  have g2 := Below.trod (W' := W') laidOut (by kernel_rfl) (of_decide_eq_true (by kernel_rfl)) k2 hb (fun y hy => by simpa using hW'.lt y (by simp [hy]))
  have g3 := Below.trod (W' := W') laidOut (by kernel_rfl) (of_decide_eq_true (by kernel_rfl)) k3 hb (fun y hy => by simpa using hW'.lt y (by simp [hy]))
  exact ⟨_, rfl, post_args hW' (fun _ _ _ => (trodAll_cons_mk (shut_bool Try.underlying4 _) trodAll_mk0)) (by have hh := (trodAll_cons_mk g0 (trodAll_cons_mk g1 (trodAll_cons_mk g2 (trodAll_cons_mk g3 trodAll_mk0)))); simp only [List.append_nil] at hh; exact hh) rfl hb⟩
theorem over : Rows.consGrowsRow.holds Try.pinned (OpenSpec.ofChange Rows.consGrowsSpec) :=
  OpenClaim.holds_of_wide 8 Try.f8 rfl rfl rfl rfl rfl rfl rfl ⟨rfl, rfl, rfl, rfl, rfl⟩ rfl rfl rfl rfl rfl (by kernel_rfl) Try.func8 (by kernel_rfl)
    (of_decide_eq_true (by kernel_rfl)) (by unfold Func.isWrapper; first | (rw [if_pos (by decide +kernel)]; kernel_rfl) | (rw [if_neg (by decide +kernel)]; exact ⟨rfl, rfl⟩))
    (fun os started H enc _ => lifted os started H enc)
theorem proved : Rows.ConsGrowsSaid := over
#print axioms proved
end Go.Proofs.Ytejbgnammlhcmaa.lawConsGrows
end
