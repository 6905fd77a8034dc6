/- slices.Grow of none, slices.Concat of two: of containers. -/
import Derived.Test.YtjeabkcbaielhaaCoZ
import Derived.Lib.AppendZeros
namespace Go.Proofs.Ytjeabkcbaielhaa.Co
open Go.RowKit Go.Shelf Go.Lib
theorem grow0_c (n : Nat) (w : World) (hn : n ≤ 1000000) : Calls Try.prog 111 #[.slice none 0 0, .int .i64 (n : Int)] w fun e w' => ∃ v, e = .returned v ∧ w'.ownsRow w.heap.size 24 5 v 0 [] ∧ (n = 0 → v = .slice none 0 0) ∧ Below w.heap.size w w' := by
  obtain ⟨i0, hi0, hz0, hz1, hz2⟩ := con_info
  obtain ⟨R, hR⟩ : ∃ R, R = fun (e : Ending) (w' : World) => ∃ v, e = .returned v ∧ w'.ownsRow w.heap.size 24 5 v 0 [] ∧ (n = 0 → v = .slice none 0 0) ∧ Below w.heap.size w w' := ⟨_, rfl⟩
  rw [← hR]
  have HR := Lib.hid hR
  clear hR
  by_cases h0 : n = 0
  · subst h0
    go_enter Try.func111, Try.ntmps111
    go_wp2_with fail
    show R (.returned (.slice none 0 0)) _
    rw [HR.out]
    exact ⟨_, rfl, World.ownsRow_nil _ _ _ _, fun _ => rfl, Below.refl _ _⟩
  · have hpos : (0 : Int) < (n : Int) := by omega
    have hneg : ¬ (n : Int) < 0 := by omega
    have hap := fun W : World => run_append_nil_zeros (P := Try.prog) W 22 3 22 24 i0 _ .i64 .i64 Try.underlying22 Try.underlying3 hi0 hz0 n (by omega) (by omega) (by omega) (by rw [hz2]; omega)
    have hgc := grownCap_ge w n 0 24
    have hgm := grownCap_le_maxLen w n 0 24 (by unfold maxLen; omega)
    obtain ⟨gc, hg⟩ : ∃ gc, gc = grownCap w n 0 24 := ⟨_, rfl⟩
    have hap0 := hap w
    rw [← hg] at hap0 hgc hgm
    have HO := Lib.hid (World.ownsRow_made (base := w.heap.size) (e := 24) (size := 5) w.drew (Builtin.zeroCells (Value.agg #[.int .i64 0, .int .i64 0, .int .i64 0, .int .i64 0, .slice none 0 0]).cells n ++ Builtin.zeroCells (Value.agg #[.int .i64 0, .int .i64 0, .int .i64 0, .int .i64 0, .slice none 0 0]).cells (gc - n)) gc (Nat.le_refl _) hgm (by simp only [Array.size_append, size_zeroCells]; rw [← Nat.add_mul, show n + (gc - n) = gc by omega]; rfl))
    obtain ⟨cs, hcs⟩ : ∃ cs, cs = (Builtin.zeroCells (Value.agg #[.int .i64 0, .int .i64 0, .int .i64 0, .int .i64 0, .slice none 0 0]).cells n ++ Builtin.zeroCells (Value.agg #[.int .i64 0, .int .i64 0, .int .i64 0, .int .i64 0, .slice none 0 0]).cells (gc - n)) := ⟨_, rfl⟩
    rw [← hcs] at hap0 HO
    have HN := Lib.hid h0
    clear hap hg hcs h0 hgm hgc hi0 hz0 hz1 hz2
    obtain ⟨z, hz⟩ : ∃ z : Int, z = (n : Int) := ⟨_, rfl⟩
    rw [← hz] at hpos hneg hap0 ⊢
    have hn9 : z ≤ 1000000 := by omega
    have hneg2 : decide (z < 0) = false := decide_eq_false hneg
    have hw64 : wrap64 z = z := by unfold wrap64; omega
    have hpos2 : decide (0 < wrap64 z) = true := decide_eq_true (by rw [hw64]; exact hpos)
    rw [← hw64] at hap0
    have HAP := Lib.hid hap0
    clear hap0
    clear hz hn hneg hpos hn9 hw64
    go_enter Try.func111, Try.ntmps111
    go_wp2_with (at_builtin; refine Lib.wpList_append_run _ rfl _ _ _ _ rfl _ _ rfl rfl _ _ HAP.out ?_)
    show R (.returned (.slice (some ⟨w.heap.size, 0, none⟩) 0 gc)) _
    rw [HR.out]
    exact ⟨_, rfl, HO.out, fun h => absurd h HN.out, ((Below.refl _ _).drew).alloc (Nat.le_refl _) _⟩
/-- A row of cells that can be read. -/
def Rds (w : World) (a : Addr) (xs : List Value) : Prop := ∀ j u, xs[j]? = some u → w.cell? (a.add j) = some u
theorem Rds.next {w w' : World} {a : Addr} {xs : List Value} (h : Rds w a xs) (hb : Below w.heap.size w w') : Rds w' a xs := fun j u hu => by
  have h1 := h j u hu
  exact (hb.cell (World.block_lt_of_cell? w _ h1)).trans h1
/-- What is put together so far. -/
def Cat (w : World) (n1 n2 : Nat) (xs1 xs2 : List Value) (k : Nat) (v : Value) (wr : World) : Prop :=
  Below w.heap.size w wr ∧ ((k = 0 ∧ wr.ownsRow w.heap.size 24 5 v 0 [] ∧ (n1 + n2 = 0 → v = .slice none 0 0)) ∨ (k = 1 ∧ wr.ownsRow w.heap.size 24 5 v n1 xs1 ∧ (n1 + n2 = 0 → v = .slice none 0 0)) ∨ (k = 2 ∧ wr.ownsRow w.heap.size 24 5 v (n1 + n2) (xs1 ++ xs2) ∧ (n1 + n2 = 0 → v = .slice none 0 0)))
def CatR (w : World) (n1 n2 : Nat) (xs1 xs2 : List Value) (e : Ending) (w' : World) : Prop :=
  ∃ v, e = .returned v ∧ w'.ownsRow w.heap.size 24 5 v (n1 + n2) (xs1 ++ xs2) ∧ (n1 + n2 = 0 → v = .slice none 0 0) ∧ Below w.heap.size w w'
set_option maxHeartbeats 1000000 in
theorem concat_c (sb n1 c1 n2 c2 : Nat) (a1 a2 : Addr) (xs1 xs2 : List Value) (w : World) (hs : Blk w sb 22 #[.slice (some a1) n1 c1, .slice (some a2) n2 c2]) (h1 : Rds w a1 xs1) (h2 : Rds w a2 xs2)
    (l1 : xs1.length = n1 * 5) (l2 : xs2.length = n2 * 5) (o1 : ∀ u ∈ xs1, u.oneCell' = true) (o2 : ∀ u ∈ xs2, u.oneCell' = true) (m1 : n1 ≤ 100000) (m2 : n2 ≤ 100000) :
    Calls Try.prog 101 #[.slice (some ⟨sb, 0, none⟩) 2 2] w (CatR w n1 n2 xs1 xs2) := by
  obtain ⟨i0, hi0, hz0, hz1, hz2⟩ := con_info
  obtain ⟨R, hR⟩ : ∃ R, R = CatR w n1 n2 xs1 xs2 := ⟨_, rfl⟩
  rw [← hR]
  have HR := Lib.hid hR
  obtain ⟨⟨s0, s1⟩, -⟩ := hs.c2
  have HS := Lib.hid hs
  have H1 := Lib.hid h1
  have H2 := Lib.hid h2
  have L1 := Lib.hid l1
  have L2 := Lib.hid l2
  have O1 := Lib.hid o1
  have O2 := Lib.hid o2
  have HG := Lib.hid (grow0_c (n1 + n2) w (by omega))
  clear hR hs h1 h2 l1 l2 o1 o2
  have hsum : ((n1 + n2 : Nat) : Int) = (n1 : Int) + (n2 : Int) := by omega
  rw [hsum] at HG
  clear hsum
  go_enter Try.func101, Try.ntmps101
  go_wp2_with fail
  go_loop [3, 11] (fun q z => ∃ k : Nat, k ≤ 2 ∧ z = .int .i64 k ∧ ((k = 0 ∧ q = .int .i64 0) ∨ (k = 1 ∧ q = .int .i64 n1) ∨ (k = 2 ∧ q = .int .i64 ((n1 : Int) + n2)))) (fun _ z => 2 - (intOf z).toNat)
  case atStart => exact ⟨0, by omega, rfl, .inl ⟨rfl, rfl⟩⟩
  case round =>
    obtain ⟨k, hk, rfl, hq⟩ := hrel
    rcases hq with ⟨rfl, rfl⟩ | ⟨rfl, rfl⟩ | ⟨rfl, rfl⟩
    · have p0 : ¬ (n1 : Int) < 0 := by omega
      go_wp2_with fail
      exact ⟨⟨1, by omega, rfl, .inr (.inl ⟨rfl, rfl⟩)⟩, by simp [intOf]⟩
    · have p0 : ¬ (n1 : Int) + (n2 : Int) < 0 := by omega
      go_wp2_with fail
      exact ⟨⟨2, by omega, rfl, .inr (.inr ⟨rfl, rfl⟩)⟩, by simp [intOf]⟩
    · go_wp2_with fail
      refine HG.out.mono ?_
      rintro e w1 ⟨v, rfl, ho, hn, hb⟩
      have HC := Lib.hid (show Cat w n1 n2 xs1 xs2 0 v w1 from ⟨hb, .inl ⟨rfl, ho, hn⟩⟩)
      clear ho hn hb
      go_wp2_with fail
      go_loopw [6, 27] (fun v z wr => ∃ k : Nat, k ≤ 2 ∧ z = .int .i64 k ∧ Cat w n1 n2 xs1 xs2 k v wr) (fun _ z _ => 2 - (intOf z).toNat)
      case atStart => exact ⟨0, by omega, rfl, HC.out⟩
      case round =>
        obtain ⟨k, hk, rfl, hc⟩ := hrel
        obtain ⟨hbw, hc⟩ : Cat w n1 n2 xs1 xs2 k u6 wr := hc
        have HBW := Lib.hid hbw
        have HSZ := Lib.hid hbw.size
        have hs1 := HS.out.below hbw HS.out.lt
        obtain ⟨⟨s0, s1⟩, -⟩ := hs1.c2
        rcases hc with ⟨rfl, ho, hn⟩ | ⟨rfl, ho, hn⟩ | ⟨rfl, ho, hn⟩
        · have HOW := Lib.hid ho
          have HNN := Lib.hid hn
          clear ho hn hbw hs1
          go_wp2_with (at_builtin; go_loud (refine wpList_append_own_at _ rfl (.tmp 31) (.tmp 32) 22 rfl w.heap.size 24 i0 (.agg #[.int .i64 0, .int .i64 0, .int .i64 0, .int .i64 0, .slice none 0 0]) 5 56 Try.underlying22 hi0 hz0 hz1 hz2 rfl (by decide) _ 0 [] rfl HOW.out a1 n1 c1 xs1 rfl (by exact L1.out) (H1.out.next HBW.out) O1.out (by unfold maxLen; omega) (by omega) HSZ.out ?_; intro v7 w7 ho7 hg7 hn7 hb7; have HO7 := Lib.hid ho7; have HG7 := Lib.hid hg7; have HN7 := Lib.hid hn7; clear ho7 hg7 hn7 hb7))
          refine ⟨⟨1, by omega, rfl, ?_⟩, by simp [intOf]⟩
          have hz : n1 + n2 = 0 → v7 = .slice none 0 0 := fun h => HN7.out.2 ⟨HNN.out h, by omega⟩
          have ho7 := HO7.out
          rw [Nat.zero_add, List.nil_append] at ho7
          exact ⟨HBW.out.grown HG7.out HSZ.out (fun b hb => (HOW.out.lt b hb).1), .inr (.inl ⟨rfl, ho7, hz⟩)⟩
        · have HOW := Lib.hid ho
          have HNN := Lib.hid hn
          clear ho hn hbw hs1
          go_wp2_with (at_builtin; go_loud (refine wpList_append_own_at _ rfl (.tmp 31) (.tmp 32) 22 rfl w.heap.size 24 i0 (.agg #[.int .i64 0, .int .i64 0, .int .i64 0, .int .i64 0, .slice none 0 0]) 5 56 Try.underlying22 hi0 hz0 hz1 hz2 rfl (by decide) _ n1 xs1 rfl HOW.out a2 n2 c2 xs2 rfl (by exact L2.out) (H2.out.next HBW.out) O2.out (by unfold maxLen; omega) (by omega) HSZ.out ?_; intro v7 w7 ho7 hg7 hn7 hb7; have HO7 := Lib.hid ho7; have HG7 := Lib.hid hg7; have HN7 := Lib.hid hn7; clear ho7 hg7 hn7 hb7))
          refine ⟨⟨2, by omega, rfl, ?_⟩, by simp [intOf]⟩
          have hz : n1 + n2 = 0 → v7 = .slice none 0 0 := fun h => HN7.out.2 ⟨HNN.out h, by omega⟩
          exact ⟨HBW.out.grown HG7.out HSZ.out (fun b hb => (HOW.out.lt b hb).1), .inr (.inr ⟨rfl, HO7.out, hz⟩)⟩
        · have HOW := Lib.hid ho
          have HNN := Lib.hid hn
          clear ho hn hbw hs1 s0 s1
          go_wp2_with fail
          rw [HR.out]
          exact ⟨_, rfl, HOW.out, HNN.out, HBW.out⟩
theorem ret_getD {R : Ending → World → Prop} {v u : Value} {w : World} (h : R (.returned u) w) (e : v = u) : R (.returned v) w := e ▸ h
set_option maxHeartbeats 1000000 in
theorem without_c (g n cap i : Nat) (xs : List Value) (w : World) (hx : Rds w ⟨g, 0, none⟩ xs) (hl : xs.length = n * 5) (ho : ∀ u ∈ xs, u.oneCell' = true) (hi : i < n) (hn : n ≤ 100000) (hc : n ≤ cap) :
    Calls Try.prog 71 #[.slice (some ⟨g, 0, none⟩) n cap, .int .i64 (i : Int)] w (CatR w i (n - (i + 1)) (xs.take (i * 5)) (xs.drop ((i + 1) * 5))) := by
  obtain ⟨R, hR⟩ : ∃ R, R = CatR w i (n - (i + 1)) (xs.take (i * 5)) (xs.drop ((i + 1) * 5)) := ⟨_, rfl⟩
  rw [← hR]
  have HR := Lib.hid hR
  obtain ⟨a2, ha2⟩ : ∃ a2 : Addr, (if cap = i + 1 then some (⟨g, 0, none⟩ : Addr) else some ⟨g, (i + 1) * 5, none⟩) = some a2 := by split <;> exact ⟨_, rfl⟩
  have hadd : ∀ k, (⟨g, 0, none⟩ : Addr).add k = ⟨g, k, none⟩ := fun k => by unfold Addr.add; split <;> simp_all
  have hx1 : Rds w ⟨g, 0, none⟩ (xs.take (i * 5)) := fun j u hu => hx j u (by
    have hj := (List.getElem?_eq_some_iff.1 hu).1
    rw [List.length_take] at hj
    rwa [List.getElem?_take_of_lt (by omega)] at hu)
  have hx2 : Rds w a2 (xs.drop ((i + 1) * 5)) := fun j u hu => by
    have hj := (List.getElem?_eq_some_iff.1 hu).1
    rw [List.length_drop, hl] at hj
    rw [List.getElem?_drop] at hu
    have h := hx _ u hu
    by_cases e : cap = i + 1
    · exfalso; have : n * 5 ≤ (i + 1) * 5 := Nat.mul_le_mul_right 5 (by omega); omega
    · rw [if_neg e] at ha2
      have ha2 := Option.some.inj ha2
      subst ha2
      rw [hadd] at h
      have : (⟨g, (i + 1) * 5, none⟩ : Addr).add j = ⟨g, (i + 1) * 5 + j, none⟩ := by unfold Addr.add; split <;> simp_all
      rw [this]; exact h
  have HQ := Lib.hid (fun (W : World) (hb : Below w.heap.size w W) (hs : Blk W w.heap.size 22 #[.slice (some ⟨g, 0, none⟩) i cap, .slice (some a2) (n - (i + 1)) (cap - (i + 1))]) => concat_c w.heap.size i cap (n - (i + 1)) (cap - (i + 1)) ⟨g, 0, none⟩ a2 (xs.take (i * 5)) (xs.drop ((i + 1) * 5)) W hs (hx1.next hb) (hx2.next hb)
    (by rw [List.length_take, hl]; exact Nat.min_eq_left (Nat.mul_le_mul_right 5 (by omega))) (by rw [List.length_drop, hl]; have : (i + 1) * 5 ≤ n * 5 := Nat.mul_le_mul_right 5 (by omega); rw [Nat.sub_mul])
    (fun u hu => ho u (List.mem_of_mem_take hu)) (fun u hu => ho u (List.mem_of_mem_drop hu)) (by omega) (by omega))
  clear hx hl ho hx1 hx2 hadd
  have w1 : IntKind.i64.wrap ((i : Int) + 1) = (i : Int) + 1 := IntWalk.i64_in _ (by omega)
  have w2 : (0 : Int) ≤ (i : Int) + 1 := by omega
  have w3 : ((i : Int) + 1).toNat = i + 1 := by omega
  have w4 : i ≤ cap := by omega
  have w5 : i + 1 ≤ n := by omega
  have w6 : (0 : Int) ≤ (i : Int) := by omega
  have w7 : (i : Int) + 1 ≤ (n : Int) := by omega
  clear hR
  go_enter Try.func71, Try.ntmps71
  go_wp2_with fail
  have HA := Lib.hid (HQ.out (w.alloc (.cells #[.slice (some ⟨g, 0, none⟩) i cap, .slice (some a2) (n - (i + 1)) (cap - (i + 1))] 22)).drew (((Below.refl _ _).alloc (Nat.le_refl _) _).drew) ((Blk.new w _ _).drew))
  clear HQ
  refine wp_region_noPanic ?_
  refine wp_region_held_drew (S := fun _ => True) (by kernel_rfl) (by trivial) (fun hHeld => ?_)
  refine wpAnyH_take (i := 0) (v := ?v0) rfl (by kernel_rfl) (by kernel_rfl) (by kernel_rfl) (fun _ _ _ h => h) (Or.inl ⟨by kernel_rfl, ?y0⟩) (by assumption) ?r0
  case y0 => (intro wq hSw; (try dsimp only at hSw); go_simp; (try with_reducible rfl))
  (try simp only [Act.put, List.getElem_toArray, List.getElem_cons_zero, List.setIfInBounds_toArray, List.set_cons_zero, List.set_cons_succ])
  refine wpAnyH_take (i := 1) (v := ?v1) rfl (by kernel_rfl) (by kernel_rfl) (by kernel_rfl) (fun _ _ _ h => h) (Or.inl ⟨by kernel_rfl, ?y1⟩) (by assumption) ?r1
  case y1 => (intro wq hSw; (try dsimp only at hSw); go_simp; (try with_reducible rfl))
  (try simp only [Act.put, List.getElem_toArray, List.getElem_cons_succ, List.getElem_cons_zero, List.setIfInBounds_toArray, List.set_cons_zero, List.set_cons_succ])
  refine wpAnyH_take (i := 2) (v := ?v2) rfl (by kernel_rfl) (by kernel_rfl) (by kernel_rfl) (fun _ _ _ h => h) (Or.inl ⟨by kernel_rfl, ?y2⟩) (by assumption) ?r2
  case y2 => (intro wq hSw; (try dsimp only at hSw); go_simp; (try with_reducible rfl))
  (try simp only [Act.put, List.getElem_toArray, List.getElem_cons_succ, List.getElem_cons_zero, List.setIfInBounds_toArray, List.set_cons_zero, List.set_cons_succ])
  refine wpAnyH_take (i := 3) (v := ?v3) rfl (by kernel_rfl) (by kernel_rfl) (by kernel_rfl) (fun _ _ _ h => h) (Or.inl ⟨by kernel_rfl, ?y3⟩) (by assumption) ?r3
  case y3 => (intro wq hSw; (try dsimp only at hSw); go_simp; (try with_reducible rfl))
  (try simp only [Act.put, List.getElem_toArray, List.getElem_cons_succ, List.getElem_cons_zero, List.setIfInBounds_toArray, List.set_cons_zero, List.set_cons_succ])
  refine wpAnyH_take (i := 4) (v := ?v4) rfl (by kernel_rfl) (by kernel_rfl) (by kernel_rfl) (fun _ _ _ h => h) (Or.inl ⟨by kernel_rfl, ?y4⟩) (by assumption) ?r4
  case y4 => (intro wq hSw; (try dsimp only at hSw); go_simp; (try with_reducible rfl))
  (try simp only [Act.put, List.getElem_toArray, List.getElem_cons_succ, List.getElem_cons_zero, List.setIfInBounds_toArray, List.set_cons_zero, List.set_cons_succ])
  refine wpAnyH_take (i := 5) (v := ?v5) rfl (by kernel_rfl) (by kernel_rfl) (by kernel_rfl) (fun _ _ _ h => h) (Or.inl ⟨by kernel_rfl, ?y5⟩) (by assumption) ?r5
  case y5 => (intro wq hSw; (try dsimp only at hSw); go_simp; (try with_reducible rfl))
  (try simp only [Act.put, List.getElem_toArray, List.getElem_cons_succ, List.getElem_cons_zero, List.setIfInBounds_toArray, List.set_cons_zero, List.set_cons_succ])
  refine wpAnyH_take (i := 6) (v := ?v6) rfl (by kernel_rfl) (by kernel_rfl) (by kernel_rfl) (fun _ _ _ h => h) (Or.inl ⟨by kernel_rfl, ?y6⟩) (by assumption) ?r6
  case y6 => (intro wq hSw; (try dsimp only at hSw); go_simp; (try with_reducible rfl))
  (try simp only [Act.put, List.getElem_toArray, List.getElem_cons_succ, List.getElem_cons_zero, List.setIfInBounds_toArray, List.set_cons_zero, List.set_cons_succ])
  refine wpAnyH_ready (rs := [7]) (by kernel_rfl) (by simp) ?_
  refine AllReadyH.cons rfl (fun K hK => ?_) AllReadyH.nil
  go_simp
  refine hK.out _ _ (by trivial) (fun hHeld => ?_)
  clear hK K
  (try simp only [Act.put, List.getElem_toArray, List.getElem_cons_succ, List.getElem_cons_zero, List.setIfInBounds_toArray, List.set_cons_zero, List.set_cons_succ])
  refine wpAnyH_ready (rs := [8]) (by kernel_rfl) (by simp) ?_
  refine AllReadyH.cons rfl (fun K hK => ?_) AllReadyH.nil
  go_simp
  refine (HA.out).mono ?_
  rintro ex w9 ⟨v, rfl, hov, hnv, hbv⟩; have HOV := Lib.hid hov; have HNV := Lib.hid hnv; have HBV := Lib.hid hbv; clear hov hnv hbv
  (try dsimp only)
  refine hK.out _ _ (by trivial) (fun hHeld => ?_)
  clear hK K
  (try simp only [Act.put, List.getElem_toArray, List.getElem_cons_succ, List.getElem_cons_zero, List.setIfInBounds_toArray, List.set_cons_zero, List.set_cons_succ])
  refine wpAnyH_take (i := 9) (v := ?v9) rfl (by kernel_rfl) (by kernel_rfl) (by kernel_rfl) (fun _ _ _ h => h) (Or.inl ⟨by kernel_rfl, ?y9⟩) (by assumption) ?r9
  case y9 => (intro wq hSw; (try dsimp only at hSw); go_simp; (try with_reducible rfl))
  (try simp only [Act.put, List.getElem_toArray, List.getElem_cons_succ, List.getElem_cons_zero, List.setIfInBounds_toArray, List.set_cons_zero, List.set_cons_succ])
  refine wpAnyH_done (by kernel_rfl) ?_ _
  refine NoPanic.normal ?_
  go_wp2_with fail
  rw [HR.out]
  have hbb : Below w.heap.size w w9 := (((Below.refl _ _).alloc (Nat.le_refl _) _).drew).trans (HBV.out.mono (by simp))
  refine ⟨v, rfl, ⟨HOV.out.1, ?_⟩, HNV.out, hbb⟩
  exact HOV.out.2.imp id fun ⟨g', c, cur, h1, h2, h3⟩ => ⟨g', c, cur, h1, Nat.le_trans (by simp) h2, h3⟩
end Go.Proofs.Ytjeabkcbaielhaa.Co
