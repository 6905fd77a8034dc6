/- Who owns whom: order.endsRing, owners, Owners. -/
import Derived.Test.YtgioeijdgoogkaaOdD
import Derived.Deep.OwnRows
namespace Go.Proofs.Ytgioeijdgoogkaa.Od
open Go.RowKit Go.Maps
/-- Things from a place in a block on. -/
def RdB (w : World) (b o : Nat) (l : List It) : Prop := b < w.heap.size ∧ ∀ (j : Nat) (x : It), l[j]? = some x → ∀ (i : Nat) (u : Value), (encT x)[i]? = some u → w.cell? ⟨b, o + j * 6 + i, none⟩ = some u
theorem RdB.below {w w' : World} {b o : Nat} {l : List It} (h : RdB w b o l) (hb : Below w.heap.size w w') : RdB w' b o l :=
  ⟨Nat.lt_of_lt_of_le h.1 hb.size, fun j x hx i u hu => (hb.cell (p := ⟨b, o + j * 6 + i, none⟩) h.1).trans (h.2 j x hx i u hu)⟩
theorem RdB.get {w : World} {b o : Nat} {l : List It} (h : RdB w b o l) {j : Nat} {x : It} (hx : l[j]? = some x) :
    w.cell? ⟨b, o + j * 6, none⟩ = some (.int .i64 x.c) ∧ w.cell? ⟨b, o + j * 6 + 1, none⟩ = some (.int .i64 x.b) ∧ w.cell? ⟨b, o + j * 6 + 2, none⟩ = some (.int .i64 x.o) ∧ w.cell? ⟨b, o + j * 6 + 3, none⟩ = some (.bool x.m) ∧ w.cell? ⟨b, o + j * 6 + 4, none⟩ = some (.int .i64 x.r) ∧ w.cell? ⟨b, o + j * 6 + 5, none⟩ = some (.int .i64 x.n) := RdT.cells (h.2 j x hx)
theorem RdT.open {w : World} {p : Option Addr} {n c : Nat} {l : List It} (h : RdT w (.slice p n c) l) {j : Nat} {x : It} (hx : l[j]? = some x) : ∃ b o, p = some ⟨b, o, none⟩ ∧ RdB w b o l := by
  obtain ⟨p', c', h1, h2⟩ := h
  injection h1 with e1 e2 e3
  subst e1
  obtain ⟨b, o, h3, h4, -⟩ := h2 j x hx
  refine ⟨b, o, h3, h4, fun j x hx => ?_⟩
  obtain ⟨b', o', h5, _, h6⟩ := h2 j x hx
  rw [h3] at h5
  injection h5 with h5
  injection h5 with e1 e2
  subst e1 e2
  exact h6
/-- Where a client stands; -1: nowhere. -/
def encp (l : List It) : Option Int → Int
  | none => -1
  | some c => ((cl l).idxOf c : Nat)
theorem idx_at {l : List It} (hd : Dis l) {j : Nat} {x : It} (hx : l[j]? = some x) : (cl l).idxOf x.c = j := by
  have h1 : (cl l)[j]? = some x.c := by unfold cl; rw [List.getElem?_map, hx]; rfl
  obtain ⟨hl, he⟩ := List.getElem?_eq_some_iff.1 h1
  rw [← he]
  exact List.Nodup.idxOf_getElem hd j hl
theorem cl_at {l : List It} (hd : Dis l) {c : Int} (hc : c ∈ cl l) : ∃ (j : Nat) (x : It), l[j]? = some x ∧ x.c = c ∧ encp l (some c) = (j : Int) ∧ j < l.length ∧ (cl l).idxOf c = j := by
  obtain ⟨x, hx, rfl⟩ := List.mem_map.1 hc
  obtain ⟨j, hj⟩ := List.getElem?_of_mem hx
  exact ⟨j, x, hj, rfl, by show (((cl l).idxOf x.c : Nat) : Int) = j; rw [idx_at hd hj], (List.getElem?_eq_some_iff.1 hj).1, idx_at hd hj⟩
/-- Places of owners. -/
def ofL (l : List It) (f : Int → Option Int) : List Int := l.map fun t => encp l (f t.c)
theorem ofL_at {l : List It} {f : Int → Option Int} {j : Nat} {x : It} (hx : l[j]? = some x) : (ofL l f)[j]? = some (encp l (f x.c)) := by unfold ofL; rw [List.getElem?_map, hx]; rfl
theorem ofL_len (l : List It) (f : Int → Option Int) : (ofL l f).length = l.length := by unfold ofL; simp
theorem ringB_none {l : List It} {f : Int → Option Int} {c : Int} (k : Nat) : ringB l f c k none = false := by cases k <;> rfl
theorem ringB_some {l : List It} {f : Int → Option Int} {c a : Int} (k : Nat) : ringB l f c (k + 1) (some a) = if a = c then true else if yc l a c then false else ringB l f c k (f a) := rfl
set_option maxHeartbeats 4000000 in
set_option maxRecDepth 100000 in
theorem endsRing_c (b o c n g n2 i : Nat) (l : List It) (f : Int → Option Int) (x : It) (w : World) (hd : Dis l) (hR : RdB w b o l) (hln : n = l.length) (hn : n ≤ 128) (hQ : Blk w g 3 (arrI (ofL l f))) (hf : ∀ c d, f c = some d → d ∈ cl l) (hx : l[i]? = some x) :
    Calls Try.prog 34 #[.slice (some ⟨b, o, none⟩) n c, .slice (some ⟨g, 0, none⟩) n n2, .int .i64 i] w fun e w' => e = .returned (.bool (ringB l f x.c l.length (f x.c))) ∧ Below w.heap.size w w' := by
  have hin : i < n := by rw [hln]; exact (List.getElem?_eq_some_iff.1 hx).1
  have hi0 : (0 : Int) ≤ (i : Int) := by omega
  have hi1 : (i : Int) < (n : Int) := by omega
  have c0 := hQ.at_ (arrI_at (ofL_at hx))
  have HY := Lib.hid (fun a b W => younger_c a b W)
  have HQ := Lib.hid hQ
  have HR := Lib.hid hR
  have HD := Lib.hid hd
  have HF := Lib.hid hf
  have HX := Lib.hid hx
  have HN := Lib.hid hln
  obtain ⟨B, hB⟩ : ∃ B, B = ringB l f x.c l.length (f x.c) := ⟨_, rfl⟩
  rw [← hB]
  obtain ⟨o0, ho0⟩ : ∃ o0, o0 = f x.c := ⟨_, rfl⟩
  rw [← ho0] at hB c0
  have HB := Lib.hid (show B = ringB l f x.c n o0 by rw [hB, hln])
  have HO : Hid (∀ a, o0 = some a → a ∈ cl l) := fun a ha => hf x.c a (by rw [← ho0]; exact ha)
  clear hQ hR hd hf hx hln hB ho0
  go_enter Try.func34, Try.ntmps34
  go_wp2_with fail
  go_loopw [7, 14] (fun y z wr => ∃ (k : Nat) (oo : Option Int), k ≤ n ∧ y = .int .i64 (encp l oo) ∧ z = .int .i64 k ∧ Below w.heap.size w wr ∧ Asd (∀ a, oo = some a → a ∈ cl l) ∧ Asd (B = ringB l f x.c (n - k) oo)) (fun _ z _ => n - (intOf z).toNat)
  case atStart => exact ⟨0, o0, Nat.zero_le _, rfl, rfl, Below.refl _ _, HO.out, HB.out⟩
  case round =>
    clear c0
    obtain ⟨k, oo, hk, rfl, rfl, hW, hA, hA2⟩ := hrel
    have HA := Lib.hid (show ∀ a, oo = some a → a ∈ cl l from hA)
    have HB2 := Lib.hid (show B = ringB l f x.c (n - k) oo from hA2)
    clear hA hA2
    by_cases hlt : k < n
    · have hk1 : (k : Int) < (n : Int) := by omega
      cases oo with
      | none =>
        have HZ := Lib.hid (HB2.out.trans (ringB_none _))
        have e1 : encp l none = -1 := rfl
        rw [e1]
        have e2 : ¬ ((-1 : Int) = (i : Int)) := by omega
        have e3 : ((-1 : Int) == (i : Int)) = false := by simp
        go_wp2_with fail
        go_ret
        exact ⟨by rw [HZ.out]; rfl, hW⟩
      | some a =>
        have ha := HA.out a rfl
        obtain ⟨j, y, hj, rfl, e1, hjn, -⟩ := cl_at HD.out ha
        rw [e1]
        have hjn : j < n := by rw [HN.out]; exact hjn
        have HJ := Lib.hid hj
        have HB3 := Lib.hid (show B = if y.c = x.c then true else if yc l y.c x.c then false else ringB l f x.c (n - (k + 1)) (f y.c) by
          rw [HB2.out, show n - k = (n - (k + 1)) + 1 by omega]; rfl)
        have hj0 : (0 : Int) ≤ (j : Int) := by omega
        have hj1 : (j : Int) < (n : Int) := by omega
        have e4 : ¬ ((j : Int) = -1) := by omega
        have e5 : ((j : Int) == -1) = false := by simp
        clear ha e1 HB2 hj
        by_cases hyx : y.c = x.c
        · have hji : j = i := HD.out.inj HJ.out HX.out hyx
          subst hji
          have HZ := Lib.hid (HB3.out.trans (if_pos hyx))
          have e6 : ((j : Int) == (j : Int)) = true := by simp
          clear hyx
          go_wp2_with fail
          go_ret
          exact ⟨by rw [HZ.out]; rfl, hW⟩
        · have HB4 := Lib.hid (HB3.out.trans (if_neg hyx))
          have hne : ¬ ((j : Int) = (i : Int)) := fun h => by
            have : j = i := by omega
            subst this
            have h1 := HJ.out; rw [HX.out] at h1; injection h1 with h1; subst h1; exact hyx rfl
          have e6 : ((j : Int) == (i : Int)) = false := by simpa using hne
          have hyc : yc l y.c x.c = yg y x := by unfold yc; rw [HD.out.it (List.mem_of_getElem? HJ.out), HD.out.it (List.mem_of_getElem? HX.out)]
          rw [hyc] at HB4
          obtain ⟨yb, hyb⟩ : ∃ b, b = yg y x := ⟨_, rfl⟩
          have HYC := Lib.hid (fun W => HY.out y x W)
          rw [← hyb] at HB4 HYC
          have HSS : Hid (∀ W, Below wr.heap.size wr W → (W.cell? ⟨b, o + j * 6, none⟩ = some (.int .i64 y.c) ∧ W.cell? ⟨b, o + j * 6 + 1, none⟩ = some (.int .i64 y.b) ∧ W.cell? ⟨b, o + j * 6 + 2, none⟩ = some (.int .i64 y.o) ∧ W.cell? ⟨b, o + j * 6 + 3, none⟩ = some (.bool y.m) ∧ W.cell? ⟨b, o + j * 6 + 4, none⟩ = some (.int .i64 y.r) ∧ W.cell? ⟨b, o + j * 6 + 5, none⟩ = some (.int .i64 y.n)) ∧ (W.cell? ⟨b, o + i * 6, none⟩ = some (.int .i64 x.c) ∧ W.cell? ⟨b, o + i * 6 + 1, none⟩ = some (.int .i64 x.b) ∧ W.cell? ⟨b, o + i * 6 + 2, none⟩ = some (.int .i64 x.o) ∧ W.cell? ⟨b, o + i * 6 + 3, none⟩ = some (.bool x.m) ∧ W.cell? ⟨b, o + i * 6 + 4, none⟩ = some (.int .i64 x.r) ∧ W.cell? ⟨b, o + i * 6 + 5, none⟩ = some (.int .i64 x.n))) := fun W h =>
            ⟨(HR.out.below (hW.trans (h.mono hW.size))).get HJ.out, (HR.out.below (hW.trans (h.mono hW.size))).get HX.out⟩
          have HW := Lib.hid hW
          have HB0 := Lib.hid (Below.refl wr.heap.size wr).drew
          clear hyx hyc hyb HB3 hW
          go_upto_region 6 with fail
          refine wp_region_noPanic ?_
          refine wp_region_held_drew (S := fun wx => (wx.cell? ⟨b, o + j * 6, none⟩ = some (.int .i64 y.c) ∧ wx.cell? ⟨b, o + j * 6 + 1, none⟩ = some (.int .i64 y.b) ∧ wx.cell? ⟨b, o + j * 6 + 2, none⟩ = some (.int .i64 y.o) ∧ wx.cell? ⟨b, o + j * 6 + 3, none⟩ = some (.bool y.m) ∧ wx.cell? ⟨b, o + j * 6 + 4, none⟩ = some (.int .i64 y.r) ∧ wx.cell? ⟨b, o + j * 6 + 5, none⟩ = some (.int .i64 y.n)) ∧ (wx.cell? ⟨b, o + i * 6, none⟩ = some (.int .i64 x.c) ∧ wx.cell? ⟨b, o + i * 6 + 1, none⟩ = some (.int .i64 x.b) ∧ wx.cell? ⟨b, o + i * 6 + 2, none⟩ = some (.int .i64 x.o) ∧ wx.cell? ⟨b, o + i * 6 + 3, none⟩ = some (.bool x.m) ∧ wx.cell? ⟨b, o + i * 6 + 4, none⟩ = some (.int .i64 x.r) ∧ wx.cell? ⟨b, o + i * 6 + 5, none⟩ = some (.int .i64 x.n))) (by kernel_rfl) (by exact HSS.out _ HB0.out) (fun hHeld => ?_)
          refine wpAnyH_take (i := 0) (v := ?v0) rfl (by kernel_rfl) (by kernel_rfl) (by kernel_rfl) (fun _ _ _ h => h) (Or.inl ⟨by kernel_rfl, ?y0⟩) (by assumption) ?r0
          case y0 => (intro wq hSw; (try dsimp only at hSw); go_simp; (try with_reducible rfl))
          (try simp only [Act.put, List.getElem_toArray, List.getElem_cons_zero, List.setIfInBounds_toArray, List.set_cons_zero, List.set_cons_succ])
          refine wpAnyH_take (i := 1) (v := ?v1) rfl (by kernel_rfl) (by kernel_rfl) (by kernel_rfl) (fun _ _ _ h => h) (Or.inl ⟨by kernel_rfl, ?y1⟩) (by assumption) ?r1
          case y1 => (intro wq hSw; (try dsimp only at hSw); go_simp; (try with_reducible rfl))
          (try simp only [Act.put, List.getElem_toArray, List.getElem_cons_succ, List.getElem_cons_zero, List.setIfInBounds_toArray, List.set_cons_zero, List.set_cons_succ])
          refine wpAnyH_take (i := 2) (v := ?v2) rfl (by kernel_rfl) (by kernel_rfl) (by kernel_rfl) (fun _ _ _ h => h) (Or.inl ⟨by kernel_rfl, ?y2⟩) (by assumption) ?r2
          case y2 => (intro wq hSw; (try dsimp only at hSw); go_simp; (try with_reducible rfl))
          (try simp only [Act.put, List.getElem_toArray, List.getElem_cons_succ, List.getElem_cons_zero, List.setIfInBounds_toArray, List.set_cons_zero, List.set_cons_succ])
          refine wpAnyH_take (i := 3) (v := ?v3) rfl (by kernel_rfl) (by kernel_rfl) (by kernel_rfl) (fun _ _ _ h => h) (Or.inl ⟨by kernel_rfl, ?y3⟩) (by assumption) ?r3
          case y3 => (intro wq hSw; (try dsimp only at hSw); go_simp; (try with_reducible rfl))
          (try simp only [Act.put, List.getElem_toArray, List.getElem_cons_succ, List.getElem_cons_zero, List.setIfInBounds_toArray, List.set_cons_zero, List.set_cons_succ])
          refine wpAnyH_take (i := 4) (v := ?v4) rfl (by kernel_rfl) (by kernel_rfl) (by kernel_rfl) (fun _ _ _ h => h) (Or.inl ⟨by kernel_rfl, ?y4⟩) (by assumption) ?r4
          case y4 => (intro wq hSw; (try dsimp only at hSw); go_simp; (try with_reducible rfl))
          (try simp only [Act.put, List.getElem_toArray, List.getElem_cons_succ, List.getElem_cons_zero, List.setIfInBounds_toArray, List.set_cons_zero, List.set_cons_succ])
          refine wpAnyH_take (i := 5) (v := ?v5) rfl (by kernel_rfl) (by kernel_rfl) (by kernel_rfl) (fun _ _ _ h => h) (Or.inl ⟨by kernel_rfl, ?y5⟩) (by assumption) ?r5
          case y5 => (intro wq hSw; (try dsimp only at hSw); go_simp; (try with_reducible rfl))
          (try simp only [Act.put, List.getElem_toArray, List.getElem_cons_succ, List.getElem_cons_zero, List.setIfInBounds_toArray, List.set_cons_zero, List.set_cons_succ])
          refine wpAnyH_take (i := 6) (v := ?v6) rfl (by kernel_rfl) (by kernel_rfl) (by kernel_rfl) (fun _ _ _ h => h) (Or.inl ⟨by kernel_rfl, ?y6⟩) (by assumption) ?r6
          case y6 => (intro wq hSw; (try dsimp only at hSw); go_simp; (try with_reducible rfl))
          (try simp only [Act.put, List.getElem_toArray, List.getElem_cons_succ, List.getElem_cons_zero, List.setIfInBounds_toArray, List.set_cons_zero, List.set_cons_succ])
          refine wpAnyH_take (i := 7) (v := ?v7) rfl (by kernel_rfl) (by kernel_rfl) (by kernel_rfl) (fun _ _ _ h => h) (Or.inl ⟨by kernel_rfl, ?y7⟩) (by assumption) ?r7
          case y7 => (intro wq hSw; (try dsimp only at hSw); go_simp; (try with_reducible rfl))
          (try simp only [Act.put, List.getElem_toArray, List.getElem_cons_succ, List.getElem_cons_zero, List.setIfInBounds_toArray, List.set_cons_zero, List.set_cons_succ])
          refine wpAnyH_ready (rs := [8]) (by kernel_rfl) (by simp) ?_
          refine AllReadyH.cons rfl (fun K hK => ?_) AllReadyH.nil
          go_simp
          refine (HYC.out _).mono ?_
          rintro e w1 ⟨rfl, hb⟩; have HB1 := Lib.hid (HB0.out.trans (hb.mono HB0.out.size)); clear hb
          (try dsimp only)
          refine hK.out _ _ (by exact HSS.out _ HB1.out) (fun hHeld => ?_)
          clear hK K
          (try simp only [Act.put, List.getElem_toArray, List.getElem_cons_succ, List.getElem_cons_zero, List.setIfInBounds_toArray, List.set_cons_zero, List.set_cons_succ])
          refine wpAnyH_done (by kernel_rfl) ?_ _
          refine NoPanic.normal ?_
          have HW1 := Lib.hid (HW.out.trans (HB1.out.mono HW.out.size))
          cases yb
          · have HB5 := Lib.hid (show B = ringB l f x.c (n - (k + 1)) (f y.c) from HB4.out)
            have c1 := (HQ.out.next HW1.out).at_ (arrI_at (ofL_at HJ.out))
            have HA3 : Hid (∀ a, f y.c = some a → a ∈ cl l) := fun a ha => HF.out y.c a ha
            obtain ⟨o1, ho1⟩ : ∃ o1, o1 = f y.c := ⟨_, rfl⟩
            rw [← ho1] at HB5 c1 HA3
            clear ho1 HB4 hHeld HSS
            go_wp2_with fail
            go_roundw
            case rel => exact ⟨k + 1, o1, by omega, rfl, by go_num, HW1.out, HA3.out, HB5.out⟩
            case measure => simp [intOf]; omega
          · have HZ := Lib.hid (show B = false from HB4.out)
            clear HB4 hHeld HSS
            go_wp2_with fail
            go_ret
            exact ⟨by rw [HZ.out]; rfl, HW1.out⟩
    · have HZ := Lib.hid (show B = false by rw [HB2.out, show n - k = 0 by omega]; rfl)
      go_wp2_with fail
      go_ret
      exact ⟨by rw [HZ.out]; rfl, hW⟩
theorem made_eq (z : Value) (n : Nat) : madeCells #[z] n = (List.replicate n z).toArray := by
  apply Array.ext_getElem?
  intro i
  unfold madeCells
  simp
  by_cases h : i < n <;> simp [h, Nat.mod_one]
theorem intInfo : (Try.prog.info? 3).map (fun i => (i.zero, i.size, i.bytes)) = some (some (.int .i64 0), 1, 8) := by kernel_rfl
theorem make_c (n : Nat) (hn : n ≤ 128) (W : World) : (Instr.makeSlice 27 (.int .i64 (n : Int)) (.int .i64 (n : Int))).run Try.prog W = .ok (.slice (some ⟨W.heap.size, 0, none⟩) n n) (W.alloc (.cells (arrI (List.replicate n 0)) 3)) := by
  have h := run_make_row' (P := Try.prog) 27 3 (.int .i64 0) 8 Try.underlying27 intInfo rfl .i64 .i64 n (by omega) (by omega) W
  rw [made_eq] at h
  rw [h]
  unfold arrI
  simp
theorem MapP.far {w : World} {b n : Nat} {f : Int → Option Int} (h : MapP w b f n) {p : Addr} (hp : b ≠ p.block) (v : Value) : MapP (w.setCell p v) b f n := h.same (Below.heap_setCell w p v b hp)
/-- Owners, those of the first k cut. -/
def fk (l : List It) (k : Nat) (c : Int) : Option Int := if (cl l).idxOf c < k ∧ cutB l c = true then none else nx l c
theorem fk_zero (l : List It) : fk l 0 = nx l := by funext c; unfold fk; rw [if_neg (by omega)]
theorem fk_cl {l : List It} {k : Nat} : ∀ c d, fk l k c = some d → d ∈ cl l := fun c d h => by
  unfold fk at h
  split at h
  · cases h
  · exact nx_cl c d h
theorem fk_cut {l : List It} (hd : Dis l) {k : Nat} {x : It} (hx : l[k]? = some x) : ringB l (fk l k) x.c l.length (fk l k x.c) = cutB l x.c := by
  refine cut_some hd (List.mem_map.2 ⟨x, List.mem_of_getElem? hx, rfl⟩) fun d => ?_
  unfold fk
  split
  · rename_i h
    exact .inr ⟨rfl, h.2, fun e => by rw [e, idx_at hd hx] at h; omega⟩
  · exact .inl rfl
theorem fk_end {l : List It} (hd : Dis l) : ofL l (fk l l.length) = ofL l (ow l) := by
  unfold ofL
  refine List.map_congr_left fun t ht => ?_
  obtain ⟨j, hj⟩ := List.getElem?_of_mem ht
  have := (List.getElem?_eq_some_iff.1 hj).1
  unfold fk ow
  rw [idx_at hd hj]
  by_cases hc : cutB l t.c = true
  · rw [if_pos ⟨this, hc⟩, if_pos hc]
  · rw [if_neg (fun h => hc h.2), if_neg hc]
theorem fk_next {l : List It} (hd : Dis l) {k : Nat} {x : It} (hx : l[k]? = some x) : ofL l (fk l (k + 1)) = if cutB l x.c = true then (ofL l (fk l k)).set k (-1) else ofL l (fk l k) := by
  apply List.ext_getElem?
  intro j
  have hk := (List.getElem?_eq_some_iff.1 hx).1
  cases hj : l[j]? with
  | none =>
    have hlj : l.length ≤ j := by simpa using hj
    rw [List.getElem?_eq_none (by rw [ofL_len]; exact hlj)]
    split
    · rw [List.getElem?_eq_none (by rw [List.length_set, ofL_len]; exact hlj)]
    · rw [List.getElem?_eq_none (by rw [ofL_len]; exact hlj)]
  | some y =>
    rw [ofL_at hj]
    by_cases hjk : j = k
    · subst hjk
      rw [hx] at hj; injection hj with hj; subst hj
      by_cases hc : cutB l x.c = true
      · rw [if_pos hc, List.getElem?_set_self (by rw [ofL_len]; exact hk)]
        have : fk l (j + 1) x.c = none := by unfold fk; rw [if_pos ⟨by rw [idx_at hd hx]; omega, hc⟩]
        rw [this]; rfl
      · rw [if_neg hc, ofL_at hx]
        unfold fk
        rw [if_neg (fun h => hc h.2), if_neg (fun h => hc h.2)]
    · have e : fk l (k + 1) y.c = fk l k y.c := by
        unfold fk
        rw [idx_at hd hj]
        by_cases hc : cutB l y.c = true
        · by_cases h1 : j < k
          · rw [if_pos ⟨by omega, hc⟩, if_pos ⟨h1, hc⟩]
          · rw [if_neg (fun h => by omega), if_neg (fun h => h1 h.1)]
        · rw [if_neg (fun h => hc h.2), if_neg (fun h => hc h.2)]
      rw [e]
      split
      · rw [List.getElem?_set_ne (fun h => hjk h.symm), ofL_at hj]
      · rw [ofL_at hj]
theorem of_all {l : List It} {zs : List Int} (hn : zs.length = l.length) (h : ∀ (j : Nat) (x : It), l[j]? = some x → zs[j]? = some (encp l (nx l x.c))) : zs = ofL l (nx l) := by
  apply List.ext_getElem?
  intro j
  cases hj : l[j]? with
  | none =>
    have hlj : l.length ≤ j := by simpa using hj
    rw [List.getElem?_eq_none (by omega), List.getElem?_eq_none (by rw [ofL_len]; exact hlj)]
  | some y => rw [h j y hj, ofL_at hj]
/-- What the map tells of a thing's owner. -/
theorem pls_own {l : List It} {f : Int → Option Int} {n : Nat} (hd : Dis l) (h : Pls l l.length f n) {k : Nat} {x : It} (hx : l[k]? = some x) :
    (f x.o = none ∧ nx l x.c = none) ∨ (∃ j : Nat, f x.o = some (j : Int) ∧ j < l.length ∧ ((j = k ∧ nx l x.c = none) ∨ (j ≠ k ∧ encp l (nx l x.c) = (j : Int)))) := by
  obtain ⟨-, -, h3, h4⟩ := h
  rw [List.take_length] at h3 h4
  have hxm : x ∈ l := List.mem_of_getElem? hx
  have hnx : nx l x.c = if x.o = x.c then none else if x.o ∈ cl l then some x.o else none := by unfold nx; rw [hd.lk hxm]
  by_cases ho : x.o ∈ cl l
  · obtain ⟨j, y, hj, hyo, e1, hjn, e2⟩ := cl_at hd ho
    refine .inr ⟨j, by rw [← hyo]; exact h4 j y hd hjn hj, hjn, ?_⟩
    by_cases hjk : j = k
    · subst hjk
      rw [hx] at hj; injection hj with hj; subst hj
      exact .inl ⟨rfl, by rw [hnx, if_pos hyo.symm]⟩
    · refine .inr ⟨hjk, ?_⟩
      rw [hnx, if_neg (fun h => hjk (hd.inj hj hx (hyo.trans h))), if_pos ho]
      exact e1
  · refine .inl ⟨?_, ?_⟩
    · cases e : f x.o with
      | none => rfl
      | some z => exact absurd ((h3 x.o).1 (by rw [e]; rfl)) ho
    · rw [hnx]; simp [ho]
end Go.Proofs.Ytgioeijdgoogkaa.Od
