/- Arguments opened: rows of things. -/
import Derived.Test.YtgioeijdgoogkaaOdU
import Derived.Test.YtgioeijdgoogkaaOpen
import Derived.Deep.Slices
import Derived.Deep.Fields
import Derived.ChangeMaps5
namespace Go.Proofs.Ytgioeijdgoogkaa.Od
open Go.RowKit Go.WideShapes Go.ChangeShapes Go.ChangeAt Go.Deep
set_option linter.unusedVariables false
theorem cs_int : Try.prog.cellsOf 3 = 1 := by kernel_rfl
theorem cs_bool : Try.prog.cellsOf 4 = 1 := by kernel_rfl
theorem cs_item : Try.prog.cellsOf 38 = 6 := by kernel_rfl
theorem list_of {α : Type} {P : Nat → α → Prop} (n : Nat) (h : ∀ i, i < n → ∃ t, P i t) : ∃ l : List α, l.length = n ∧ ∀ (i : Nat) (t : α), l[i]? = some t → P i t := by
  induction n with
  | zero => exact ⟨[], rfl, fun i t ht => by simp at ht⟩
  | succ n ih =>
    obtain ⟨l, hl, hp⟩ := ih (fun i hi => h i (by omega))
    obtain ⟨t, ht⟩ := h n (by omega)
    refine ⟨l ++ [t], by simp [hl], fun i u hu => ?_⟩
    by_cases hi : i < n
    · rw [List.getElem?_append_left (by omega)] at hu
      exact hp i u hu
    · have hi' := (List.getElem?_eq_some_iff.1 hu).1
      simp at hi'
      have : i = n := by omega
      subst this
      rw [List.getElem?_append_right (by omega), hl] at hu
      simp at hu
      subst hu
      exact ht
theorem cell_spot {w : World} {a : Addr} {u : Value} (h : w.cell? a = some u) : a = ⟨a.block, a.off, none⟩ := by
  obtain ⟨b, o, s⟩ := a
  have : s = none := World.cell?_spot h
  subst this; rfl
section
variable {H : Type} {enc : TypeId × Value → H} {w : World} {fuel : Nat} {x : DataW H × List MemPlace}
set_option maxRecDepth 100000 in
theorem open_item {c0 c1 c2 c3 c4 c5 : Value} (h : DataW.trod enc Try.prog w 0 (fun _ => true) true fuel 38 [c0, c1, c2, c3, c4, c5] = some x) : ∃ t : It, [c0, c1, c2, c3, c4, c5] = encT t ∧ I64 t.c ∧ I64 t.o := by
  obtain ⟨xs, n, _, hx, _, hlen, hg⟩ := DataW.trod_struct Try.underlying38 h
  obtain ⟨y0, e0⟩ : ∃ y, xs[0]? = some y := ⟨_, List.getElem?_eq_getElem (by rw [hlen]; decide)⟩
  have k0 : DataW.trod enc Try.prog w 0 (fun _ => true) true n 3 [c0] = some y0 := by
    have h := (hg 0 _ rfl).trans e0
    simpa [cs_int, cs_bool] using h
  obtain ⟨y1, e1⟩ : ∃ y, xs[1]? = some y := ⟨_, List.getElem?_eq_getElem (by rw [hlen]; decide)⟩
  have k1 : DataW.trod enc Try.prog w 0 (fun _ => true) true n 3 [c1] = some y1 := by
    have h := (hg 1 _ rfl).trans e1
    simpa [cs_int, cs_bool] using h
  obtain ⟨y2, e2⟩ : ∃ y, xs[2]? = some y := ⟨_, List.getElem?_eq_getElem (by rw [hlen]; decide)⟩
  have k2 : DataW.trod enc Try.prog w 0 (fun _ => true) true n 3 [c2] = some y2 := by
    have h := (hg 2 _ rfl).trans e2
    simpa [cs_int, cs_bool] using h
  obtain ⟨y3, e3⟩ : ∃ y, xs[3]? = some y := ⟨_, List.getElem?_eq_getElem (by rw [hlen]; decide)⟩
  have k3 : DataW.trod enc Try.prog w 0 (fun _ => true) true n 4 [c3] = some y3 := by
    have h := (hg 3 _ rfl).trans e3
    simpa [cs_int, cs_bool] using h
  obtain ⟨y4, e4⟩ : ∃ y, xs[4]? = some y := ⟨_, List.getElem?_eq_getElem (by rw [hlen]; decide)⟩
  have k4 : DataW.trod enc Try.prog w 0 (fun _ => true) true n 3 [c4] = some y4 := by
    have h := (hg 4 _ rfl).trans e4
    simpa [cs_int, cs_bool] using h
  obtain ⟨y5, e5⟩ : ∃ y, xs[5]? = some y := ⟨_, List.getElem?_eq_getElem (by rw [hlen]; decide)⟩
  have k5 : DataW.trod enc Try.prog w 0 (fun _ => true) true n 3 [c5] = some y5 := by
    have h := (hg 5 _ rfl).trans e5
    simpa [cs_int, cs_bool] using h
  obtain ⟨z0, q0, _, w0⟩ := DataW.trod_int Try.underlying3 k0
  simp only [List.cons.injEq, and_true] at q0
  obtain ⟨z1, q1, _, w1⟩ := DataW.trod_int Try.underlying3 k1
  simp only [List.cons.injEq, and_true] at q1
  obtain ⟨z2, q2, _, w2⟩ := DataW.trod_int Try.underlying3 k2
  simp only [List.cons.injEq, and_true] at q2
  obtain ⟨z3, q3, _⟩ := DataW.trod_bool Try.underlying4 k3
  simp only [List.cons.injEq, and_true] at q3
  obtain ⟨z4, q4, _, w4⟩ := DataW.trod_int Try.underlying3 k4
  simp only [List.cons.injEq, and_true] at q4
  obtain ⟨z5, q5, _, w5⟩ := DataW.trod_int Try.underlying3 k5
  simp only [List.cons.injEq, and_true] at q5
  exact ⟨⟨z0, z1, z2, z3, z4, z5⟩, by rw [q0, q1, q2, q3, q4, q5]; rfl, i64_of w0, i64_of w2⟩
end
section
variable {H : Type} {enc : TypeId × Value → H} {w : World}
set_option maxRecDepth 100000 in
theorem items_of {b0 : Nat} {v : Value} {d : DataW H} {q : List MemPlace} (hv : Value.okWide Try.prog w .any b0 22 v) (h : DataW.Trod enc Try.prog w 0 (fun _ => true) true 22 v d q) :
    ∃ l : List It, RdT w v l ∧ l.length ≤ 9223372036854775807 ∧ OkI l ∧ ∀ (p : Option Addr) (n c : Nat), v = .slice p n c → n ≤ c := by
  obtain ⟨a0, len, cap, rfl⟩ := okWide_slice Try.underlying22 hv
  obtain ⟨fuel, hf⟩ := h
  rcases open_slice Try.underlying22 hf with ⟨hcs, _⟩ | ⟨a, len', cap', m, n, D, Pl, hcs, _, hl, hm, hmm, _, hi⟩
  · simp only [Value.cells, List.cons.injEq, Value.slice.injEq, and_true] at hcs
    obtain ⟨rfl, rfl, rfl⟩ := hcs
    exact ⟨[], ⟨none, 0, rfl, fun j t ht => by simp at ht⟩, by simp, fun j t ht => by simp at ht, by rintro p n c ⟨⟩; exact Nat.le_refl _⟩
  · simp only [Value.cells, List.cons.injEq, Value.slice.injEq, and_true] at hcs
    obtain ⟨rfl, rfl, rfl⟩ := hcs
    simp only [if_true] at hmm
    subst hmm
    have hel : ∀ i, i < len → ∃ t : It, (∀ (k : Nat) (u : Value), (encT t)[k]? = some u → w.cell? (a.add (i * 6 + k)) = some u) ∧ I64 t.c ∧ I64 t.o := by
      intro i hlt
      obtain ⟨cs', hc, ht⟩ := hi i (by omega)
      rw [cs_item] at hc
      obtain ⟨_, hlen, hat⟩ := World.cells?_some hc
      match cs', hlen with
      | [c0, c1, c2, c3, c4, c5], _ =>
        obtain ⟨t, h1, h2⟩ := open_item ht
        refine ⟨t, fun k u hu => ?_, h2⟩
        have hk : k < 6 := by have := (List.getElem?_eq_some_iff.1 hu).1; simpa [encT] using this
        have := hat k hk
        rw [← Go.Deep.add_add, this, h1]
        exact hu
    obtain ⟨ts, hts, hp⟩ := list_of len hel
    refine ⟨ts, ⟨some a, m, by rw [hts], fun j t ht => ?_⟩, by rw [hts]; unfold maxLen at hm; omega, fun j t ht => (hp j t ht).2, by rintro p n c ⟨⟩; omega⟩
    obtain ⟨h1, h3⟩ := hp j t ht
    have h0 : 0 < ts.length := by have := (List.getElem?_eq_some_iff.1 ht).1; omega
    obtain ⟨k1, _⟩ := hp 0 _ (List.getElem?_eq_getElem h0)
    have h10 := k1 0 _ rfl
    rw [show 0 * 6 + 0 = 0 from rfl, show a.add 0 = a by unfold Addr.add; simp] at h10
    have e : a = ⟨a.block, a.off, none⟩ := cell_spot h10
    refine ⟨a.block, a.off, by rw [← e], block_of_cell h10, fun k u hu => ?_⟩
    have := h1 k u hu
    rw [e, Addr.add_lit] at this
    rw [← this, Nat.add_assoc]
end
section
open Go.Shelf
/-! ### OrderOwners, OrderTells -/
theorem OwnR.le {l : List It} {zs : List Int} (h : OwnR l zs) : zs.length ≤ 128 := by
  obtain ⟨z, h1, ⟨h2, rfl⟩ | ⟨h2, rfl⟩⟩ := h
  · simp
  · rw [List.length_map]; exact (h1.good h2).1
theorem BdsR.le {l : List It} {zs : List Int} (h : BdsR l zs) : zs.length ≤ 128 := by
  obtain ⟨z, h1, ⟨h2, rfl⟩ | ⟨h2, rfl⟩⟩ := h
  · simp
  · rw [List.length_map]; exact (h1.good h2).1
theorem OrdR.le {l : List It} {zs : List Int} {z : Int} (h : OrdR l zs z) : zs.length ≤ 128 := by
  obtain ⟨h1, ⟨h2, rfl⟩ | ⟨h2, h3⟩⟩ := h
  · simp
  · rw [h3.1]; exact (h1.good h2).1
set_option maxHeartbeats 1000000 in
set_option maxRecDepth 100000 in
theorem owners_w (v0 : Value) (l : List It) (w : World) (hR : RdT w v0 l) (hn : l.length ≤ 9223372036854775807) (hs : OkI l) (hcap : ∀ (p : Option Addr) (n c : Nat), v0 = .slice p n c → n ≤ c) :
    Calls Try.prog 3 #[v0] w fun e w' => e = .returned (.bool true) ∧ Below w.heap.size w w' := by
  have HK1 := Lib.hid (Check_c v0 l w hR fun j t h => (hs j t h).1)
  have HK2 := Lib.hid (fun (W : World) (h : Below w.heap.size w W) => rcheck_c v0 l W (hR.below h))
  have HO1 := Lib.hid (fun (W : World) (h : Below w.heap.size w W) => Owners_c v0 l W (hR.below h) hs)
  have HO2 := Lib.hid (fun (W : World) (h : Below w.heap.size w W) => rowners_c v0 l W (hR.below h))
  have HB1 := Lib.hid (fun (W : World) (h : Below w.heap.size w W) => Bands_c v0 l W (hR.below h) hs)
  have HB2 := Lib.hid (fun (W : World) (h : Below w.heap.size w W) => rbands_c v0 l W (hR.below h))
  have HIN := Lib.hid (fun v1 v2 xs W h1 h2 h3 => ints_t v1 v2 xs W h1 h2 h3)
  have HAW := Lib.hid (fun W => awake_c W)
  clear hR hs hcap
  go_enter Try.func3, Try.ntmps3
  go_wp2_with fail
  refine HK1.out.mono ?_
  rintro e w1 ⟨z, rfl, hz, hb⟩
  have HW1 := Lib.hid hb
  have HC2 := Lib.hid (HK2.out w1 hb)
  have HZ := Lib.hid hz
  clear hb hz
  go_wp2_with fail
  refine HC2.out.mono ?_
  rintro e w2 ⟨z2, rfl, hz2, rfl⟩
  obtain rfl := HZ.out.one hz2
  have e1 : (z == z) = true := by simp
  have HC3 := Lib.hid (HO1.out w2 HW1.out)
  clear hz2 HC2
  go_wp2_with fail
  refine HC3.out.mono ?_
  rintro e w3 ⟨v3, zs3, rfl, hr3, ho3, hb⟩
  have HW3 := Lib.hid (HW1.out.trans (hb.mono HW1.out.size))
  have HR3 := Lib.hid hr3
  have HS3 := Lib.hid ho3
  have HC4 := Lib.hid (HO2.out w3 HW3.out)
  clear hb hr3 ho3 HC3
  go_wp2_with fail
  refine HC4.out.mono ?_
  rintro e w4 ⟨v4, zs4, rfl, hr4, ho4, hb⟩
  obtain rfl := HS3.out.one ho4
  have HW4 := Lib.hid (HW3.out.trans (hb.mono HW3.out.size))
  have HC5 := Lib.hid (HIN.out v3 v4 zs3 w4 (HR3.out.below hb) hr4 (by have := HS3.out.le; omega))
  clear hb hr4 ho4 HC4
  go_wp2_with fail
  refine HC5.out.mono ?_
  rintro e w5 ⟨rfl, hb⟩
  have HW5 := Lib.hid (HW4.out.trans (hb.mono HW4.out.size))
  have HC6 := Lib.hid (HB1.out w5 HW5.out)
  clear hb HC5
  go_wp2_with fail
  refine HC6.out.mono ?_
  rintro e w6 ⟨v6, zs6, rfl, hr6, ho6, hb⟩
  have HW6 := Lib.hid (HW5.out.trans (hb.mono HW5.out.size))
  have HR6 := Lib.hid hr6
  have HS6 := Lib.hid ho6
  have HC7 := Lib.hid (HB2.out w6 HW6.out)
  clear hb hr6 ho6 HC6
  go_wp2_with fail
  refine HC7.out.mono ?_
  rintro e w7 ⟨v7, zs7, rfl, hr7, ho7, hb⟩
  obtain rfl := HS6.out.one ho7
  have HW7 := Lib.hid (HW6.out.trans (hb.mono HW6.out.size))
  have HC8 := Lib.hid (HIN.out v6 v7 zs6 w7 (HR6.out.below hb) hr7 (by have := HS6.out.le; omega))
  clear hb hr7 ho7 HC7
  go_wp2_with fail
  refine HC8.out.mono ?_
  rintro e w8 ⟨rfl, hb⟩
  have HW8 := Lib.hid (HW7.out.trans (hb.mono HW7.out.size))
  clear hb HC8
  go_wp2_with fail
  refine (HAW.out w8).mono ?_
  rintro e w9 ⟨rfl, hb⟩
  have HW9 := Lib.hid (HW8.out.trans (hb.mono HW8.out.size))
  clear hb
  go_wp2_with fail
  go_ret
  exact ⟨rfl, HW9.out⟩
set_option maxHeartbeats 1000000 in
set_option maxRecDepth 100000 in
theorem tells_w (v0 : Value) (l : List It) (w : World) (hR : RdT w v0 l) (hn : l.length ≤ 9223372036854775807) (hs : OkI l) (hcap : ∀ (p : Option Addr) (n c : Nat), v0 = .slice p n c → n ≤ c) :
    Calls Try.prog 4 #[v0] w fun e w' => e = .returned (.bool true) ∧ Below w.heap.size w w' := by
  have HO1 := Lib.hid (Order_c v0 l w hR hs)
  have HO2 := Lib.hid (fun (W : World) (h : Below w.heap.size w W) => rorder_c v0 l W (hR.below h))
  have HIN := Lib.hid (fun v1 v2 xs W h1 h2 h3 => ints_t v1 v2 xs W h1 h2 h3)
  have HAW := Lib.hid (fun W => awake_c W)
  clear hR hs hcap
  go_enter Try.func4, Try.ntmps4
  go_wp2_with fail
  refine HO1.out.mono ?_
  rintro e w1 ⟨v1, zs1, z1, rfl, hr1, ho1, hb⟩
  have HW1 := Lib.hid hb
  have HR1 := Lib.hid hr1
  have HS1 := Lib.hid ho1
  have HC2 := Lib.hid (HO2.out w1 hb)
  clear hb hr1 ho1
  go_wp2_with fail
  refine HC2.out.mono ?_
  rintro e w2 ⟨v2, zs2, z2, rfl, hr2, ho2, hb⟩
  obtain ⟨rfl, rfl⟩ := HS1.out.one ho2
  have e1 : (z1 == z1) = true := by simp
  have HW2 := Lib.hid (HW1.out.trans (hb.mono HW1.out.size))
  have HC3 := Lib.hid (HIN.out v1 v2 zs1 w2 (HR1.out.below hb) hr2 (by have := HS1.out.le; omega))
  clear hb hr2 ho2 HC2
  go_wp2_with fail
  refine HC3.out.mono ?_
  rintro e w3 ⟨rfl, hb⟩
  have HW3 := Lib.hid (HW2.out.trans (hb.mono HW2.out.size))
  clear hb HC3
  go_wp2_with fail
  refine (HAW.out w3).mono ?_
  rintro e w4 ⟨rfl, hb⟩
  have HW4 := Lib.hid (HW3.out.trans (hb.mono HW3.out.size))
  clear hb
  go_wp2_with fail
  go_ret
  exact ⟨rfl, HW4.out⟩
end
end Go.Proofs.Ytgioeijdgoogkaa.Od
