/- The laws of atoms: awake, and those of one text. -/
import Derived.Test.YthppjmhocmppfaaDoorAtI
import Derived.Test.YthppjmhocmppfaaDoorAtK
import Derived.Test.YthppjmhocmppfaaDoorAtG
import Derived.Test.YthppjmhocmppfaaDoorPrD
import Derived.Test.YthppjmhocmppfaaDoorPrQ
namespace Go.Proofs.YthppjmhocmppfaaDoor
open Go.RowKit Go.Maps Go.Shelf Go.Sort Go.Lib
namespace At
theorem NL_data {xs : List Int} (h : ∀ y ∈ xs, -2147483648 ≤ y ∧ y ≤ 2147483647) : NL (strOfNums (dataL xs)) = xs := by
  unfold NL
  rw [if_pos (by rw [strOfNums_size, dataL_len]; omega)]
  exact nums_data fun y hy => ⟨(h y hy).1, by have := (h y hy).2; omega⟩
theorem data_size (xs : List Int) : (strOfNums (dataL xs)).size = 4 * xs.length := by rw [strOfNums_size, dataL_len]
theorem rd_blk {W : World} {g n : Nat} {zs : List Int} (h : Blk W g 3 (ints zs).toArray) (hn : zs.length = n) : Rd W (.slice (some ⟨g, 0, none⟩) n n) (ints zs) := by
  subst hn
  exact ⟨some ⟨g, 0, none⟩, zs.length, by rw [List.length_map], fun j u hu => ⟨g, 0, rfl, h.lt, by rw [Nat.zero_add]; exact h.at_ (by simpa using hu)⟩⟩
theorem rd_two (W : World) : Rd (W.alloc (.cells #[.string ⟨#[97, 98, 111, 118, 101]⟩, .string ⟨#[109, 111, 100, 97, 108]⟩] 9)) (.slice (some ⟨W.heap.size, 0, none⟩) 2 2) (strs ([kAbove, kModal].map txt)) :=
  blk_rd (L := [kAbove, kModal]) (Blk.new W 9 #[.string ⟨#[97, 98, 111, 118, 101]⟩, .string ⟨#[109, 111, 100, 97, 108]⟩])
theorem awake_st : statesL (wordsL ⟨#[109, 111, 100, 97, 108, 0, 97, 98, 111, 118, 101, 0, 120, 0, 109, 111, 100, 97, 108, 0]⟩) = [kAbove, kModal] := by decide +kernel
set_option maxRecDepth 100000 in
set_option maxHeartbeats 2000000 in
theorem awake_c (w : World) (hm : MaxL w) : Calls Tryd.prog 12 #[] w fun e w' => e = .returned (.bool true) ∧ Below w.heap.size w w' := by
  obtain ⟨sD, hsD⟩ : ∃ s, strOfNums (dataL [0, 0, 20, 0]) = s := ⟨_, rfl⟩
  have hnl : NL sD = [0, 0, 20, 0] := by
    rw [← hsD]
    refine NL_data fun y hy => ?_
    simp at hy
    omega
  have hdz : sD.size ≤ 1048576 := by rw [← hsD, data_size]; decide
  have HDa := Lib.hid (fun (va : Value) (W : World) (h : Rd W va (ints [0, 0, 20, 0])) => data_c va [0, 0, 20, 0] W h (by decide))
  rw [hsD] at HDa
  have HSt := Lib.hid (fun W : World => strut_c sD W hdz)
  rw [hnl, show strL [0, 0, 20, 0] = .agg #[.string ⟨#[]⟩, .int .i64 0, .int .i64 0, .int .i64 20, .int .i64 0] from rfl, show strOk [0, 0, 20, 0] = true from rfl] at HSt
  have HS := Lib.hid (fun (W : World) (h : MaxL W) => states_c ⟨#[109, 111, 100, 97, 108, 0, 97, 98, 111, 118, 101, 0, 120, 0, 109, 111, 100, 97, 108, 0]⟩ W (by decide) h)
  rw [awake_st] at HS
  have HT := Lib.hid (fun W : World => title_c ⟨#[97, 10]⟩ W (by decide))
  rw [show txt (titleL (⟨#[97, 10]⟩ : ByteArray).data.toList) = ⟨#[97, 63]⟩ from rfl] at HT
  have HX := Lib.hid (fun (va vb : Value) (W : World) (ha : Rd W va (strs ([kAbove, kModal].map txt))) (hb : Rd W vb (strs ([kAbove, kModal].map txt))) => (show Calls Tryd.prog 15 #[va, vb] W fun e w' => e = .returned (.bool true) ∧ Below W.heap.size W w' from by
    have h := texts_c va vb _ _ W ha hb (by decide) (by decide)
    simpa using h))
  have HM := Lib.hid hm
  clear hm hsD hnl hdz
  have W0 : Below w.heap.size w (w.alloc (.cells #[.int .i64 0, .int .i64 0, .int .i64 20, .int .i64 0] 3)) := (Below.refl _ _).alloc (Nat.le_refl _) _
  have hR0 : Rd (w.alloc (.cells #[.int .i64 0, .int .i64 0, .int .i64 20, .int .i64 0] 3)) (.slice (some ⟨w.heap.size, 0, none⟩) 4 4) (ints [0, 0, 20, 0]) := rd_blk (zs := [0, 0, 20, 0]) (Blk.new w 3 #[.int .i64 0, .int .i64 0, .int .i64 20, .int .i64 0]) rfl
  go_enter Tryd.func12, Tryd.ntmps12
  go_upto_region 2 with (first
    | (go_at_call 26; ((with_reducible refine (HDa.out _ _ hR0).mono ?_); rintro e w1 ⟨rfl, hb1⟩); skip)
    | (go_at_call 22; ((with_reducible refine (HSt.out _).mono ?_); rintro e w2 ⟨rfl, hb2⟩); skip))
  have W2 := hb2.on (hb1.on W0 W0.size) (hb1.on W0 W0.size).size
  have T3 : TB (w2.alloc (.cells (stC 0 0 20 0) 34)) w2.heap.size 0 0 20 0 := Blk.new _ _ _
  have W3 : Below w.heap.size w (w2.alloc (.cells (stC 0 0 20 0) 34)) := W2.alloc W2.size _
  clear W2 hb1 hb2 W0
  generalize w2.alloc (.cells (stC 0 0 20 0) 34) = w3 at *
  generalize w2.heap.size = g at *
  have HT3 := Lib.hid T3
  have HW3 := Lib.hid W3
  clear T3 W3
  go_wp2_with (first
    | (go_at_call 16; go_loud ((with_reducible refine (HS.out _ (HM.out.next HW3.out)).mono ?_); rintro e w4 ⟨v4, rfl, hr4, hb4⟩; have HR4 := Lib.hid hr4.rd; have HT4 := Lib.hid (HT3.out.next hb4); have HW4 := Lib.hid (hb4.on HW3.out HW3.out.size); clear hr4 hb4))
    | (go_at_call 15; go_loud ((with_reducible refine (HX.out _ _ _ (HR4.out.next ((Below.refl _ _).alloc (Nat.le_refl _) _)) (rd_two w4)).mono ?_); rintro e w5 ⟨rfl, hb5⟩; have HT5 := Lib.hid ((HT4.out.next ((Below.refl _ _).alloc (Nat.le_refl _) _)).next hb5); have HW5 := Lib.hid (hb5.on (HW4.out.alloc HW4.out.size _) (HW4.out.alloc HW4.out.size _).size); clear hb5))
    | (go_at_call 24; go_loud ((with_reducible refine (HT.out _).mono ?_); rintro e w6 ⟨rfl, hb6⟩; have HT6 := Lib.hid (HT5.out.next hb6); have HW6 := Lib.hid (hb6.on HW5.out HW5.out.size); obtain ⟨⟨k0, k1, k2, k3, k4⟩, -⟩ := HT6.out.out; clear hb6)))
  go_ret
  exact ⟨rfl, HW6.out⟩
end At
end Go.Proofs.YthppjmhocmppfaaDoor
