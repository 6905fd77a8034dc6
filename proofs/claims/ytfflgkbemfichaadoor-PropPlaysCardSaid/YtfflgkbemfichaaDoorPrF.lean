/- awake, walked. -/
import Derived.Test.YtfflgkbemfichaaDoorPrE
import Derived.Test.YtfflgkbemfichaaDoorPrD
namespace Go.Proofs.YtfflgkbemfichaaDoor
open Go.RowKit Go.Maps
def abc : Pr := ⟨⟨#[65]⟩, ⟨#[66]⟩, ⟨#[99]⟩⟩
theorem lit_rd (w : World) (T : TypeId) (cs : List Value) (n : Nat) (hn : cs.length = n) : Rd (w.alloc (.cells cs.toArray T)) (.slice (some ⟨w.heap.size, 0, none⟩) n n) cs :=
  ⟨_, n, by rw [hn], fun j u hu => ⟨w.heap.size, 0, rfl, by simp, by rw [Nat.zero_add]; exact (Blk.new w T cs.toArray).at_ (by simpa using hu)⟩⟩
set_option maxRecDepth 100000 in
set_option maxHeartbeats 4000000 in
theorem awake_c (w : World) (hm : MaxL w) : Calls Tryd.prog 23 #[] w fun e w' => e = .returned (.bool true) ∧ Below w.heap.size w w' := by
  have HNW := Lib.hid (new_c w)
  have HM := Lib.hid hm
  have HSET := Lib.hid (fun (W : World) (t bm : Nat) (h : TabH W t bm (fun _ => none) 0 (fun _ _ => none) (fun _ => 0)) => (show Calls Tryd.prog 11 #[tabP t, .int .i64 1, .agg #[.string ⟨#[65]⟩, .string ⟨#[66]⟩, .string ⟨#[99]⟩]] W fun e w' => SetR W t bm (fun _ => none) 0 (fun _ _ => none) (fun _ => 0) 1 abc e w' from set_first h (i := 1) (by unfold I64; omega) rfl (by decide) abc (by decide +kernel) (by decide +kernel) (by decide +kernel)))
  have HGET := Lib.hid (fun (W : World) (t bm b : Nat) (h : TabH W t bm (upI (fun _ => none) 1 (some b)) 1 (upI (fun _ _ => none) 1 (upS (fun _ => none) ⟨#[65]⟩ (some abc))) (upI (fun _ => 0) 1 1)) => (show Calls Tryd.prog 16 #[tabP t, .int .i64 1, .string ⟨#[65]⟩] W fun e w' => e = .returned (.tuple #[.agg #[.string ⟨#[65]⟩, .string ⟨#[66]⟩, .string ⟨#[99]⟩], .bool true]) ∧ Below W.heap.size W w' from by
    have e1 : (upI (fun _ _ => none) 1 (upS (fun _ => none) ⟨#[65]⟩ (some abc)) : Int → ByteArray → Option Pr) 1 ⟨#[65]⟩ = some abc := by rw [upI_same, upS_same]
    have hg := get_c h (i := 1) (by unfold I64; omega) (s := ⟨#[65]⟩) (by unfold maxLen; decide) (by rw [e1]; decide +kernel)
    rw [e1] at hg
    exact hg))
  have HNU := Lib.hid (fun W => (show Calls Tryd.prog 24 #[.string ⟨#[255, 255, 255, 255]⟩] W fun e w' => ∃ v, e = .returned (.tuple #[v, .bool true]) ∧ Rd w' v (ints [-1]) ∧ Below W.heap.size W w' from by
    have h := numbers_yes ⟨#[255, 255, 255, 255]⟩ W (by decide) (by decide)
    rw [show numsL ⟨#[255, 255, 255, 255]⟩ = [-1] by decide +kernel] at h
    exact h))
  have HW1 := Lib.hid (fun W (h : MaxL W) => (show Calls Tryd.prog 29 #[.string ⟨#[97, 0, 0]⟩] W fun e w' => ∃ v, e = .returned (.tuple #[v, .bool true]) ∧ Rd w' v (strs [⟨#[97]⟩, ⟨#[]⟩]) ∧ Below W.heap.size W w' from
    (words_c ⟨#[97, 0, 0]⟩ W (by decide) h).mono fun e w' hh => by
      obtain ⟨h1, h2⟩ := hh
      rw [if_pos (by decide +kernel)] at h1
      obtain ⟨v, h3, h4⟩ := h1
      exact ⟨v, h3, h4, h2⟩))
  have HW2 := Lib.hid (fun W (h : MaxL W) => (show Calls Tryd.prog 29 #[.string ⟨#[97]⟩] W fun e w' => e = .returned (.tuple #[.slice none 0 0, .bool false]) ∧ Below W.heap.size W w' from
    (words_c ⟨#[97]⟩ W (by decide) h).mono fun e w' hh => by
      obtain ⟨h1, h2⟩ := hh
      rw [if_neg (by decide +kernel)] at h1
      exact ⟨h1, h2⟩))
  have HIN := Lib.hid (fun W va vb (ha : Rd W va (ints [-1])) (hb : Rd W vb (ints [-1])) => (show Calls Tryd.prog 26 #[va, vb] W fun e w' => e = .returned (.bool true) ∧ Below W.heap.size W w' from by
    have h := ints_c va vb _ _ W ha hb (by decide) (by decide)
    rw [show decide (([-1] : List Int) = [-1]) = true by simp] at h
    exact h))
  have HDA := Lib.hid (fun W va (ha : Rd W va (ints [258])) => (show Calls Tryd.prog 27 #[va] W fun e w' => e = .returned (.string ⟨#[2, 1, 0, 0]⟩) ∧ Below W.heap.size W w' from by
    have h := data_c va _ W ha (by decide)
    rw [show strOfNums (dataL [258]) = ⟨#[2, 1, 0, 0]⟩ by rfl] at h
    exact h))
  have HTX := Lib.hid (fun W va vb (ha : Rd W va (strs [⟨#[97]⟩, ⟨#[]⟩])) (hb : Rd W vb (strs [⟨#[97]⟩, ⟨#[]⟩])) => (show Calls Tryd.prog 31 #[va, vb] W fun e w' => e = .returned (.bool true) ∧ Below W.heap.size W w' from by
    have h := texts_c va vb _ _ W ha hb (by decide) (by decide)
    rw [show decide (([⟨#[97]⟩, ⟨#[]⟩] : List ByteArray) = [⟨#[97]⟩, ⟨#[]⟩]) = true by simp] at h
    exact h))
  clear hm
  go_enter Tryd.func23, Tryd.ntmps23
  go_upto_region 2 with (go_at_call 9; ((with_reducible refine (HNW.out).mono ?_); rintro e w1 ⟨t, bm, rfl, ht, hb, h1, h2⟩); have HT1 := Lib.hid ht; have HB1 := Lib.hid hb; have HLE := Lib.hid (And.intro h1 h2); clear ht hb h1 h2)
  go_upto_region 3 with (go_at_call 11; go_loud ((with_reducible refine (HSET.out _ _ _ HT1.out).mono ?_); rintro e w2 ⟨rfl, b, ht, -, hg⟩; have HT2 := Lib.hid ht; have HB2 := Lib.hid (below_only HB1.out hg HB1.out.size (fun g e => by have := HLE.out.2; injection e with e; omega)); clear ht hg))
  go_upto_region 4 with (go_at_call 16; go_loud ((with_reducible refine (HGET.out _ _ _ _ HT2.out).mono ?_); rintro e w3 ⟨rfl, hb⟩; have HB3 := Lib.hid (hb.on HB2.out HB2.out.size); clear hb))
  have hx3 := Blk.new w3 27 #[.string ⟨#[65]⟩, .string ⟨#[66]⟩, .string ⟨#[99]⟩]
  have hb3 := HB3.out.alloc HB3.out.size (.cells #[.string ⟨#[65]⟩, .string ⟨#[66]⟩, .string ⟨#[99]⟩] 27)
  obtain ⟨g3, hg3⟩ : ∃ g3, g3 = w3.heap.size := ⟨_, rfl⟩
  rw [← hg3] at hx3 ⊢
  clear hg3
  generalize w3.alloc (.cells #[.string ⟨#[65]⟩, .string ⟨#[66]⟩, .string ⟨#[99]⟩] 27) = w4 at hx3 hb3 ⊢
  have HX4 := Lib.hid hx3
  have HB4 := Lib.hid hb3
  clear hx3 hb3
  go_upto_region 5 with (go_at_call 24; ((with_reducible refine (HNU.out _).mono ?_); rintro e w5 ⟨v5, rfl, hr, hb⟩); have HR5 := Lib.hid hr; have HB5 := Lib.hid hb; clear hr hb)
  have HM5 := Lib.hid (HM.out.next (HB5.out.on HB4.out HB4.out.size))
  go_upto_region 6 with (go_at_call 29; ((with_reducible refine (HW1.out _ HM5.out).mono ?_); rintro e w6 ⟨v6, rfl, hr, hb⟩); have HR6 := Lib.hid hr; have HB6 := Lib.hid hb; clear hr hb)
  have HM6 := Lib.hid (HM5.out.next HB6.out)
  go_upto_region 7 with (go_at_call 29; ((with_reducible refine (HW2.out _ HM6.out).mono ?_); rintro e w7 ⟨rfl, hb⟩); have HB7 := Lib.hid hb; clear hb)
  have HB57 := Lib.hid (HB7.out.on HB6.out HB6.out.size)
  have HB47 := Lib.hid (HB57.out.on HB5.out HB5.out.size)
  have HA := Lib.hid (HB47.out.on HB4.out HB4.out.size)
  obtain ⟨⟨x0, x1, x2⟩, -⟩ := (HX4.out.next HB47.out).c3
  have ha8 := (Below.refl _ w7).alloc (Nat.le_refl _) (.cells #[.int .i64 (-1)] 3)
  have HI8 := Lib.hid (show Rd (w7.alloc (.cells #[.int .i64 (-1)] 3)) (.slice (some ⟨w7.heap.size, 0, none⟩) 1 1) (ints [-1]) from lit_rd w7 3 (ints [-1]) 1 rfl)
  have HA8 := Lib.hid ha8
  go_wp2_with (first
    | (go_at_call 26; go_loud ((with_reducible refine (HIN.out _ _ _ ((HR5.out.next HB57.out).next HA8.out) HI8.out).mono ?_); rintro e w8 ⟨rfl, hb⟩; have HB8 := Lib.hid (hb.on HA8.out HA8.out.size); clear hb; have HD8 := Lib.hid (show Rd (w8.alloc (.cells #[.int .i64 258] 3)) (.slice (some ⟨w8.heap.size, 0, none⟩) 1 1) (ints [258]) from lit_rd w8 3 (ints [258]) 1 rfl); have HA9 := Lib.hid (HB8.out.alloc HB8.out.size (.cells #[.int .i64 258] 3))))
    | (go_at_call 27; go_loud ((with_reducible refine (HDA.out _ _ HD8.out).mono ?_); rintro e w9 ⟨rfl, hb⟩; have HB9 := Lib.hid (hb.on HA9.out HA9.out.size); clear hb; have HT10 := Lib.hid (show Rd (w9.alloc (.cells #[.string ⟨#[97]⟩, .string ⟨#[]⟩] 9)) (.slice (some ⟨w9.heap.size, 0, none⟩) 2 2) (strs [⟨#[97]⟩, ⟨#[]⟩]) from lit_rd w9 9 (strs [⟨#[97]⟩, ⟨#[]⟩]) 2 rfl); have HA10 := Lib.hid (HB9.out.alloc HB9.out.size (.cells #[.string ⟨#[97]⟩, .string ⟨#[]⟩] 9))))
    | (go_at_call 31; go_loud ((with_reducible refine (HTX.out _ _ _ ((HR6.out.next HB7.out).next HA10.out) HT10.out).mono ?_); rintro e w11 ⟨rfl, hb⟩; have HB11 := Lib.hid (hb.on HA10.out HA10.out.size); clear hb)))
  go_ret
  exact ⟨rfl, HB11.out.on HA.out HA.out.size⟩
end Go.Proofs.YtfflgkbemfichaaDoor
