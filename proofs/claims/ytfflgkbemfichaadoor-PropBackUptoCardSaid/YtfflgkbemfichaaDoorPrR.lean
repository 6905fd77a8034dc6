/- PropBack, walked. -/
import Derived.Test.YtfflgkbemfichaaDoorPrP
import Derived.Test.YtfflgkbemfichaaDoorPrQ
namespace Go.Proofs.YtfflgkbemfichaaDoor
open Go.RowKit Go.Maps
set_option maxRecDepth 100000 in
set_option maxHeartbeats 4000000 in
theorem pback_t (v : Value) (xs : List Int) (s : ByteArray) (w : World) (hm : MaxL w) (hx : Rd w v (xs.map (Value.int .i32))) (hl : xs.length ≤ 1048576) (hwf : ∀ n ∈ xs, (Lit.int .i32 n).wf = true) (hs : s.size ≤ 1048576) : Calls Tryd.prog 6 #[v, .string s] w fun e w' => e = .returned (.bool true) ∧ Below w.heap.size w w' := by
  obtain ⟨i0, hi0, hz0, hz1, hz2⟩ := info_parts intInfo
  have h32 : ∀ x ∈ xs, -2147483648 ≤ x ∧ x < 2147483648 := fun x hx => by
    have h := hwf x hx
    simp [Lit.wf, IntKind.min, IntKind.max, IntKind.signed, IntKind.bits] at h
    omega
  obtain ⟨p, c, rfl, ha⟩ := hx
  have ha' := fun (k : Nat) (u : Int) (hu : xs[k]? = some u) => ha k (.int .i32 u) (by rw [List.getElem?_map, hu]; rfl)
  obtain ⟨n, hn⟩ : ∃ n, n = xs.length := ⟨_, rfl⟩
  rw [← hn] at hl
  rw [show (xs.map (Value.int .i32)).length = n by rw [hn]; simp]
  obtain ⟨zs, ok, hz, hc, -, hcase⟩ := numbers_both s hs
  have hds : (strOfNums (dataL xs)).size = 4 * n := by rw [strOfNums_size, dataL_len, hn]
  have hnu := fun W => numbers_yes (strOfNums (dataL xs)) W (by rw [hds]; omega) (by rw [hds]; omega)
  rw [nums_data h32] at hnu
  obtain ⟨tx, htx⟩ : ∃ t, t = strOfNums (dataL xs) := ⟨_, rfl⟩
  have HDA := Lib.hid (fun W va (h : Rd W va (ints xs)) => (show Calls Tryd.prog 27 #[va] W fun e w' => e = .returned (.string tx) ∧ Below W.heap.size W w' from htx ▸ data_c va xs W h (by omega)))
  rw [← htx] at hnu
  have HNU := Lib.hid hnu
  have HIN := Lib.hid (fun W va vb (h1 : Rd W va (ints xs)) (h2 : Rd W vb (ints xs)) => (show Calls Tryd.prog 26 #[va, vb] W fun e w' => e = .returned (.bool true) ∧ Below W.heap.size W w' from by
    have h := ints_c va vb _ _ W h1 h2 (by omega) (by omega)
    rw [show decide (xs = xs) = true by simp] at h
    exact h))
  have HC := Lib.hid hc
  have HDZ := Lib.hid (fun W va (h : Rd W va (ints zs)) => data_c va zs W h hz)
  have HM := Lib.hid hm
  have HAW := Lib.hid (fun W (h : MaxL W) => awake_c W h)
  have H32 := Lib.hid h32
  have HAA := Lib.hid ha'
  have HN := Lib.hid hn
  have HCASE := Lib.hid hcase
  clear ha ha' hn hz hc hcase hds hnu htx hm hs h32 hwf
  go_enter Tryd.func6, Tryd.ntmps6
  go_wp2_with fail
  go_loopw [5, 6] (fun v y wr => ∃ k : Nat, k ≤ n ∧ y = .int .i64 k ∧ Gi 3 w wr v (ints (xs.take k))) (fun _ y _ => n - (intOf y).toNat)
  case atStart => exact ⟨0, Nat.zero_le _, rfl, Gi.nil w _⟩
  case round =>
    obtain ⟨k, hk, rfl, hG⟩ := hrel
    have HG := Lib.hid hG
    have HKL := Lib.hid (show (ints (xs.take k)).length = k by rw [List.length_map, List.length_take, ← HN.out]; omega)
    have hi0' : (0 : Int) ≤ (k : Int) := by omega
    clear hG
    by_cases hlt : k < n
    · have hi1 : (k : Int) < (n : Int) := by omega
      obtain ⟨x, hx⟩ : ∃ x, xs[k]? = some x := ⟨_, List.getElem?_eq_getElem (by rw [← HN.out]; exact hlt)⟩
      obtain ⟨b, o, rfl, hb, hc⟩ := HAA.out k x hx
      have hc0 := (HG.out.2.cell (p := ⟨b, o + k, none⟩) hb).trans hc
      obtain ⟨hx0, hx1⟩ := H32.out x (List.mem_of_getElem? hx)
      have HSN := Lib.hid (show xs.take (k + 1) = xs.take k ++ [x] by rw [List.take_add_one, hx]; rfl)
      clear hx hc hb
      go_wp2_with (at_builtin; go_loud (refine wpList_append_own_at _ rfl (.tmp 17) (.tmp 23) 49 rfl w.heap.size 3 i0 (.int .i64 0) 1 8 Tryd.underlying49 hi0 hz0 hz1 hz2 rfl (by decide) _ _ _ rfl (World.ownsRow.alloc HG.out.1 _) ⟨_, 0, none⟩ 1 1 [.int .i64 x] rfl rfl (cell_list_at _ _ [.int .i64 x] _ rfl) (one_ints [x]) (by unfold maxLen; have := HKL.out; omega) (by have := HKL.out; omega) (by have := HG.out.2.size; simp; omega) ?_; intro v3 w3 ho3 hg3 _ _; have HP := Lib.hid (Gi.put (us := [.int .i64 x]) HG.out ho3 hg3); clear ho3 hg3))
      go_roundw
      case rel => exact ⟨k + 1, by omega, by go_num, by rw [HSN.out, ints, List.map_append]; exact HP.out⟩
      case measure => simp [intOf]; omega
    · obtain rfl : k = n := by omega
      have hi1 : ¬ (k : Int) < (k : Int) := by omega
      have hrd := HG.out.rd
      rw [show xs.take k = xs from List.take_of_length_le (by rw [← HN.out]; exact Nat.le_refl _)] at hrd
      have HRD := Lib.hid hrd
      have HGB := Lib.hid HG.out.2
      clear hrd
      rcases HCASE.out with ⟨hok, hzz, h4⟩ | ⟨hok, hzz⟩
      · subst hok
        have hdd := HDZ.out
        rw [hzz, data_nums h4] at hdd
        rw [hzz] at HC
        have HDD := Lib.hid hdd
        clear HDZ hdd hzz h4
        go_wp2_with (first
          | (go_at_call 27; go_loud (first
            | ((with_reducible refine (HDA.out _ _ HRD.out).mono ?_); rintro e w1 ⟨rfl, hb1⟩; have HB1 := Lib.hid hb1; clear hb1)
            | ((with_reducible refine (HDD.out _ _ HR4.out).mono ?_); rintro e w5 ⟨rfl, hb5⟩; have HB5 := Lib.hid (hb5.on HB4.out HB4.out.size); clear hb5)))
          | (go_at_call 24; go_loud (first
            | ((with_reducible refine (HNU.out _).mono ?_); rintro e w2 ⟨v2, rfl, hr2, hb2⟩; have HR2 := Lib.hid hr2; have HB2 := Lib.hid (hb2.on HB1.out HB1.out.size); clear hr2 hb2)
            | ((with_reducible refine (HC.out _).mono ?_); rintro e w4 ⟨v4, rfl, hr4, hb4⟩; have HR4 := Lib.hid hr4; have HB4 := Lib.hid (hb4.on HB3.out HB3.out.size); clear hr4 hb4)))
          | (go_at_call 26; go_loud ((with_reducible refine (HIN.out _ _ _ HR2.out (HRD.out.next HB2.out)).mono ?_); rintro e w3 ⟨rfl, hb3⟩; have HB3 := Lib.hid (hb3.on HB2.out HB2.out.size); clear hb3))
          | (go_at_call 23; go_loud ((with_reducible refine (HAW.out _ (HM.out.next (HB5.out.on HGB.out HGB.out.size))).mono ?_); rintro e w6 ⟨rfl, hb6⟩; have HB6 := Lib.hid (hb6.on HB5.out HB5.out.size); clear hb6)))
        go_ret
        exact ⟨rfl, HB6.out.on HGB.out HGB.out.size⟩
      · subst hok
        rw [hzz] at HC
        clear HDZ hzz
        go_wp2_with (first
          | (go_at_call 27; go_loud ((with_reducible refine (HDA.out _ _ HRD.out).mono ?_); rintro e w1 ⟨rfl, hb1⟩; have HB1 := Lib.hid hb1; clear hb1))
          | (go_at_call 24; go_loud (first
            | ((with_reducible refine (HNU.out _).mono ?_); rintro e w2 ⟨v2, rfl, hr2, hb2⟩; have HR2 := Lib.hid hr2; have HB2 := Lib.hid (hb2.on HB1.out HB1.out.size); clear hr2 hb2)
            | ((with_reducible refine (HC.out _).mono ?_); rintro e w4 ⟨v4, rfl, hr4, hb4⟩; obtain ⟨p4, c4, rfl, -⟩ := hr4; have HB4 := Lib.hid (hb4.on HB3.out HB3.out.size); clear hb4)))
          | (go_at_call 26; go_loud ((with_reducible refine (HIN.out _ _ _ HR2.out (HRD.out.next HB2.out)).mono ?_); rintro e w3 ⟨rfl, hb3⟩; have HB3 := Lib.hid (hb3.on HB2.out HB2.out.size); clear hb3))
          | (go_at_call 23; go_loud ((with_reducible refine (HAW.out _ (HM.out.next (HB4.out.on HGB.out HGB.out.size))).mono ?_); rintro e w6 ⟨rfl, hb6⟩; have HB6 := Lib.hid (hb6.on HB4.out HB4.out.size); clear hb6)))
        go_ret
        exact ⟨rfl, HB6.out.on HGB.out HGB.out.size⟩
end Go.Proofs.YtfflgkbemfichaaDoor
