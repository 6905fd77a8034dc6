/- The document's States and Kind. -/
import Derived.Test.YthppjmhocmppfaaDoorAtF
namespace Go.Proofs.YthppjmhocmppfaaDoor
open Go.RowKit Go.Maps Go.Shelf Go.Sort Go.Lib
namespace At
abbrev rowK (L : List Wd) : Array Value := (strs (L.map txt)).toArray
theorem blk_rd {W : World} {g : Nat} {L : List Wd} (h : Blk W g 9 (rowK L)) : Rd W (.slice (some ⟨g, 0, none⟩) L.length L.length) (strs (L.map txt)) :=
  ⟨some ⟨g, 0, none⟩, L.length, by rw [strs_len], fun j u hu => ⟨g, 0, rfl, h.lt, by rw [Nat.zero_add]; exact h.at_ (by simpa using hu)⟩⟩
theorem filt_snoc (L : List Wd) {k : Nat} {x : Wd} (h : stK[k]? = some x) : (stK.take (k + 1)).filter (fun y => decide (y ∈ L)) = (stK.take k).filter (fun y => decide (y ∈ L)) ++ (if decide (x ∈ L) then [x] else []) := by
  rw [List.take_add_one, h, List.filter_append]
  congr 1
  by_cases hx : x ∈ L <;> simp [hx]
set_option maxRecDepth 100000 in
set_option maxHeartbeats 2000000 in
theorem rstates_c (s : ByteArray) (w : World) (hs : s.size ≤ 1048576) : Calls Tryd.prog 17 #[.string s] w fun e w' => ∃ v, e = .returned v ∧ Rd w' v (strs ((statesL (wordsL s)).map txt)) ∧ Below w.heap.size w w' := by
  obtain ⟨i0, hi0, hz0, hz1', hz2⟩ := info_parts strInfo
  have HW := Lib.hid (fun W : World => rwords_c2 s W hs)
  have hl : ((wordsL s).map txt).length ≤ 1048576 := by rw [List.length_map]; exact Nat.le_trans (wordsL_len s) hs
  have HH := Lib.hid (fun (v : Value) (x : Wd) (W : World) (h : Rd W v (strs ((wordsL s).map txt))) => (show Calls Tryd.prog 36 #[v, .string (txt x)] W fun e w' => e = .returned (.bool (decide (x ∈ wordsL s))) ∧ W = w' from by rw [← in_txt]; exact has_c v _ (txt x) W h hl))
  generalize wordsL s = L at *
  clear hs hl
  go_enter Tryd.func17, Tryd.ntmps17
  go_upto_region 2 with fail
  have hK := Blk.new w 9 (rowK stK)
  have hb0 : Below w.heap.size w (w.alloc (.cells (rowK stK) 9)) := (Below.refl _ _).alloc (Nat.le_refl _) _
  obtain ⟨w1, hw1⟩ : ∃ w1, w1 = w.alloc (.cells (rowK stK) 9) := ⟨_, rfl⟩
  have hw1' : w.alloc (.cells #[.string ⟨#[97, 98, 111, 118, 101]⟩, .string ⟨#[98, 101, 108, 111, 119]⟩, .string ⟨#[102, 117, 108, 108]⟩, .string ⟨#[104, 105, 100, 100, 101, 110]⟩, .string ⟨#[109, 111, 100, 97, 108]⟩] 9) = w1 := hw1.symm
  rw [← hw1] at hK hb0
  rw [hw1']
  clear hw1 hw1'
  go_upto_region 3 with (go_at_call 35; ((with_reducible refine (HW.out _).mono ?_); rintro e w2 ⟨v, rfl, hr, hb2⟩); skip)
  have HK := Lib.hid (hK.next hb2)
  have HB2 := Lib.hid (hb2.on hb0 hb0.size)
  have HR := Lib.hid hr
  clear hK hb2 hb0 hr
  generalize w.heap.size = g at HK ⊢
  go_wp2_with fail
  go_loopw [5, 6] (fun y z wr => ∃ k : Nat, k ≤ 5 ∧ z = .int .i64 k ∧ Gi 9 w2 wr y (strs (((stK.take k).filter (fun y => decide (y ∈ L))).map txt))) (fun _ z _ => 5 - (intOf z).toNat)
  case atStart => exact ⟨0, Nat.zero_le _, rfl, Gi.nil w2 _⟩
  case round =>
    obtain ⟨k, hk, rfl, hG⟩ := hrel
    have HG := Lib.hid hG
    clear hG
    by_cases hlt : k < 5
    · obtain ⟨x, hx⟩ : ∃ x, stK[k]? = some x := ⟨_, List.getElem?_eq_getElem hlt⟩
      have hki0 : (0 : Int) ≤ (k : Int) := by omega
      have hki1 : (k : Int) < 5 := by omega
      have HF := Lib.hid (filt_snoc L hx)
      have hcell := (HK.out.below HG.out.2 HK.out.lt).at_ (i := k) (v := .string (txt x)) (by simp [rowK, hx])
      have HX := Lib.hid (fun (W : World) (h : Rd W v (strs (L.map txt))) => HH.out v x W h)
      obtain ⟨sx, hsx⟩ : ∃ sx, txt x = sx := ⟨_, rfl⟩
      have HSX := Lib.hid hsx
      rw [hsx] at HX hcell
      clear hsx hx
      have HLN := Lib.hid (show ((stK.take k).filter (fun y => decide (y ∈ L))).length ≤ 5 from Nat.le_trans (List.length_filter_le _ _) (by rw [List.length_take]; omega))
      have HRW := Lib.hid (HR.out.next HG.out.2)
      have HGG := Lib.hid (HK.out.below HG.out.2 HK.out.lt)
      cases hb : decide (x ∈ L) with
      | false =>
        rw [hb] at HF HX
        clear hb
        go_wp2_with (go_at_call 36; go_loud ((with_reducible refine (HX.out _ HRW.out).mono ?_); rintro e w3 ⟨rfl, rfl⟩))
        go_roundw
        case rel =>
          refine ⟨k + 1, by omega, by go_num, ?_⟩
          rw [HF.out]
          simpa using HG.out
        case measure => simp [intOf]; omega
      | true =>
        rw [hb] at HF HX
        clear hb
        go_wp2_with (first
          | (go_at_call 36; go_loud ((with_reducible refine (HX.out _ HRW.out).mono ?_); rintro e w3 ⟨rfl, rfl⟩))
          | (at_builtin; go_loud (refine wpList_append_own_at _ rfl (.tmp 22) (.tmp 27) 30 rfl w2.heap.size 9 i0 (.string ByteArray.empty) 1 16 Tryd.underlying30 hi0 hz0 hz1' hz2 rfl (by decide) _ _ _ rfl (World.ownsRow.alloc HG.out.1 _) ⟨_, 0, none⟩ 1 1 [.string sx] rfl rfl (cell_list_at _ _ [.string sx] _ rfl) (one_strs [sx]) (by unfold maxLen; have := HLN.out; simp; omega) (by have := HLN.out; simp; omega) (by have := HG.out.2.size; simp; omega) ?_; intro v3 w3 ho3 hg3 _ _; have HP := Lib.hid (Gi.put (us := [.string sx]) HG.out ho3 hg3); clear ho3 hg3)))
        go_roundw
        case rel =>
          refine ⟨k + 1, by omega, by go_num, ?_⟩
          rw [HF.out]
          have h := HP.out
          rw [← HSX.out] at h
          simpa using h
        case measure => simp [intOf]; omega
    · obtain rfl : k = 5 := by omega
      have HE := Lib.hid HG.out.rd
      have hki : ¬ (((5 : Nat) : Int) < 5) := by omega
      go_wp2_with fail
      go_ret
      have h := HE.out
      rw [show List.take 5 stK = stK from rfl] at h
      have h2 : Rd wr u5 (strs ((statesL L).map txt)) := h
      have h3 : Rd wr u5 (List.map (Value.string ∘ txt) (statesL L)) := by rw [← List.map_map]; exact h2
      exact ⟨_, rfl, h3, HG.out.2.on HB2.out HB2.out.size⟩
theorem kind_hit {L : List Wd} {k : Nat} {x : Wd} (hx : L[k]? = some x) (hk : isKd x = true) (ha : ∀ j y, j < k → L[j]? = some y → isKd y = false) : kindL L = x := by
  obtain ⟨hlt, he⟩ := List.getElem?_eq_some_iff.1 hx
  have : L.find? isKd = some x := List.find?_eq_some_iff_getElem.2 ⟨hk, k, hlt, he, fun j hj => by
    have := ha j L[j] hj (List.getElem?_eq_getElem (by omega))
    rw [this]; rfl⟩
  unfold kindL
  rw [this]; rfl
theorem kind_none {L : List Wd} (ha : ∀ j y, j < L.length → L[j]? = some y → isKd y = false) : kindL L = kNormal := by
  have : L.find? isKd = none := List.find?_eq_none.2 fun x hx => by
    obtain ⟨j, hj, e⟩ := List.mem_iff_getElem.1 hx
    have := ha j x hj (by rw [List.getElem?_eq_getElem hj, e])
    rw [this]; simp
  unfold kindL
  rw [this]; rfl
set_option maxRecDepth 100000 in
set_option maxHeartbeats 2000000 in
theorem rkind_c (s : ByteArray) (w : World) (hs : s.size ≤ 1048576) : Calls Tryd.prog 19 #[.string s] w fun e w' => e = .returned (.string (txt (kindL (wordsL s)))) ∧ Below w.heap.size w w' := by
  have HW := Lib.hid (fun W : World => rwords_c2 s W hs)
  have hl : (wordsL s).length ≤ 1048576 := Nat.le_trans (wordsL_len s) hs
  have HH := Lib.hid (fun (g : Nat) (x : Wd) (W : World) (h : Rd W (.slice (some ⟨g, 0, none⟩) 5 5) (strs (kdK.map txt))) => (show Calls Tryd.prog 36 #[.slice (some ⟨g, 0, none⟩) 5 5, .string (txt x)] W fun e w' => e = .returned (.bool (isKd x)) ∧ W = w' from by unfold isKd; rw [← in_txt]; exact has_c _ _ (txt x) W h (by decide)))
  generalize wordsL s = L at *
  obtain ⟨sr, hsr⟩ : ∃ sr, txt (kindL L) = sr := ⟨_, rfl⟩
  rw [hsr]
  have HSR := Lib.hid hsr
  clear hs hsr
  go_enter Tryd.func19, Tryd.ntmps19
  go_upto_region 2 with fail
  have hK := Blk.new w 9 (rowK kdK)
  have hb0 : Below w.heap.size w (w.alloc (.cells (rowK kdK) 9)) := (Below.refl _ _).alloc (Nat.le_refl _) _
  obtain ⟨w1, hw1⟩ : ∃ w1, w1 = w.alloc (.cells (rowK kdK) 9) := ⟨_, rfl⟩
  have hw1' : w.alloc (.cells #[.string ⟨#[100, 105, 97, 108, 111, 103]⟩, .string ⟨#[100, 111, 99, 107]⟩, .string ⟨#[110, 111, 114, 109, 97, 108]⟩, .string ⟨#[115, 112, 108, 97, 115, 104]⟩, .string ⟨#[117, 116, 105, 108, 105, 116, 121]⟩] 9) = w1 := hw1.symm
  rw [← hw1] at hK hb0
  rw [hw1']
  clear hw1 hw1'
  go_upto_region 3 with (go_at_call 35; ((with_reducible refine (HW.out _).mono ?_); rintro e w2 ⟨v, rfl, hr, hb2⟩); skip)
  have HB2 := Lib.hid (hb2.on hb0 hb0.size)
  have HKR := Lib.hid (show Rd w2 (.slice (some ⟨w.heap.size, 0, none⟩) 5 5) (strs (kdK.map txt)) from blk_rd (hK.next hb2))
  obtain ⟨p, c, rfl, hc⟩ := hr
  have HC := Lib.hid hc
  obtain ⟨n, hn⟩ : ∃ n, n = L.length := ⟨_, rfl⟩
  rw [show (strs (L.map txt)).length = n by rw [hn]; simp]
  rw [← hn] at hl
  have HN := Lib.hid hn
  clear hK hb2 hb0 hc hn
  generalize w.heap.size = g at HKR ⊢
  have HX := Lib.hid (fun (x : Wd) => HH.out g x w2 HKR.out)
  go_wp2_with fail
  go_loopw [5] (fun y wr => ∃ k : Nat, k ≤ n ∧ y = .int .i64 k ∧ wr = w2 ∧ Asd (∀ j y, j < k → L[j]? = some y → isKd y = false)) (fun y _ => n - (intOf y).toNat)
  case atStart => exact ⟨0, Nat.zero_le _, rfl, rfl, fun j y hj => absurd hj (Nat.not_lt_zero _)⟩
  case round =>
    obtain ⟨k, hk, rfl, rfl, hA⟩ := hrel
    have HS := Lib.hid (show ∀ j y, j < k → L[j]? = some y → isKd y = false from hA)
    clear hA
    by_cases hlt : k < n
    · obtain ⟨x, hx⟩ : ∃ x, L[k]? = some x := ⟨_, List.getElem?_eq_getElem (by rw [← HN.out]; exact hlt)⟩
      obtain ⟨b, o, rfl, -, h1⟩ := HC.out k (.string (txt x)) (by simp [hx])
      have HXX := Lib.hid (HX.out x)
      have HY := Lib.hid hx
      have hi0 : (0 : Int) ≤ (k : Int) := by omega
      have hi1 : (k : Int) < (n : Int) := by omega
      obtain ⟨sx, hsx⟩ : ∃ sx, txt x = sx := ⟨_, rfl⟩
      have HSX := Lib.hid hsx
      rw [hsx] at HXX h1
      clear hsx hx
      cases hb : isKd x with
      | true =>
        have HR := Lib.hid (show sx = sr from by rw [← HSX.out, ← HSR.out, kind_hit HY.out hb HS.out])
        rw [hb] at HXX
        clear hb
        go_wp2_with (go_at_call 36; go_loud ((with_reducible refine (HXX.out).mono ?_); rintro e w3 ⟨rfl, rfl⟩))
        go_ret
        exact ⟨by rw [← HR.out]; rfl, HB2.out⟩
      | false =>
        rw [hb] at HXX
        have HBX := Lib.hid hb
        clear hb
        go_wp2_with (go_at_call 36; go_loud ((with_reducible refine (HXX.out).mono ?_); rintro e w3 ⟨rfl, rfl⟩))
        go_roundw
        case rel => exact ⟨k + 1, by omega, by go_num, by trivial, fun j y hj hy => by
          rcases Nat.lt_or_ge j k with h | h
          · exact HS.out j y h hy
          · obtain rfl : j = k := by omega
            rw [HY.out] at hy
            rw [← Option.some.inj hy]; exact HBX.out⟩
        case measure => simp [intOf]; omega
    · obtain rfl : k = n := by omega
      have hki : ¬ (k : Int) < (k : Int) := by omega
      have HR := Lib.hid (show (⟨#[110, 111, 114, 109, 97, 108]⟩ : ByteArray) = sr from by rw [← HSR.out, kind_none (by rw [← HN.out]; exact HS.out)]; rfl)
      go_wp2_with fail
      go_ret
      exact ⟨by rw [← HR.out]; rfl, HB2.out⟩
end At
end Go.Proofs.YthppjmhocmppfaaDoor
