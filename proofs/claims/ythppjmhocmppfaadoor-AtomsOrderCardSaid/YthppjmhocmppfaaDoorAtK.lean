/- Title: the code and the document. -/
import Derived.Test.YthppjmhocmppfaaDoorAtA
import Derived.Test.YthppjmhocmppfaaDoorPrA
import Derived.Laws.IdiomStrings
import Derived.Laws.BytesArg
namespace Go.Proofs.YthppjmhocmppfaaDoor
open Go.RowKit Go.Maps
namespace At
def qmB (b : UInt8) : UInt8 := if b < 32 ∨ 126 < b then 63 else b
/-- The first 64 bytes, each that is no sign a '?'. -/
def titleL (l : Wd) : Wd := (l.take 64).map qmB
theorem qm_qm (b : UInt8) : qmB (qmB b) = qmB b := by
  unfold qmB
  by_cases h : b < 32 ∨ 126 < b
  · rw [if_pos h]; decide
  · rw [if_neg h, if_neg h]
theorem title_title (l : Wd) : titleL (titleL l) = titleL l := by
  unfold titleL
  rw [List.take_of_length_le (by simp; omega), List.map_map]
  congr 1
  funext b
  exact qm_qm b
theorem title_len (l : Wd) : (titleL l).length = min 64 l.length := by unfold titleL; simp
theorem qm_int (b : UInt8) : ((b.toNat : Int) < 32 ∨ (126 : Int) < (b.toNat : Int)) ↔ (b < 32 ∨ 126 < b) := by
  rw [UInt8.lt_iff_toNat_lt, UInt8.lt_iff_toNat_lt]
  constructor
  · rintro (h | h)
    · left; have : (32 : UInt8).toNat = 32 := rfl; omega
    · right; have : (126 : UInt8).toNat = 126 := rfl; omega
  · have h1 : (32 : UInt8).toNat = 32 := rfl
    have h2 : (126 : UInt8).toNat = 126 := rfl
    rintro (h | h)
    · left; omega
    · right; omega
theorem take_snoc_qm {l : Wd} {k : Nat} {b : UInt8} (h : l[k]? = some b) : (l.take (k + 1)).map qmB = (l.take k).map qmB ++ [qmB b] := by
  rw [List.take_add_one, h, List.map_append]; rfl
set_option maxRecDepth 100000 in
set_option maxHeartbeats 2000000 in
theorem rtitle_c (s : ByteArray) (w : World) (hs : s.size ≤ 140737488355328) : Calls Tryd.prog 25 #[.string s] w fun e w' => e = .returned (.string (txt (titleL s.data.toList))) ∧ w = w' := by
  obtain ⟨L, hL⟩ : ∃ L, s.data.toList = L := ⟨_, rfl⟩
  have hsz : s.size = L.length := by rw [← hL]; exact Lib.size_eq s
  obtain ⟨n, hn⟩ : ∃ n, min 64 L.length = n := ⟨_, rfl⟩
  rw [hL]
  obtain ⟨sr, hsr⟩ : ∃ sr, txt (titleL L) = sr := ⟨_, rfl⟩
  rw [hsr]
  have HSR := Lib.hid hsr
  have HL := Lib.hid hL
  have HZ := Lib.hid hsz
  have HN := Lib.hid hn
  clear hsr hL hsz hn
  go_enter Tryd.func25, Tryd.ntmps25
  go_wp2_with fail
  go_loopw [3, 4] (fun v y wr => ∃ (k : Nat) (t : ByteArray), k ≤ n ∧ v = .string t ∧ y = .int .i64 k ∧ wr = w ∧ Asd (t = txt ((L.take k).map qmB))) (fun _ y _ => n - (intOf y).toNat)
  case atStart => exact ⟨0, _, Nat.zero_le _, rfl, rfl, rfl, rfl⟩
  case round =>
    obtain ⟨k, t, hk, rfl, rfl, rfl, hA⟩ := hrel
    have HT := Lib.hid (show t = txt ((L.take k).map qmB) from hA)
    clear hA
    by_cases hlt : k < n
    · have hkl : k < L.length := by have := HN.out; omega
      have hk64 : k < 64 := by have := HN.out; omega
      have k2 : k < s.size := by rw [HZ.out]; exact hkl
      have k0 : (0 : Int) ≤ (k : Int) := by omega
      have k1 : (k : Int) < (s.size : Int) := by omega
      have k3 : (k : Int) < 64 := by omega
      have k4 : (k : Int) ≤ (k : Int) + 1 := by omega
      have k5 : (k : Int) + 1 ≤ (s.size : Int) := by omega
      have hget : L[k]? = some s[k] := by
        rw [← HL.out, List.getElem?_eq_getElem (by rw [HL.out]; exact hkl)]
        rfl
      have HS := Lib.hid (take_snoc_qm hget)
      have hext : s.extract k (k + 1) = txt [s[k]] := by
        apply ByteArray.ext
        apply Array.toList_inj.1
        rw [Lib.extract_data, HL.out, show k + 1 - k = 1 by omega]
        obtain ⟨_, e⟩ := List.getElem?_eq_some_iff.1 hget
        rw [List.drop_eq_getElem_cons hkl, e]
        rfl
      have HX := Lib.hid hext
      have hq := qm_int s[k]
      have HQ := Lib.hid (show qmB s[k] = if s[k] < 32 ∨ 126 < s[k] then 63 else s[k] from rfl)
      have hts : t.size = k := by rw [HT.out, Lib.size_eq]; simp; omega
      have hz1 : ¬ 9223372036854775807 < t.size + 1 := by omega
      have hz2 : ¬ 9223372036854775807 < t.size + (s.extract k (k + 1)).size := by rw [hext]; show ¬ 9223372036854775807 < t.size + 1; omega
      have hz3 : ¬ 9223372036854775807 < t.size + (min (k + 1) s.size - k) := by omega
      clear hget hext hts
      by_cases hc : ((s[k].toNat : Int) < 32 ∨ (126 : Int) < (s[k].toNat : Int))
      · have HE := Lib.hid (show qmB s[k] = 63 by rw [HQ.out, if_pos (hq.1 hc)])
        clear hq
        have hcc : (s[k].toNat : Int) < 32 ∨ (¬ (s[k].toNat : Int) < 32 ∧ (126 : Int) < (s[k].toNat : Int)) := by omega
        clear hc
        rcases hcc with c1 | ⟨c1, c2⟩
        all_goals
          go_wp2_with fail
          go_roundw
          case rel =>
            refine ⟨k + 1, _, by omega, rfl, by go_num, by trivial, ?_⟩
            show _ = txt ((L.take (k + 1)).map qmB)
            rw [HS.out, HE.out, HT.out]
            simp [ByteArray.ext_iff]
          case measure => simp [intOf]; omega
      · have HE := Lib.hid (show qmB s[k] = s[k] by rw [HQ.out, if_neg (fun h => hc (hq.2 h))])
        have c1 : ¬ (s[k].toNat : Int) < 32 := fun h => hc (.inl h)
        have c2 : ¬ (126 : Int) < (s[k].toNat : Int) := fun h => hc (.inr h)
        clear hq hc
        go_wp2_with fail
        go_roundw
        case rel =>
          refine ⟨k + 1, _, by omega, rfl, by go_num, by trivial, ?_⟩
          show _ = txt ((L.take (k + 1)).map qmB)
          rw [HS.out, HE.out, HT.out, HX.out]
          simp [ByteArray.ext_iff]
        case measure => simp [intOf]; omega
    · obtain rfl : k = n := by omega
      have HR := Lib.hid (show t = sr from by
        rw [HT.out, ← HSR.out]
        unfold titleL
        have : L.take k = L.take 64 := by
          rw [← HN.out, List.take_eq_take_iff]
          omega
        rw [this])
      by_cases h64 : L.length ≤ 64
      · have c1 : ¬ (k : Int) < (s.size : Int) := by have := HN.out; have := HZ.out; omega
        go_wp2_with fail
        go_ret
        exact ⟨by rw [← HR.out]; rfl, rfl⟩
      · have c1 : (k : Int) < (s.size : Int) := by have := HN.out; have := HZ.out; omega
        have c2 : ¬ (k : Int) < 64 := by have := HN.out; omega
        go_wp2_with fail
        go_ret
        exact ⟨by rw [← HR.out]; rfl, rfl⟩
/-- A row of bytes that can be written. -/
def Rw (W : World) (g n : Nat) (l : Wd) : Prop := ∃ C : Array Value, W.heap[g]? = some (.cells C 5 (C.size, C.size + 1)) ∧ n ≤ C.size ∧ ∀ (j : Nat) (b : UInt8), l[j]? = some b → C[j]? = some (Value.int .u8 (b.toNat : Int))
theorem Rw.at_ {W : World} {g n : Nat} {l : Wd} (h : Rw W g n l) {j : Nat} {b : UInt8} (hb : l[j]? = some b) : W.cell? ⟨g, j, none⟩ = some (.int .u8 (b.toNat : Int)) := by
  obtain ⟨C, h1, _, h3⟩ := h
  rw [cell_of_row W g j C 5 _ h1]
  exact h3 j b hb
theorem Rw.frozen {W : World} {g n : Nat} {l : Wd} (h : Rw W g n l) {j : Nat} (hj : j < n) : W.frozen? ⟨g, j, none⟩ = false := by
  obtain ⟨C, h1, h2, _⟩ := h
  simp [World.frozen?, h1]
  omega
theorem Rw.set_ {W : World} {g n : Nat} {l : Wd} (h : Rw W g n l) {k : Nat} (b : UInt8) (hk : k < n) : Rw (W.setCell ⟨g, k, none⟩ (.int .u8 (b.toNat : Int))) g n (l.set k b) := by
  obtain ⟨C, h1, h2, h3⟩ := h
  refine ⟨C.setIfInBounds k (.int .u8 (b.toNat : Int)), by simp [World.setCell, Array.getElem?_modify, h1], by simpa using h2, fun j y hy => ?_⟩
  rw [Array.getElem?_setIfInBounds]
  by_cases hjk : k = j
  · subst hjk
    rw [if_pos rfl, if_pos (by omega)]
    rw [List.getElem?_set_self (by have := (List.getElem?_eq_some_iff.1 hy).1; simpa using this)] at hy
    rw [Option.some.inj hy]
  · rw [if_neg hjk]
    rw [List.getElem?_set_ne hjk] at hy
    exact h3 j y hy
theorem Rw.new (w : World) (d : ByteArray) : Rw (w.drew.alloc (.cells (bytesRow d (grownCap w d.size 0 5)) 5 ((bytesRow d (grownCap w d.size 0 5)).size, (bytesRow d (grownCap w d.size 0 5)).size + 1))) w.heap.size d.size d.data.toList := by
  refine ⟨bytesRow d (grownCap w d.size 0 5), by show (w.heap.push _)[w.heap.size]? = _; simp, by unfold bytesRow; rw [Array.size_append, Array.size_map]; exact Nat.le_add_right _ _, fun j b hb => ?_⟩
  unfold bytesRow
  have hj := (List.getElem?_eq_some_iff.1 hb).1
  rw [Array.getElem?_append_left (by simpa using hj)]
  simp only [Array.getElem?_map]
  have : d.data[j]? = some b := by simpa using hb
  rw [this]; rfl
theorem Rw.text {W : World} {g n cp : Nat} {l : Wd} (h : Rw W g n l) (hl : l.length = n) : (convert 55 9 (.slice (some ⟨g, 0, none⟩) n cp)).run Tryd.prog W = .ok (.string (txt l)) W := by
  subst hl
  refine run_convert_bytes_back W _ _ 5 ⟨g, 0, none⟩ cp l Tryd.underlying55 Tryd.underlying5 Tryd.underlying9 (fun j hj => ?_)
  rw [Addr.add_lit, Nat.zero_add]
  exact h.at_ (List.getElem?_eq_getElem hj)
theorem below_set_u8 {B : Nat} {w0 W : World} {g : Nat} (h : Below B w0 W) (hg : B ≤ g) (k : Nat) (v : Value) : Below B w0 (W.setCell ⟨g, k, none⟩ v) := h.setCell hg v
set_option maxRecDepth 100000 in
set_option maxHeartbeats 2000000 in
theorem title_c (s : ByteArray) (w : World) (hs : s.size ≤ 140737488355328) : Calls Tryd.prog 24 #[.string s] w fun e w' => e = .returned (.string (txt (titleL s.data.toList))) ∧ Below w.heap.size w w' := by
  obtain ⟨L, hL⟩ : ∃ L, s.data.toList = L := ⟨_, rfl⟩
  have hsz : s.size = L.length := by rw [← hL]; exact Lib.size_eq s
  obtain ⟨n, hn⟩ : ∃ n, min 64 L.length = n := ⟨_, rfl⟩
  rw [hL]
  have hd : (s.extract 0 n).data.toList = L.take 64 := by
    rw [Lib.extract_data, hL, List.drop_zero, Nat.sub_zero, List.take_eq_take_iff]
    omega
  obtain ⟨d, hdd⟩ : ∃ d, s.extract 0 n = d := ⟨_, rfl⟩
  rw [hdd] at hd
  have hds : d.size = n := by rw [Lib.size_eq, hd, List.length_take]; exact hn
  have hcv := run_bytes_of_string (P := Tryd.prog) w 9 55 5 d Tryd.underlying9 Tryd.underlying55 Tryd.underlying5
  have hrw := Rw.new w d
  have hbe : Below w.heap.size w (w.drew.alloc (.cells (bytesRow d (grownCap w d.size 0 5)) 5 ((bytesRow d (grownCap w d.size 0 5)).size, (bytesRow d (grownCap w d.size 0 5)).size + 1))) := (Below.drew (Below.refl _ _)).alloc (Nat.le_refl _) _
  generalize w.drew.alloc (.cells (bytesRow d (grownCap w d.size 0 5)) 5 ((bytesRow d (grownCap w d.size 0 5)).size, (bytesRow d (grownCap w d.size 0 5)).size + 1)) = w1 at hcv hrw hbe
  generalize grownCap w d.size 0 5 = cp at hcv
  rw [hds] at hcv
  rw [hd, hds] at hrw
  have hmin : min (s.size : Int) 64 = (n : Int) := by omega
  have hn0 : (0 : Int) ≤ (n : Int) := by omega
  have hn1 : (n : Int) ≤ (s.size : Int) := by omega
  have hn2 : n ≤ s.size := by omega
  have HRW := Lib.hid hrw
  have HBE := Lib.hid hbe
  have HN := Lib.hid (show (L.take 64).length = n by rw [List.length_take]; exact hn)
  obtain ⟨sr, hsr⟩ : ∃ sr, txt (titleL L) = sr := ⟨_, rfl⟩
  rw [hsr]
  have HSR := Lib.hid hsr
  clear hsr hrw hbe hds hd hL hsz hn
  go_enter Tryd.func24, Tryd.ntmps24
  go_upto_region 1 with fail
  go_cut [3] (fun v wx => v = .slice (some ⟨w.heap.size, 0, none⟩) n cp ∧ wx = w1)
  case first =>
    by_cases h64 : s.size ≤ 64
    · have hds : d = s := by
        rw [← hdd]
        apply ByteArray.ext
        apply Array.toList_inj.1
        rw [Lib.extract_data, List.drop_zero, List.take_of_length_le (by rw [← Lib.size_eq]; omega)]
      rw [hds] at hcv
      have h1 : ((n : Nat) : Int) = (s.size : Int) := by omega
      have h2 : ((s.size : Int)) ≤ 64 := by omega
      go_wp2_with fail
      go_meet
      exact ⟨rfl, rfl⟩
    · have h1 : n = 64 := by omega
      subst h1
      have h2 : ¬ ((s.size : Int)) ≤ 64 := by omega
      have h3 : (64 : Int) ≤ (s.size : Int) := by omega
      go_wp2_with fail
      go_meet
      exact ⟨rfl, rfl⟩
  case rest =>
    obtain ⟨rfl, rfl⟩ := hcut
    obtain ⟨w1, hw1⟩ : ∃ w1, w1 = wc := ⟨_, rfl⟩
    subst hw1
    clear hcv hdd hmin
    generalize hg : w.heap.size = g at *
    have HG := Lib.hid hg
    go_wp2_with fail
    go_loopw [14] (fun y wr => ∃ (k : Nat) (l : Wd), k ≤ n ∧ y = .int .i64 k ∧ Rw wr g n l ∧ Below g w wr ∧ Asd (l.length = n ∧ (∀ j, j < k → l[j]? = ((L.take 64).map qmB)[j]?) ∧ ∀ j, k ≤ j → l[j]? = (L.take 64)[j]?)) (fun y _ => n - (intOf y).toNat)
    case atStart => exact ⟨0, L.take 64, Nat.zero_le _, rfl, HRW.out, HBE.out, HN.out, fun j hj => absurd hj (Nat.not_lt_zero _), fun j _ => rfl⟩
    case round =>
      obtain ⟨k, l, hk, rfl, hR, hB, hA⟩ := hrel
      have HA := Lib.hid (show l.length = n ∧ (∀ j, j < k → l[j]? = ((L.take 64).map qmB)[j]?) ∧ ∀ j, k ≤ j → l[j]? = (L.take 64)[j]? from hA)
      have HR := Lib.hid hR
      have HB := Lib.hid hB
      clear hA hR hB
      by_cases hlt : k < n
      · obtain ⟨b, hb⟩ : ∃ b, l[k]? = some b := ⟨_, List.getElem?_eq_getElem (by rw [HA.out.1]; exact hlt)⟩
        have hcb := HR.out.at_ hb
        have hfb := HR.out.frozen hlt
        have HBK := Lib.hid (show (L.take 64)[k]? = some b from by rw [← HA.out.2.2 k (Nat.le_refl _)]; exact hb)
        have k0 : (0 : Int) ≤ (k : Int) := by omega
        have k1 : (k : Int) < (n : Int) := by omega
        have hq := qm_int b
        have HQ := Lib.hid (show qmB b = if b < 32 ∨ 126 < b then 63 else b from rfl)
        have HBL := Lib.hid hb
        clear hb
        by_cases hc : ((b.toNat : Int) < 32 ∨ (126 : Int) < (b.toNat : Int))
        · have HE := Lib.hid (show qmB b = 63 by rw [HQ.out, if_pos (hq.1 hc)])
          clear hq
          have hcc : (b.toNat : Int) < 32 ∨ (¬ (b.toNat : Int) < 32 ∧ (126 : Int) < (b.toNat : Int)) := by omega
          clear hc
          rcases hcc with c1 | ⟨c1, c2⟩
          all_goals
            go_wp2_with fail
            go_roundw
            case rel =>
              refine ⟨k + 1, l.set k 63, by omega, by go_num, HR.out.set_ 63 hlt, below_set_u8 HB.out (Nat.le_refl _) _ _, by rw [List.length_set]; exact HA.out.1, fun j hj => ?_, fun j hj => ?_⟩
              · by_cases hjk : k = j
                · subst hjk
                  rw [List.getElem?_set_self (by rw [HA.out.1]; exact hlt), List.getElem?_map, HBK.out, Option.map_some, HE.out]
                · rw [List.getElem?_set_ne hjk]; exact HA.out.2.1 j (by omega)
              · rw [List.getElem?_set_ne (by omega)]; exact HA.out.2.2 j (by omega)
            case measure => simp [intOf]; omega
        · have HE := Lib.hid (show qmB b = b by rw [HQ.out, if_neg (fun h => hc (hq.2 h))])
          have c1 : ¬ (b.toNat : Int) < 32 := fun h => hc (.inl h)
          have c2 : ¬ (126 : Int) < (b.toNat : Int) := fun h => hc (.inr h)
          clear hq hc
          go_wp2_with fail
          go_roundw
          case rel =>
            refine ⟨k + 1, l, by omega, by go_num, HR.out, HB.out, HA.out.1, fun j hj => ?_, fun j hj => HA.out.2.2 j (by omega)⟩
            by_cases hjk : j = k
            · subst hjk
              rw [HBL.out, List.getElem?_map, HBK.out, Option.map_some, HE.out]
            · exact HA.out.2.1 j (by omega)
          case measure => simp [intOf]; omega
      · obtain rfl : k = n := by omega
        have hki : ¬ (k : Int) < (k : Int) := by omega
        have hl : l = titleL L := by
          unfold titleL
          apply List.ext_getElem?
          intro j
          rcases Nat.lt_or_ge j k with h | h
          · exact HA.out.2.1 j h
          · rw [List.getElem?_eq_none (by rw [HA.out.1]; exact h), List.getElem?_eq_none (by rw [List.length_map, HN.out]; exact h)]
        have hcv := HR.out.text (cp := cp) HA.out.1
        rw [hl, HSR.out] at hcv
        clear hl
        go_wp2_with fail
        go_ret
        exact ⟨rfl, HB.out⟩
end At
end Go.Proofs.YthppjmhocmppfaaDoor
