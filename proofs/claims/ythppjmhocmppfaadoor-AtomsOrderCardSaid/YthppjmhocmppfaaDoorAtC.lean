/- The library's calls at rows of words: what they answer, and that the rows stay rows. -/
import Derived.Test.YthppjmhocmppfaaDoorAtB
import Derived.Test.YthppjmhocmppfaaDoorAtS
import Derived.Shelf.SlicesE.DeleteFunc
import Derived.Shelf.SlicesE.IndexFunc
import Derived.Shelf.Slices.CompactS
import Derived.Shelf.Slices.Turned
import Derived.Shelf.SortM.Plain
import Derived.Shelf.SortM.SortNone
import Derived.Lib.SliceRun
namespace Go.Proofs.YthppjmhocmppfaaDoor
open Go.RowKit Go.Maps Go.Shelf Go.Sort Go.Lib
namespace At
theorem eqS (x y : Wd) : ((txt x).toList == (txt y).toList) = decide (x = y) := by
  rw [ByteArray.toList_eq, ByteArray.toList_eq, Bool.eq_iff_iff]
  simp
theorem eqL (x y : Wd) : ((txt x).toList == y) = decide (x = y) := by
  rw [ByteArray.toList_eq, Bool.eq_iff_iff]
  simp
theorem isSt_or (x : Wd) : isSt x = (decide (x = kAbove) || (decide (x = kBelow) || (decide (x = kFull) || (decide (x = kHidden) || decide (x = kModal))))) := by
  unfold isSt stK
  rw [Bool.eq_iff_iff]
  simp
theorem isKd_or (x : Wd) : isKd x = (decide (x = kDialog) || (decide (x = kDock) || (decide (x = kNormal) || (decide (x = kSplash) || decide (x = kUtility))))) := by
  unfold isKd kdK
  rw [Bool.eq_iff_iff]
  simp
set_option maxHeartbeats 1000000 in
theorem isState_c (x : Wd) (w : World) : Calls Tryd.prog 32 #[.string (txt x)] w fun e w' => e = .returned (.bool (isSt x)) ∧ w = w' := by
  rw [isSt_or]
  have e1 : ((txt x).toList == ([97, 98, 111, 118, 101] : List UInt8)) = decide (x = kAbove) := eqL x kAbove
  have e2 : ((txt x).toList == ([98, 101, 108, 111, 119] : List UInt8)) = decide (x = kBelow) := eqL x kBelow
  have e3 : ((txt x).toList == ([102, 117, 108, 108] : List UInt8)) = decide (x = kFull) := eqL x kFull
  have e4 : ((txt x).toList == ([104, 105, 100, 100, 101, 110] : List UInt8)) = decide (x = kHidden) := eqL x kHidden
  have e5 : ((txt x).toList == ([109, 111, 100, 97, 108] : List UInt8)) = decide (x = kModal) := eqL x kModal
  generalize decide (x = kAbove) = b1 at *
  generalize decide (x = kBelow) = b2 at *
  generalize decide (x = kFull) = b3 at *
  generalize decide (x = kHidden) = b4 at *
  generalize decide (x = kModal) = b5 at *
  generalize txt x = s at *
  cases b1
  case true =>
    go_enter Tryd.func32, Tryd.ntmps32
    go_wp2_with fail
    go_ret
    exact ⟨rfl, rfl⟩
  case false =>
    cases b2
    case true =>
      go_enter Tryd.func32, Tryd.ntmps32
      go_wp2_with fail
      go_ret
      exact ⟨rfl, rfl⟩
    case false =>
      cases b3
      case true =>
        go_enter Tryd.func32, Tryd.ntmps32
        go_wp2_with fail
        go_ret
        exact ⟨rfl, rfl⟩
      case false =>
        cases b4
        case true =>
          go_enter Tryd.func32, Tryd.ntmps32
          go_wp2_with fail
          go_ret
          exact ⟨rfl, rfl⟩
        case false =>
          cases b5
          case true =>
            go_enter Tryd.func32, Tryd.ntmps32
            go_wp2_with fail
            go_ret
            exact ⟨rfl, rfl⟩
          case false =>
            go_enter Tryd.func32, Tryd.ntmps32
            go_wp2_with fail
            go_ret
            exact ⟨rfl, rfl⟩
set_option maxHeartbeats 1000000 in
theorem isKind_c (x : Wd) (w : World) : Calls Tryd.prog 38 #[.string (txt x)] w fun e w' => e = .returned (.bool (isKd x)) ∧ w = w' := by
  rw [isKd_or]
  have e1 : ((txt x).toList == ([100, 105, 97, 108, 111, 103] : List UInt8)) = decide (x = kDialog) := eqL x kDialog
  have e2 : ((txt x).toList == ([100, 111, 99, 107] : List UInt8)) = decide (x = kDock) := eqL x kDock
  have e3 : ((txt x).toList == ([110, 111, 114, 109, 97, 108] : List UInt8)) = decide (x = kNormal) := eqL x kNormal
  have e4 : ((txt x).toList == ([115, 112, 108, 97, 115, 104] : List UInt8)) = decide (x = kSplash) := eqL x kSplash
  have e5 : ((txt x).toList == ([117, 116, 105, 108, 105, 116, 121] : List UInt8)) = decide (x = kUtility) := eqL x kUtility
  generalize decide (x = kDialog) = b1 at *
  generalize decide (x = kDock) = b2 at *
  generalize decide (x = kNormal) = b3 at *
  generalize decide (x = kSplash) = b4 at *
  generalize decide (x = kUtility) = b5 at *
  generalize txt x = s at *
  cases b1
  case true =>
    go_enter Tryd.func38, Tryd.ntmps38
    go_wp2_with fail
    go_ret
    exact ⟨rfl, rfl⟩
  case false =>
    cases b2
    case true =>
      go_enter Tryd.func38, Tryd.ntmps38
      go_wp2_with fail
      go_ret
      exact ⟨rfl, rfl⟩
    case false =>
      cases b3
      case true =>
        go_enter Tryd.func38, Tryd.ntmps38
        go_wp2_with fail
        go_ret
        exact ⟨rfl, rfl⟩
      case false =>
        cases b4
        case true =>
          go_enter Tryd.func38, Tryd.ntmps38
          go_wp2_with fail
          go_ret
          exact ⟨rfl, rfl⟩
        case false =>
          cases b5
          case true =>
            go_enter Tryd.func38, Tryd.ntmps38
            go_wp2_with fail
            go_ret
            exact ⟨rfl, rfl⟩
          case false =>
            go_enter Tryd.func38, Tryd.ntmps38
            go_wp2_with fail
            go_ret
            exact ⟨rfl, rfl⟩
theorem notState_c (x : Wd) (w : World) : Calls Tryd.prog 31 #[.string (txt x)] w fun e w' => e = .returned (.bool (!isSt x)) ∧ w = w' := by
  have HI := Lib.hid (fun W => isState_c x W)
  go_enter Tryd.func31, Tryd.ntmps31
  go_wp2_with (go_at_call 32; ((with_reducible refine (HI.out _).mono ?_); rintro e w1 ⟨rfl, rfl⟩); skip)
  go_ret
  exact ⟨rfl, rfl⟩
theorem heap_put_other (w : World) {g b : Nat} (d : Array Wd) (hne : b ≠ g) : (putRow encStr w g 0 d).heap[b]? = w.heap[b]? := by
  simp only [putRow, mapBlock, Array.getElem?_modify]
  rw [if_neg (fun e => hne e.symm)]
theorem below_put {B : Nat} (w : World) (q g : Nat) (d : Array Wd) (h : B ≤ g) : Below B w (putRow encStr (Sort.ahead w q) g 0 d) :=
  ⟨rfl, rfl, rfl, by rw [size_putRow]; exact Nat.le_refl _, fun b hb => heap_put_other (Sort.ahead w q) d (by omega)⟩
/-- A row put anew: what stands at its head is a row of its own. -/
theorem RowW.put {B : Nat} {w : World} {g cap n : Nat} {L F R : List Wd} (hn : L.length = n) (hB : B ≤ g) (hg : g < w.heap.size) (hH : Holds encStr w g 0 L.toArray) (hc : n ≤ cap) (hl : (F ++ R).length = n) (q : Nat) :
    RowW B (putRow encStr (Sort.ahead w q) g 0 (F ++ R).toArray) (.slice (some ⟨g, 0, none⟩) F.length cap) F := by
  subst hn
  have h1 : F.length ≤ L.length := by rw [List.length_append] at hl; omega
  have h2 := holds_putRow encStr (Sort.ahead w q) g 0 L.toArray (F ++ R).toArray hH (by simpa using hl)
  refine .inr ⟨g, cap, rfl, by omega, hB, by rw [size_putRow]; exact hg, fun j hj => ?_⟩
  have hj' : j < F.length := by simpa using hj
  have h3 := h2 j (by simp; omega)
  rw [getElem!_pos (F ++ R).toArray j (by simp; omega)] at h3
  rw [getElem!_pos F.toArray j hj]
  simpa [List.getElem_append_left hj'] using h3
set_option maxHeartbeats 1000000 in
theorem del_c (B : Nat) (v : Value) (L : List Wd) (w : World) (h : RowW B w v L) (hl : L.length ≤ 1048576) :
    Calls Tryd.prog 30 #[v, .func (.func 31) #[] #[]] w fun e w' => ∃ v', e = .returned v' ∧ RowW B w' v' (L.filter isSt) ∧ Below B w w' := by
  have eg : ∀ args w, (callFunc 31 args).run Tryd.prog w = .ok (.enter 31 args) w := enters_of Tryd.func31 (by kernel_rfl) rfl
  have hp : ∀ (x : Wd) (W : World), FnGives Tryd.prog 31 #[] #[encStr x] (.bool (!isSt x)) W := fun x W =>
    (notState_c x W).mono fun e w' hh => ⟨hh.1, 0, hh.2.symm⟩
  rcases h with ⟨rfl, rfl⟩ | ⟨g, cap, rfl, h2, h3, h4, h5⟩
  · have HI := Lib.hid (fun W : World => (show Calls Tryd.prog 37 #[.slice none 0 0, .func (.func 31) #[] #[]] W fun e w' => e = .returned (.int .i64 (-1)) ∧ W = w' from (AnyE.slices_IndexFunc_empty idxS none 0 (.func (.func 31) #[] #[]) W).mono fun e w' hh => ⟨hh.1, hh.2.symm⟩))
    go_enter Tryd.func30, Tryd.ntmps30
    go_wp2_with (go_at_call 37; ((with_reducible refine (HI.out _).mono ?_); rintro e w1 ⟨rfl, rfl⟩))
    go_ret
    exact ⟨_, rfl, .inl ⟨rfl, rfl⟩, Below.refl _ _⟩
  · have hcon := AnyE.slices_DeleteFunc delS encStr (fun _ => rfl) (fun x => !isSt x) 31 #[] eg [] (fun _ => by kernel_rfl) g 0 cap L.toArray w
      (fun W x _ => hp x W) (fun n os dk x _ => hp x _) h5 (by simp; omega) (by simpa using h2)
    rw [show L.toArray.size = L.length by simp, show (L.toArray.toList.filter fun x => !(!isSt x)) = L.filter isSt by simp] at hcon
    refine Calls.mono hcon ?_
    rintro e w' ⟨rfl, q, rfl⟩
    have hf := List.length_filter_le isSt L
    exact ⟨_, rfl, RowW.put (L := L) rfl h3 h4 h5 h2 (by rw [List.length_append, List.length_replicate]; omega) q, below_put w q g _ h3⟩
set_option maxHeartbeats 1000000 in
theorem sort_c (B : Nat) (v : Value) (L : List Wd) (w : World) (h : RowW B w v L) (hB : B ≤ w.heap.size) (hl : L.length ≤ 1048576) :
    Calls Tryd.prog 33 #[v] w fun e w' => e = .returned (.tuple #[]) ∧ RowW B w' v (L.mergeSort leW) ∧ Below B w w' := by
  rcases h with ⟨rfl, rfl⟩ | ⟨g, cap, rfl, h2, h3, h4, h5⟩
  · refine (AnyM.slices_Sort_string_none sortS none 0 w).mono ?_
    rintro e w' ⟨rfl, rfl⟩
    exact ⟨rfl, .inl ⟨rfl, by simp⟩, Below.refl _ _⟩
  · refine (AnyM.slices_Sort_string sortS g 0 cap L w h5 h4 (by omega)).mono ?_
    rintro e w' ⟨rfl, n, os, rfl⟩
    have hlen : (L.mergeSort leW).length = L.length := List.length_mergeSort _
    have hR := RowW.put (L := L) (F := L.mergeSort leW) (R := []) rfl h3 h4 h5 h2 (by simp [hlen]) n
    rw [List.append_nil, hlen] at hR
    have hb : Below B w (putRow encStr (Sort.ahead w n) g 0 (L.mergeSort leW).toArray) := below_put w n g _ h3
    have hs : (putRow encStr (Sort.ahead w n) g 0 (L.mergeSort leW).toArray).heap.size = w.heap.size := by rw [size_putRow]; rfl
    have hg : ∀ W : World, Below W.heap.size W (grow W os) := fun W => below_grown W 0 os
    exact ⟨rfl, hR.next (hg _), hb.trans ((hg _).mono (by rw [hs]; exact hB))⟩
set_option maxHeartbeats 1000000 in
theorem comp_c (B : Nat) (v : Value) (L : List Wd) (w : World) (h : RowW B w v L) (hl : L.length ≤ 1048576) :
    Calls Tryd.prog 34 #[v] w fun e w' => ∃ v', e = .returned v' ∧ RowW B w' v' (compact L) ∧ Below B w w' := by
  rcases h with ⟨rfl, rfl⟩ | ⟨g, cap, rfl, h2, h3, h4, h5⟩
  · refine (Any.slices_Compact_string_empty compS none 0 w).mono ?_
    rintro e w' ⟨rfl, rfl⟩
    exact ⟨_, rfl, .inl ⟨rfl, by rfl⟩, Below.refl _ _⟩
  · refine (Any.slices_Compact_string compS g 0 cap L w h5 (by omega) h2).mono ?_
    rintro e w' ⟨rfl, q, rfl⟩
    have hf : (compact L).length ≤ L.length := by
      unfold compact compactUpTo
      rw [List.length_map]
      refine Nat.le_trans (List.length_filter_le _ _) ?_
      simp
    exact ⟨_, rfl, RowW.put (L := L) rfl h3 h4 h5 h2 (by rw [List.length_append, List.length_replicate]; omega) q, below_put w q g _ h3⟩
/-- The code's States. -/
theorem states_c (s : ByteArray) (w : World) (hs : s.size ≤ 1048576) (hm : MaxL w) : Calls Tryd.prog 16 #[.string s] w fun e w' => ∃ v, e = .returned v ∧ RowW w.heap.size w' v (statesL (wordsL s)) ∧ Below w.heap.size w w' := by
  obtain ⟨L, hL⟩ : ∃ L, wordsL s = L := ⟨_, rfl⟩
  have hl : L.length ≤ 1048576 := by rw [← hL]; exact Nat.le_trans (wordsL_len s) hs
  have hl2 : (L.filter isSt).length ≤ 1048576 := Nat.le_trans (List.length_filter_le _ _) hl
  have HW := Lib.hid (words_o s w hs hm)
  rw [hL] at HW ⊢
  have HD := Lib.hid (fun (v : Value) (W : World) (h : RowW w.heap.size W v L) => del_c _ v L W h hl)
  have HS := Lib.hid (fun (v : Value) (W : World) (h : RowW w.heap.size W v (L.filter isSt)) (hB : w.heap.size ≤ W.heap.size) => sort_c _ v _ W h hB hl2)
  have HC := Lib.hid (fun (v : Value) (W : World) (h : RowW w.heap.size W v ((L.filter isSt).mergeSort leW)) => comp_c _ v _ W h (by rw [List.length_mergeSort]; exact hl2))
  rw [states_code] at HC
  clear hs hm hl hl2 hL
  go_enter Tryd.func16, Tryd.ntmps16
  go_wp2_with (first
    | (go_at_call 29; go_loud ((with_reducible refine (HW.out).mono ?_); rintro e w1 ⟨v1, ok, rfl, hr1, hb1⟩; have HR1 := Lib.hid hr1; have HB1 := Lib.hid hb1; clear hr1 hb1))
    | (go_at_call 30; go_loud ((with_reducible refine (HD.out _ _ HR1.out).mono ?_); rintro e w2 ⟨v2, rfl, hr2, hb2⟩; have HR2 := Lib.hid hr2; have HB2 := Lib.hid (HB1.out.trans hb2); clear hr2 hb2))
    | (go_at_call 33; go_loud ((with_reducible refine (HS.out _ _ HR2.out HB2.out.size).mono ?_); rintro e w3 ⟨rfl, hr3, hb3⟩; have HR3 := Lib.hid hr3; have HB3 := Lib.hid (HB2.out.trans hb3); clear hr3 hb3))
    | (go_at_call 34; go_loud ((with_reducible refine (HC.out _ _ HR3.out).mono ?_); rintro e w4 ⟨v4, rfl, hr4, hb4⟩; have HR4 := Lib.hid hr4; have HB4 := Lib.hid (HB3.out.trans hb4); clear hr4 hb4)))
  go_ret
  exact ⟨_, rfl, HR4.out, HB4.out⟩
end At
end Go.Proofs.YthppjmhocmppfaaDoor
