/- Kind, Protocols, States: the code and the document. -/
import Derived.Test.YthppjmhocmppfaaDoorAtC
namespace Go.Proofs.YthppjmhocmppfaaDoor
open Go.RowKit Go.Maps Go.Shelf Go.Sort Go.Lib
namespace At
theorem bang (L : List Wd) {j : Nat} (hj : j < L.length) : L[j]! = L[j] := getElem!_pos L j hj
theorem idx_none {L : List Wd} (h : L.find? isKd = none) : Lib.idxBy (fun _ y => isKd y) L (default : Wd) = -1 := by
  rcases idxByFrom_spec (fun _ y => isKd y) (default : Wd) L 0 with ⟨e, _⟩ | ⟨k, hk, _, ht, _⟩
  · exact e
  · rw [List.find?_eq_none] at h
    rw [bang L hk] at ht
    exact absurd ht (h _ (List.getElem_mem hk))
theorem idx_some {L : List Wd} {x : Wd} (h : L.find? isKd = some x) : ∃ k, k < L.length ∧ Lib.idxBy (fun _ y => isKd y) L (default : Wd) = ((k : Nat) : Int) ∧ L[k]? = some x := by
  obtain ⟨hx, i, hi, hix, hall⟩ := List.find?_eq_some_iff_getElem.1 h
  rcases idxByFrom_spec (fun _ y => isKd y) (default : Wd) L 0 with ⟨_, hn⟩ | ⟨k, hk, e, ht, hf⟩
  · have := hn i hi
    rw [bang L hi, hix, hx] at this
    cases this
  · rw [bang L hk] at ht
    have hik : i = k := by
      rcases Nat.lt_trichotomy i k with hlt | he | hgt
      · have := hf i hlt
        rw [bang L hi, hix, hx] at this
        cases this
      · exact he
      · have := hall k hgt
        rw [ht] at this
        cases this
    subst hik
    refine ⟨i, hi, ?_, by rw [List.getElem?_eq_getElem hi, hix]⟩
    unfold Lib.idxBy
    rw [e, Nat.zero_add]
theorem holds_at {w : World} {g : Nat} {L : List Wd} (h : Holds encStr w g 0 L.toArray) {j : Nat} (hj : j < L.length) : w.cell? ⟨g, j, none⟩ = some (encStr L[j]!) := by
  have := (h j (by simpa using hj)).1
  rw [Nat.zero_add, getElem!_pos L.toArray j (by simpa using hj)] at this
  rw [bang L hj]
  simpa using this
set_option maxHeartbeats 1000000 in
theorem idx_c (B : Nat) (v : Value) (L : List Wd) (w : World) (h : RowW B w v L) (hl : L.length ≤ 1048576) :
    Calls Tryd.prog 37 #[v, .func (.func 38) #[] #[]] w fun e w' => e = .returned (.int .i64 (Lib.idxBy (fun _ y => isKd y) L (default : Wd))) ∧ ∃ q, w' = w.drewN q := by
  have eg : ∀ args w, (callFunc 38 args).run Tryd.prog w = .ok (.enter 38 args) w := enters_of Tryd.func38 (by kernel_rfl) rfl
  rcases h with ⟨rfl, rfl⟩ | ⟨g, cap, rfl, h2, h3, h4, h5⟩
  · exact (AnyE.slices_IndexFunc_empty idxS none 0 (.func (.func 38) #[] #[]) w).mono fun e w' hh => ⟨hh.1, 0, hh.2⟩
  · have hcon := AnyE.slices_IndexFunc idxS encStr isKd 38 #[] eg g 0 L.length cap L w
      (fun W x _ => (isKind_c x W).mono fun e w' hh => ⟨hh.1, 0, hh.2.symm⟩) (Nat.le_refl _) (by omega) (fun j hj => by rw [Nat.zero_add]; exact holds_at h5 hj)
    rw [List.take_length] at hcon
    exact hcon
theorem kind_c (s : ByteArray) (w : World) (hs : s.size ≤ 1048576) (hm : MaxL w) : Calls Tryd.prog 18 #[.string s] w fun e w' => e = .returned (.string (txt (kindL (wordsL s)))) ∧ Below w.heap.size w w' := by
  obtain ⟨L, hL⟩ : ∃ L, wordsL s = L := ⟨_, rfl⟩
  have hl : L.length ≤ 1048576 := by rw [← hL]; exact Nat.le_trans (wordsL_len s) hs
  have HW := Lib.hid (words_o s w hs hm)
  rw [hL] at HW ⊢
  have HI := Lib.hid (fun (v : Value) (W : World) (h : RowW w.heap.size W v L) => idx_c _ v L W h hl)
  clear hs hm hL
  unfold kindL
  cases hf : L.find? isKd with
  | none =>
    rw [idx_none hf] at HI
    clear hf
    go_enter Tryd.func18, Tryd.ntmps18
    go_wp2_with (first
      | (go_at_call 29; go_loud ((with_reducible refine (HW.out).mono ?_); rintro e w1 ⟨v1, ok, rfl, hr1, hb1⟩; have HR1 := Lib.hid hr1; have HB1 := Lib.hid hb1; clear hr1 hb1))
      | (go_at_call 37; go_loud ((with_reducible refine (HI.out _ _ HR1.out).mono ?_); rintro e w2 ⟨rfl, q, rfl⟩)))
    go_ret
    exact ⟨rfl, below_drewN HB1.out _⟩
  | some x =>
    obtain ⟨k, hk, hik, hkx⟩ := idx_some hf
    rw [hik] at HI
    have HW2 := Lib.hid (show Calls Tryd.prog 29 #[.string s] w fun e w' => ∃ g cap ok, e = .returned (.tuple #[.slice (some ⟨g, 0, none⟩) L.length cap, .bool ok]) ∧ RowW w.heap.size w' (.slice (some ⟨g, 0, none⟩) L.length cap) L ∧ w'.cell? ⟨g, k, none⟩ = some (.string (txt x)) ∧ Below w.heap.size w w' from by
      refine HW.out.mono ?_
      rintro e w1 ⟨v1, ok, rfl, hr1, hb1⟩
      rcases id hr1 with ⟨_, h2⟩ | ⟨g, cap, rfl, h2, h3, h4, h5⟩
      · rw [h2] at hk; simp at hk
      · refine ⟨g, cap, ok, rfl, hr1, ?_, hb1⟩
        rw [holds_at h5 hk, bang L hk]
        obtain ⟨_, hkx'⟩ := List.getElem?_eq_some_iff.1 hkx
        rw [hkx'])
    obtain ⟨n, hn⟩ : ∃ n, L.length = n := ⟨_, rfl⟩
    rw [hn] at HW2 hk
    have k0 : ¬ (k : Int) < 0 := by omega
    have k1 : (0 : Int) ≤ (k : Int) := by omega
    have k2 : (k : Int) < (n : Int) := by omega
    obtain ⟨sx, hsx⟩ : ∃ sx, txt x = sx := ⟨_, rfl⟩
    show Calls _ _ _ _ fun e w' => e = .returned (.string (txt x)) ∧ Below w.heap.size w w'
    rw [hsx] at HW2 ⊢
    clear hf hik hkx hn HW hsx hl
    go_enter Tryd.func18, Tryd.ntmps18
    go_wp2_with (first
      | (go_at_call 29; go_loud ((with_reducible refine (HW2.out).mono ?_); rintro e w1 ⟨g, cap, ok, rfl, hr1, c1, hb1⟩; have HR1 := Lib.hid hr1; have HB1 := Lib.hid hb1; clear hr1 hb1))
      | (go_at_call 37; go_loud ((with_reducible refine (HI.out _ _ HR1.out).mono ?_); rintro e w2 ⟨rfl, q, rfl⟩)))
    go_ret
    exact ⟨rfl, below_drewN HB1.out _⟩
def memB (u : ByteArray) (us : List ByteArray) : Bool := us.any fun y => decide (y = u)
theorem memB_iff {u : ByteArray} {us : List ByteArray} : memB u us = true ↔ u ∈ us := by
  unfold memB
  rw [List.any_eq_true]
  constructor
  · rintro ⟨y, hy, e⟩
    have := of_decide_eq_true e
    exact this ▸ hy
  · intro h
    exact ⟨u, h, decide_eq_true rfl⟩
theorem memB_no {u : ByteArray} {us : List ByteArray} (h : ¬ u ∈ us) : memB u us = false := by
  rw [← Bool.not_eq_true]
  exact fun e => h (memB_iff.1 e)
theorem in_txt (L : List Wd) (x : Wd) : memB (txt x) (L.map txt) = decide (x ∈ L) := by
  rw [Bool.eq_iff_iff, memB_iff, decide_eq_true_iff, List.mem_map]
  constructor
  · rintro ⟨y, hy, e⟩
    have : y = x := by
      have h := congrArg (fun b : ByteArray => b.data.toList) e
      simpa using h
    exact this ▸ hy
  · intro h; exact ⟨x, h, rfl⟩
set_option maxHeartbeats 1000000 in
theorem cont_c (B : Nat) (v : Value) (L : List Wd) (x : Wd) (w : World) (h : RowW B w v L) (hl : L.length ≤ 1048576) :
    Calls Tryd.prog 39 #[v, .string (txt x)] w fun e w' => e = .returned (.bool (decide (x ∈ L))) ∧ w = w' := by
  rcases h with ⟨rfl, rfl⟩ | ⟨g, cap, rfl, h2, h3, h4, h5⟩
  · exact (Any.slices_Contains_string_empty contS none 0 (txt x) w).mono fun e w' hh => ⟨by rw [hh.1]; simp, hh.2.symm⟩
  · have hcon := Any.slices_Contains_string contS g 0 L.length cap (L.map txt) (txt x) w (by simp) (by omega) (fun j hj => by
      have hj' : j < L.length := by simpa using hj
      rw [Nat.zero_add, holds_at h5 hj', bang L hj']
      simp [List.getD, List.getElem?_eq_getElem hj'])
    refine hcon.mono fun e w' hh => ⟨?_, hh.2.symm⟩
    rw [hh.1, List.take_of_length_le (by simp)]
    congr 2
    rw [← in_txt, Bool.eq_iff_iff, memB_iff]
    exact Lib.containsS_iff _ _
theorem protocols_c (s : ByteArray) (w : World) (hs : s.size ≤ 1048576) (hm : MaxL w) : Calls Tryd.prog 20 #[.string s] w fun e w' => e = .returned (.bool (decide (kDelete ∈ wordsL s))) ∧ Below w.heap.size w w' := by
  obtain ⟨L, hL⟩ : ∃ L, wordsL s = L := ⟨_, rfl⟩
  have hl : L.length ≤ 1048576 := by rw [← hL]; exact Nat.le_trans (wordsL_len s) hs
  have HW := Lib.hid (words_o s w hs hm)
  rw [hL] at HW ⊢
  have HC := Lib.hid (fun (v : Value) (W : World) (h : RowW w.heap.size W v L) => (show Calls Tryd.prog 39 #[v, .string ⟨#[100, 101, 108, 101, 116, 101]⟩] W fun e w' => e = .returned (.bool (decide (kDelete ∈ L))) ∧ W = w' from cont_c _ v L kDelete W h hl))
  generalize decide (kDelete ∈ L) = r at *
  clear hs hm hL
  go_enter Tryd.func20, Tryd.ntmps20
  go_wp2_with (first
    | (go_at_call 29; go_loud ((with_reducible refine (HW.out).mono ?_); rintro e w1 ⟨v1, ok, rfl, hr1, hb1⟩; have HR1 := Lib.hid hr1; have HB1 := Lib.hid hb1; clear hr1 hb1))
    | (go_at_call 39; go_loud ((with_reducible refine (HC.out _ _ HR1.out).mono ?_); rintro e w2 ⟨rfl, rfl⟩)))
  go_ret
  exact ⟨rfl, HB1.out⟩
/-- Is a text one of a row? -/
theorem has_c (v : Value) (us : List ByteArray) (u : ByteArray) (w : World) (h : Rd w v (strs us)) (hl : us.length ≤ 1048576) : Calls Tryd.prog 36 #[v, .string u] w fun e w' => e = .returned (.bool (memB u us)) ∧ w = w' := by
  obtain ⟨p, c, rfl, hc⟩ := h
  have hc' := fun (k : Nat) (y : ByteArray) (hu : us[k]? = some y) => hc k (.string y) (by rw [List.getElem?_map, hu]; rfl)
  have HC := Lib.hid hc'
  obtain ⟨n, hn⟩ : ∃ n, n = us.length := ⟨_, rfl⟩
  rw [show (strs us).length = n by rw [hn]; simp]
  rw [← hn] at hl
  have HN := Lib.hid hn
  clear hc hc' hn
  go_enter Tryd.func36, Tryd.ntmps36
  go_wp2_with fail
  go_loopw [5] (fun y wr => ∃ k : Nat, k ≤ n ∧ y = .int .i64 k ∧ wr = w ∧ Asd (∀ j, j < k → us[j]? ≠ some u)) (fun y _ => n - (intOf y).toNat)
  case atStart => exact ⟨0, Nat.zero_le _, rfl, rfl, fun j hj => absurd hj (Nat.not_lt_zero _)⟩
  case round =>
    obtain ⟨k, hk, rfl, rfl, hA⟩ := hrel
    have HS := Lib.hid (show ∀ j, j < k → us[j]? ≠ some u from hA)
    clear hA
    by_cases hlt : k < n
    · obtain ⟨y, hy⟩ : ∃ y, us[k]? = some y := ⟨_, List.getElem?_eq_getElem (by rw [← HN.out]; exact hlt)⟩
      obtain ⟨g, o, rfl, -, h1⟩ := HC.out k y hy
      have HY := Lib.hid hy
      clear hy
      have hi0 : (0 : Int) ≤ (k : Int) := by omega
      have hi1 : (k : Int) < (n : Int) := by omega
      by_cases he : y = u
      · subst he
        have HR := Lib.hid (show memB y us = true from memB_iff.2 (List.mem_of_getElem? HY.out))
        go_wp2_with fail
        go_ret
        exact ⟨by rw [HR.out]; rfl, rfl⟩
      · have h3 : (y.toList == u.toList) = false := by
          rw [beq_eq_false_iff_ne, ByteArray.toList_eq, ByteArray.toList_eq]
          intro e
          exact he (ByteArray.ext (Array.toList_inj.1 e))
        have HE := Lib.hid he
        clear he
        go_wp2_with fail
        go_roundw
        case rel => exact ⟨k + 1, by omega, by go_num, by trivial, fun j hj => by
          rcases Nat.lt_or_ge j k with h | h
          · exact HS.out j h
          · obtain rfl : j = k := by omega
            rw [HY.out]
            exact fun e => HE.out (Option.some.inj e)⟩
        case measure => simp [intOf]; omega
    · obtain rfl : k = n := by omega
      have hki : ¬ (k : Int) < (k : Int) := by omega
      have HR := Lib.hid (show memB u us = false from memB_no (fun h => by
        obtain ⟨j, hj, e⟩ := List.mem_iff_getElem.1 h
        exact HS.out j (by rw [HN.out]; exact hj) (by rw [List.getElem?_eq_getElem hj, e])))
      go_wp2_with fail
      go_ret
      exact ⟨by rw [HR.out]; rfl, rfl⟩
theorem rwords_c2 (s : ByteArray) (w : World) (hs : s.size ≤ 1048576) : Calls Tryd.prog 35 #[.string s] w fun e w' => ∃ v, e = .returned v ∧ Rd w' v (strs ((wordsL s).map txt)) ∧ Below w.heap.size w w' := by
  have HW := Lib.hid (rwords_o s w hs)
  obtain ⟨L, hL⟩ : ∃ L, wordsL s = L := ⟨_, rfl⟩
  have HE := Lib.hid (show ¬ (cutAll s.data.toList).2 = [] → L = [] from fun h => by rw [← hL]; unfold wordsL; rw [if_neg h])
  rw [hL] at HW ⊢
  clear hL hs
  by_cases hc : (cutAll s.data.toList).2 = []
  · rw [decide_eq_true hc] at HW
    clear hc HE
    go_enter Tryd.func35, Tryd.ntmps35
    go_wp2_with (go_at_call 48; ((with_reducible refine (HW.out).mono ?_); rintro e w1 ⟨v, rfl, hr, hb⟩); have HR := Lib.hid hr; clear hr)
    go_ret
    exact ⟨_, rfl, HR.out, hb⟩
  · have hE := HE.out hc
    subst hE
    rw [decide_eq_false hc] at HW
    clear hc HE
    go_enter Tryd.func35, Tryd.ntmps35
    go_wp2_with (go_at_call 48; ((with_reducible refine (HW.out).mono ?_); rintro e w1 ⟨v, rfl, hr, hb⟩); clear hr)
    go_ret
    exact ⟨_, rfl, Rd.nil _, hb⟩
theorem rprotocols_c (s : ByteArray) (w : World) (hs : s.size ≤ 1048576) : Calls Tryd.prog 21 #[.string s] w fun e w' => e = .returned (.bool (decide (kDelete ∈ wordsL s))) ∧ Below w.heap.size w w' := by
  have HW := Lib.hid (rwords_c2 s w hs)
  have hl : ((wordsL s).map txt).length ≤ 1048576 := by rw [List.length_map]; exact Nat.le_trans (wordsL_len s) hs
  have HH := Lib.hid (fun (v : Value) (W : World) (h : Rd W v (strs ((wordsL s).map txt))) => (show Calls Tryd.prog 36 #[v, .string ⟨#[100, 101, 108, 101, 116, 101]⟩] W fun e w' => e = .returned (.bool (decide (kDelete ∈ wordsL s))) ∧ W = w' from by rw [← in_txt]; exact has_c v _ (txt kDelete) W h hl))
  generalize decide (kDelete ∈ wordsL s) = r at *
  generalize wordsL s = L at *
  clear hs hl
  go_enter Tryd.func21, Tryd.ntmps21
  go_wp2_with (first
    | (go_at_call 35; go_loud ((with_reducible refine (HW.out).mono ?_); rintro e w1 ⟨v1, rfl, hr1, hb1⟩; have HR1 := Lib.hid hr1; have HB1 := Lib.hid hb1; clear hr1 hb1))
    | (go_at_call 36; go_loud ((with_reducible refine (HH.out _ _ HR1.out).mono ?_); rintro e w2 ⟨rfl, rfl⟩)))
  go_ret
  exact ⟨rfl, HB1.out⟩
end At
end Go.Proofs.YthppjmhocmppfaaDoor
