/- AtomsOrder, walked. -/
import Derived.Test.YthppjmhocmppfaaDoorAtL
import Derived.Test.YthppjmhocmppfaaDoorOpen
import Derived.Deep.Slices
import Derived.Deep.Fields
import Derived.SizedLaws
namespace Go.Proofs.YthppjmhocmppfaaDoor
open Go.RowKit Go.Maps Go.Shelf Go.Sort Go.Lib Go.WideShapes Go.ChangeShapes Go.ChangeAt Go.Deep
namespace At
theorem cs_str : Tryd.prog.cellsOf 9 = 1 := by kernel_rfl
theorem list_of {α : Type} {P : Nat → α → Prop} (n : Nat) (h : ∀ i, i < n → ∃ t, P i t) : ∃ l : List α, l.length = n ∧ ∀ (i : Nat) (t : α), l[i]? = some t → P i t := by
  induction n with
  | zero => exact ⟨[], rfl, fun i t ht => by simp at ht⟩
  | succ n ih =>
    obtain ⟨l, hl, hp⟩ := ih (fun i hi => h i (by omega))
    obtain ⟨t, ht⟩ := h n (by omega)
    refine ⟨l ++ [t], by simp [hl], fun i u hu => ?_⟩
    by_cases hi : i < n
    · rw [List.getElem?_append_left (by omega)] at hu
      exact hp i u hu
    · have hi' := (List.getElem?_eq_some_iff.1 hu).1
      simp at hi'
      have : i = n := by omega
      subst this
      rw [List.getElem?_append_right (by omega), hl] at hu
      simp at hu
      subst hu
      exact ht
section
variable {H : Type} {enc : TypeId × Value → H} {w : World}
theorem cell_spot {w : World} {a : Addr} {u : Value} (h : w.cell? a = some u) : a = ⟨a.block, a.off, none⟩ := by
  obtain ⟨b, o, s⟩ := a
  have : s = none := World.cell?_spot h
  subst this; rfl
set_option maxRecDepth 100000 in
theorem strs_of {b0 : Nat} {v : Value} {d : DataW H} {q : List MemPlace} (hv : Value.okWide Tryd.prog w .any b0 30 v) (h : DataW.Trod enc Tryd.prog w 0 (fun _ => true) true 30 v d q) :
    ∃ us, Rd w v (strs us) ∧ ∀ (j : Nat) (u : ByteArray), us[j]? = some u → ∃ el sp, d = .slice el sp ∧ DataW.lit (.string u.data.toList) ∈ el := by
  obtain ⟨a0, len, cap, rfl⟩ := okWide_slice Tryd.underlying30 hv
  obtain ⟨fuel, hf⟩ := h
  rcases open_slice Tryd.underlying30 hf with ⟨hcs, _⟩ | ⟨a, len', cap', m, n, D, Pl, hcs, _, hl, hm, hmm, hx, hi⟩
  · simp only [Value.cells, List.cons.injEq, Value.slice.injEq, and_true] at hcs
    obtain ⟨rfl, rfl, rfl⟩ := hcs
    exact ⟨[], Rd.nil w, fun j u hu => by simp at hu⟩
  · simp only [Value.cells, List.cons.injEq, Value.slice.injEq, and_true] at hcs
    obtain ⟨rfl, rfl, rfl⟩ := hcs
    simp only [if_true] at hmm
    subst hmm
    have hel : ∀ i, i < len → ∃ t : ByteArray, w.cell? (a.add i) = some (.string t) ∧ D i = .lit (.string t.data.toList) := by
      intro i hlt
      obtain ⟨cs', hc, ht⟩ := hi i (by omega)
      rw [cs_str] at hc
      obtain ⟨_, hlen, hat⟩ := World.cells?_some hc
      match cs', hlen with
      | [c0], _ =>
        obtain ⟨z0, q0, x0, w0⟩ := DataW.trod_string Tryd.underlying9 ht
        simp only [List.cons.injEq, and_true] at q0
        refine ⟨z0, ?_, (Prod.mk.inj x0).1⟩
        have := hat 0 (by simp)
        rw [Nat.mul_one, Go.Deep.add_add, Nat.add_zero] at this
        rw [this, ← q0]; rfl
    obtain ⟨ts, hts, hp⟩ := list_of len hel
    refine ⟨ts, ⟨some a, m, by simp [hts], fun j u hu => ?_⟩, fun j u hu => ⟨_, _, (Prod.mk.inj hx).1, by
      have hj : j < len := by have := (List.getElem?_eq_some_iff.1 hu).1; omega
      rw [← (hp j u hu).2]
      exact List.mem_map.2 ⟨j, List.mem_range.2 hj, rfl⟩⟩⟩
    obtain ⟨t, ht, rfl⟩ : ∃ t, ts[j]? = some t ∧ u = .string t := by
      simp only [strs, List.getElem?_map] at hu
      cases hx : ts[j]? with
      | none => rw [hx] at hu; cases hu
      | some x => rw [hx] at hu; exact ⟨x, rfl, (Option.some.inj hu).symm⟩
    have h1 := (hp j t ht).1
    have h0 : 0 < ts.length := by have := (List.getElem?_eq_some_iff.1 ht).1; omega
    have h10 := (hp 0 _ (List.getElem?_eq_getElem h0)).1
    rw [show a.add 0 = a by unfold Addr.add; simp] at h10
    have e : a = ⟨a.block, a.off, none⟩ := cell_spot h10
    refine ⟨a.block, a.off, by rw [← e], block_of_cell h10, ?_⟩
    rw [← h1]
    congr 1
    rw [e]
    unfold Addr.add
    simp
theorem weights_all {P : Program} {e : TypeId} {l : List (DataW H)} {d : DataW H} {n : Nat} (hd : d ∈ l) (hn : n ∈ d.weights P e) : n ∈ DataW.weightsAll P e l := by
  induction l with
  | nil => cases hd
  | cons x r ih =>
    simp only [DataW.weightsAll, List.mem_append]
    rcases List.mem_cons.1 hd with rfl | h
    · exact .inl hn
    · exact .inr (ih h)
theorem strs_small {ts : List TypeId} {ds : List (DataW H)} {j : Nat} {d : DataW H} {us : List ByteArray} (hsz : (DataW.weightsEach Tryd.prog ts ds).all (· ≤ reachBytes) = true) (ht : ts[j]? = some 30) (hd : ds[j]? = some d)
    (h : ∀ (j : Nat) (u : ByteArray), us[j]? = some u → ∃ el sp, d = .slice el sp ∧ DataW.lit (.string u.data.toList) ∈ el) : ∀ (j : Nat) (u : ByteArray), us[j]? = some u → u.size ≤ 140737488355328 := by
  intro i u hu
  obtain ⟨el, sp, rfl, hm⟩ := h i u hu
  have h1 := List.all_eq_true.1 hsz _ (DataW.weights_mem_each ht hd u.data.toList.length (by
    simp only [DataW.weights]
    rw [Tryd.underlying30]
    exact List.mem_cons_of_mem _ (List.mem_append.2 (.inl (weights_all hm (by simp [DataW.weights]))))))
  rw [← Lib.size_eq] at h1
  have h2 := reachBytes_lt
  have h3 : (2 : Nat) ^ 47 = 140737488355328 := by decide
  have h4 : u.size ≤ reachBytes := by simpa using h1
  omega
end
def nz (u : ByteArray) : Prop := ∀ b ∈ u.data.toList, b ≠ 0
/-- Texts one behind the other, a byte 0 behind each. -/
def flatB (us : List ByteArray) : ByteArray := txt (flatW (us.map (·.data.toList)))
theorem flatB_snoc (us : List ByteArray) (u : ByteArray) : flatB (us ++ [u]) = flatB us ++ u ++ ⟨#[0]⟩ := by
  unfold flatB
  rw [List.map_append, List.map_singleton, flatW_snoc]
  apply ByteArray.ext
  apply Array.toList_inj.1
  simp [ByteArray.data_append]
theorem flatW_len (M : Nat) : ∀ us : List ByteArray, (∀ u ∈ us, u.size ≤ M) → (flatW (us.map (·.data.toList))).length ≤ (M + 1) * us.length
  | [], _ => by simp [flatW]
  | u :: us, h => by
    have h1 := flatW_len M us fun x hx => h x (by simp [hx])
    have h2 := h u (by simp)
    rw [Lib.size_eq] at h2
    unfold flatW at h1 ⊢
    rw [List.map_cons, List.flatMap_cons]
    simp only [List.length_append, List.length_cons, List.length_nil]
    rw [Nat.mul_add, Nat.mul_one]
    omega
theorem flatB_size (M : Nat) (us : List ByteArray) (h : ∀ u ∈ us, u.size ≤ M) : (flatB us).size ≤ (M + 1) * us.length := by
  rw [Lib.size_eq]
  exact flatW_len M us h
theorem size_le {M : Nat} {us : List ByteArray} {k n : Nat} (hk : us.length = k) (hn : k ≤ n) (h : ∀ u ∈ us, u.size ≤ M) : (flatB us).size ≤ (M + 1) * n := by
  have h1 := flatB_size M us h
  rw [hk] at h1
  exact Nat.le_trans h1 (Nat.mul_le_mul_left _ hn)
theorem flatB_words {us : List ByteArray} (h : ∀ u ∈ us, nz u) : wordsL (flatB us) = us.map (·.data.toList) := by
  have hc := cut_words (L := us.map (·.data.toList)) (fun t ht => by
    rw [List.mem_map] at ht
    obtain ⟨u, hu, rfl⟩ := ht
    exact h u hu)
  unfold wordsL
  rw [show (flatB us).data.toList = flatW (us.map (·.data.toList)) from rfl, hc]
  rfl
/-- The texts of a row from place k on, around: the first i. -/
def rotB (us : List ByteArray) (k i : Nat) : List ByteArray := (List.range i).map fun t => us[(t + k) % us.length]!
theorem rotB_succ (us : List ByteArray) (k i : Nat) : rotB us k (i + 1) = rotB us k i ++ [us[(i + k) % us.length]!] := by unfold rotB; rw [List.range_succ, List.map_append]; rfl
theorem rot_mem (us : List ByteArray) (k : Nat) (x : ByteArray) (y : ByteArray) (hy : y ∈ us) : x ∈ us ↔ x ∈ rotB us k us.length ++ [y] := by
  rw [List.mem_append, List.mem_singleton]
  constructor
  · intro hx
    obtain ⟨j, hj, e⟩ := List.mem_iff_getElem.1 hx
    left
    unfold rotB
    rw [List.mem_map]
    have hn : 0 < us.length := by omega
    refine ⟨(j + (us.length - k % us.length)) % us.length, by simp; exact Nat.mod_lt _ hn, ?_⟩
    have h1 : k % us.length < us.length := Nat.mod_lt _ hn
    have h2 : ((j + (us.length - k % us.length)) % us.length + k) % us.length = j := by
      rw [Nat.mod_add_mod, Nat.add_assoc]
      have h3 : us.length - k % us.length + k = us.length + us.length * (k / us.length) := by have := Nat.mod_add_div k us.length; omega
      rw [h3, ← Nat.add_assoc, Nat.add_mul_mod_self_left, Nat.add_mod_right, Nat.mod_eq_of_lt hj]
    rw [h2, getElem!_pos us j hj, e]
  · rintro (h | h)
    · unfold rotB at h
      rw [List.mem_map] at h
      obtain ⟨t, ht, rfl⟩ := h
      have hn : 0 < us.length := by
        rcases Nat.eq_zero_or_pos us.length with h0 | h0
        · rw [h0] at ht; simp at ht
        · exact h0
      have := Nat.mod_lt (t + k) hn
      rw [getElem!_pos us _ this]
      exact List.getElem_mem _
    · rw [h]; exact hy
set_option maxRecDepth 100000 in
set_option maxHeartbeats 4000000 in
theorem order_w (v : Value) (us : List ByteArray) (tu ag : Int) (w : World) (hm : MaxL w) (hr : Rd w v (strs us) ∧ ∀ (j : Nat) (u : ByteArray), us[j]? = some u → u.size ≤ 140737488355328) (ht : (Lit.int .u64 tu).wf = true) (ha : (Lit.int .u64 ag).wf = true) :
    Calls Tryd.prog 8 #[v, .int .u64 tu, .int .u64 ag] w fun e w' => e = .returned (.bool true) ∧ Below w.heap.size w w' := by
  have HM := Lib.hid hm
  have HA := Lib.hid (fun (W : World) (h : Below w.heap.size w W) => awake_c W (HM.out.next h))
  obtain ⟨hr, hbig⟩ := hr
  obtain ⟨p, cp, rfl, hc⟩ := hr
  obtain ⟨n, hn⟩ : ∃ n, us.length = n := ⟨_, rfl⟩
  rw [show (strs us).length = n by rw [← hn]; simp]
  have HC := Lib.hid (show ∀ j u, us[j]? = some u → ∃ b o, p = some ⟨b, o, none⟩ ∧ w.cell? ⟨b, o + j, none⟩ = some (.string u) from fun j u hu => by
    obtain ⟨b, o, h1, _, h2⟩ := hc j (.string u) (by rw [List.getElem?_map, hu]; rfl)
    exact ⟨b, o, h1, h2⟩)
  have HN := Lib.hid hn
  have HBG := Lib.hid hbig
  clear hm hc hn hbig
  by_cases hbad : n = 0 ∨ 100 < n
  · have hbb : ((n : Int) = 0) ∨ (¬ (n : Int) = 0 ∧ (100 : Int) < n) := by omega
    rcases hbb with h | ⟨h, h2⟩
    · have h1 : ((n : Int) == 0) = true := by simpa using h
      have h3 : n = 0 := by omega
      go_enter Tryd.func8, Tryd.ntmps8
      go_wp2_with (go_at_call 12; go_loud ((with_reducible refine (HA.out _ (Below.refl _ _)).mono ?_); rintro e w5 ⟨rfl, hb5⟩))
      go_ret
      exact ⟨rfl, hb5⟩
    · have h1 : ((n : Int) == 0) = false := by simpa using h
      go_enter Tryd.func8, Tryd.ntmps8
      go_wp2_with (go_at_call 12; go_loud ((with_reducible refine (HA.out _ (Below.refl _ _)).mono ?_); rintro e w5 ⟨rfl, hb5⟩))
      go_ret
      exact ⟨rfl, hb5⟩
  · have h1 : ((n : Int) == 0) = false := by simp; omega
    have h2 : ¬ (100 : Int) < n := by omega
    have f0 : IntKind.u64.wrap (n : Int) = n := by unfold IntKind.wrap; simp [IntKind.signed, IntKind.bits]; omega
    have tu1 : 0 ≤ tu := by
      have h := ht
      simp [Lit.wf] at h
      have h3 : IntKind.min .u64 = 0 := rfl
      omega
    have ag1 : 0 ≤ ag := by
      have h := ha
      simp [Lit.wf] at h
      have h3 : IntKind.min .u64 = 0 := rfl
      omega
    obtain ⟨kk, hkk⟩ : ∃ kk : Nat, tu.tmod (n : Int) = (kk : Int) := ⟨(tu.tmod (n : Int)).toNat, (Int.toNat_of_nonneg (Int.tmod_nonneg _ tu1)).symm⟩
    obtain ⟨aa, haa⟩ : ∃ aa : Nat, ag.tmod (n : Int) = (aa : Int) := ⟨(ag.tmod (n : Int)).toNat, (Int.toNat_of_nonneg (Int.tmod_nonneg _ ag1)).symm⟩
    have hkn : kk < n := by have := Int.tmod_lt_of_pos tu (show (0 : Int) < (n : Int) by omega); omega
    have han : aa < n := by have := Int.tmod_lt_of_pos ag (show (0 : Int) < (n : Int) by omega); omega
    have w1 : wrap64 (kk : Int) = (kk : Int) := by rw [← IntWalk.i64_left]; exact IntWalk.i64_in _ (by omega)
    obtain ⟨ua, hua⟩ : ∃ u, us[aa]? = some u := ⟨_, List.getElem?_eq_getElem (by rw [HN.out]; exact han)⟩
    have HUA := Lib.hid hua
    obtain ⟨b, o, rfl, hca⟩ := HC.out aa ua hua
    have HCC := Lib.hid (show ∀ j u, us[j]? = some u → w.cell? ⟨b, o + j, none⟩ = some (.string u) from fun j u hu => by
      obtain ⟨b', o', e, h⟩ := HC.out j u hu
      cases e
      exact h)
    have HB := Lib.hid (And.intro hkn han)
    have a0 : (0 : Int) ≤ (aa : Int) := by omega
    have a1 : (aa : Int) < (n : Int) := by omega
    have z0 : ¬ (n : Int) = 0 := by omega
    have HB2 := Lib.hid (show 0 < n ∧ n ≤ 100 by omega)
    clear ht ha tu1 ag1 hua hbad HC hkn han
    go_enter Tryd.func8, Tryd.ntmps8
    go_upto_region 5 with fail
    go_wp2_with fail
    go_loopw [7, 8, 10] (fun x y z wr => ∃ k : Nat, k ≤ n ∧ x = .string (flatB (us.take k)) ∧ y = .string (flatB (rotB us kk k)) ∧ z = .int .i64 k ∧ wr = w ∧ Asd (∀ j u, j < k → us[j]? = some u → nz u ∧ u.size ≤ 100)) (fun _ _ z _ => n - (intOf z).toNat)
    case atStart => exact ⟨0, Nat.zero_le _, rfl, rfl, rfl, rfl, fun j u hj => absurd hj (Nat.not_lt_zero _)⟩
    case round =>
      obtain ⟨k, hk, rfl, rfl, rfl, hw, hG⟩ := hrel
      have hw := hw.symm
      subst hw
      have HG := Lib.hid (show ∀ j u, j < k → us[j]? = some u → nz u ∧ u.size ≤ 100 from hG)
      clear hG
      by_cases hlt : k < n
      · obtain ⟨u, hu⟩ : ∃ u, us[k]? = some u := ⟨_, List.getElem?_eq_getElem (by rw [HN.out]; exact hlt)⟩
        have HU := Lib.hid hu
        have cu := HCC.out k u hu
        have husz := HBG.out k u hu
        have k0 : (0 : Int) ≤ (k : Int) := by omega
        have k1 : (k : Int) < (n : Int) := by omega
        clear hu
        go_wp2_with fail
        obtain ⟨m, hm⟩ : ∃ m, m = u.size := ⟨_, rfl⟩
        have HMM := Lib.hid hm
        clear hm
        go_loopw [11] (fun z wr => ∃ j : Nat, j ≤ m ∧ z = .int .i64 j ∧ wr = w ∧ Asd (∀ i b, i < j → u.data.toList[i]? = some b → b ≠ 0)) (fun z _ => m - (intOf z).toNat)
        case atStart => exact ⟨0, Nat.zero_le _, rfl, rfl, fun i b hi => absurd hi (Nat.not_lt_zero _)⟩
        case round =>
          obtain ⟨j, hj, rfl, hw, hZ⟩ := hrel
          have hw := hw.symm
          subst hw
          have HZ := Lib.hid (show ∀ i b, i < j → u.data.toList[i]? = some b → b ≠ 0 from hZ)
          clear hZ
          have j0 : (0 : Int) ≤ (j : Int) := by omega
          by_cases hjl : j < m
          · have j2 : j < u.size := by have := HMM.out; omega
            have j1 : (j : Int) < (u.size : Int) := by omega
            have hget : u.data.toList[j]? = some u[j] := by
              rw [List.getElem?_eq_getElem (by rw [← Lib.size_eq]; exact j2)]
              rfl
            have HGT := Lib.hid hget
            clear hget
            by_cases hz : u[j] = 0
            · have hz1 : (((u[j].toNat : Nat) : Int) == 0) = true := by rw [hz]; rfl
              clear hz
              go_wp2_with (go_at_call 12; go_loud ((with_reducible refine (HA.out _ (Below.refl _ _)).mono ?_); rintro e w5 ⟨rfl, hb5⟩))
              go_ret
              exact ⟨rfl, hb5⟩
            · have hz1 : (((u[j].toNat : Nat) : Int) == 0) = false := by
                rw [beq_eq_false_iff_ne]
                intro e
                exact hz (UInt8.toNat_inj.1 (by simpa using e))
              have HNZ := Lib.hid hz
              clear hz
              go_wp2_with fail
              go_roundw
              case rel => exact ⟨j + 1, by omega, by have := HMM.out; go_num, by trivial, fun i y hi hy => by
                rcases Nat.lt_or_ge i j with h | h
                · exact HZ.out i y h hy
                · obtain rfl : i = j := by omega
                  rw [HGT.out] at hy
                  rw [← Option.some.inj hy]; exact HNZ.out⟩
              case measure => simp [intOf]; omega
          · obtain rfl : j = m := by omega
            have j1 : ¬ (j : Int) < (u.size : Int) := by have := HMM.out; omega
            have HNZ := Lib.hid (show nz u from fun y hy => by
              obtain ⟨i, hi, e⟩ := List.mem_iff_getElem.1 hy
              exact HZ.out i y (by rw [HMM.out, Lib.size_eq]; exact hi) (by rw [List.getElem?_eq_getElem hi, e]))
            by_cases h100 : 100 < u.size
            · have c1 : (100 : Int) < (u.size : Int) := by omega
              go_wp2_with (go_at_call 12; go_loud ((with_reducible refine (HA.out _ (Below.refl _ _)).mono ?_); rintro e w5 ⟨rfl, hb5⟩))
              go_ret
              exact ⟨rfl, hb5⟩
            · have c1 : ¬ (100 : Int) < (u.size : Int) := by omega
              have H100 := Lib.hid h100
              obtain ⟨q, hq⟩ : ∃ q, (k + kk) % n = q := ⟨_, rfl⟩
              have hqn : q < n := by rw [← hq]; exact Nat.mod_lt _ HB2.out.1
              obtain ⟨y, hy⟩ : ∃ y, us[q]? = some y := ⟨_, List.getElem?_eq_getElem (by rw [HN.out]; exact hqn)⟩
              have cy := HCC.out q y hy
              have q0 : (0 : Int) ≤ (q : Int) := by omega
              have q1 : (q : Int) < (n : Int) := by omega
              have hmod : ((k : Int) + (kk : Int)).tmod (n : Int) = (q : Int) := by
                rw [Int.tmod_eq_emod_of_nonneg (by omega), ← hq, ← Int.natCast_add, ← Int.natCast_emod]
              have hadd : wrap64 ((k : Int) + (kk : Int)) = (k : Int) + (kk : Int) := by rw [← IntWalk.i64_left]; exact IntWalk.i64_in _ (by have := HB.out.1; have := HB2.out; omega)
              obtain ⟨g1, hg1⟩ : ∃ g, flatB (us.take k) = g := ⟨_, rfl⟩
              obtain ⟨g2, hg2⟩ : ∃ g, flatB (rotB us kk k) = g := ⟨_, rfl⟩
              have hs1 : g1.size ≤ 10100 := by
                rw [← hg1]
                have h := size_le (M := 100) (n := 100) (us := us.take k) (k := k) (by rw [List.length_take, HN.out]; omega) (by have := HB2.out; omega) (fun x hx => by
                  obtain ⟨i, hi, e⟩ := List.mem_iff_getElem.1 hx
                  have hi2 : i < k := by rw [List.length_take] at hi; omega
                  refine (HG.out i x hi2 ?_).2
                  rw [← e, List.getElem_take, List.getElem?_eq_getElem])
                omega
              have hys := HBG.out q y hy
              have hs2 : g2.size ≤ 14073748835532900 := by
                rw [← hg2]
                have h := size_le (M := 140737488355328) (n := 100) (us := rotB us kk k) (k := k) (by unfold rotB; simp) (by have := HB2.out; omega) (fun x hx => by
                  unfold rotB at hx
                  rw [List.mem_map] at hx
                  obtain ⟨i, _, rfl⟩ := hx
                  have hlt2 : (i + kk) % us.length < us.length := Nat.mod_lt _ (by rw [HN.out]; exact HB2.out.1)
                  rw [getElem!_pos us _ hlt2]
                  exact HBG.out _ _ (List.getElem?_eq_getElem hlt2))
                omega
              have HG1 := Lib.hid (show flatB (us.take (k + 1)) = g1 ++ u ++ ⟨#[0]⟩ from by rw [List.take_add_one, HU.out, Option.toList_some, flatB_snoc, hg1])
              have HG2 := Lib.hid (show flatB (rotB us kk (k + 1)) = g2 ++ y ++ ⟨#[0]⟩ from by
                rw [rotB_succ, flatB_snoc, hg2, HN.out, hq, getElem!_pos us q (by rw [HN.out]; exact hqn)]
                obtain ⟨_, e⟩ := List.getElem?_eq_some_iff.1 hy
                rw [e])
              rw [hg1, hg2]
              have s1 : ¬ 9223372036854775807 < g1.size + u.size := by omega
              have s2 : ¬ 9223372036854775807 < g1.size + u.size + 1 := by omega
              have s3 : ¬ 9223372036854775807 < g2.size + y.size := by omega
              have s4 : ¬ 9223372036854775807 < g2.size + y.size + 1 := by omega
              clear hg1 hg2 hq hy hs1 hs2 hys
              go_wp2_with fail
              go_roundw
              case rel => exact ⟨k + 1, by omega, by rw [HG1.out], by rw [HG2.out], by go_num, by trivial, fun i x hi hx => by
                rcases Nat.lt_or_ge i k with h | h
                · exact HG.out i x h hx
                · obtain rfl : i = k := by omega
                  rw [HU.out] at hx
                  rw [← Option.some.inj hx]
                  exact ⟨HNZ.out, by have := H100.out; omega⟩⟩
              case measure => simp [intOf]; omega
      · obtain rfl : k = n := by omega
        have hki : ¬ (k : Int) < (k : Int) := by omega
        have hall : ∀ x ∈ us, nz x ∧ x.size ≤ 100 := fun x hx => by
          obtain ⟨i, hi, e⟩ := List.mem_iff_getElem.1 hx
          exact HG.out i x (by rw [← HN.out]; exact hi) (by rw [List.getElem?_eq_getElem hi, e])
        have hmem2 := fun x => rot_mem us kk x ua (List.mem_of_getElem? HUA.out)
        rw [HN.out] at hmem2
        have hall2 : ∀ x ∈ rotB us kk k ++ [ua], nz x ∧ x.size ≤ 100 := fun x hx => hall x ((hmem2 x).2 hx)
        have htk : us.take k = us := List.take_of_length_le (by rw [HN.out]; exact Nat.le_refl _)
        rw [htk]
        obtain ⟨g1, hg1⟩ : ∃ g, flatB us = g := ⟨_, rfl⟩
        obtain ⟨g2, hg2⟩ : ∃ g, flatB (rotB us kk k) = g := ⟨_, rfl⟩
        have hcat : flatB (rotB us kk k ++ [ua]) = g2 ++ ua ++ ⟨#[0]⟩ := by rw [flatB_snoc, hg2]
        obtain ⟨g3, hg3⟩ : ∃ g, g2 ++ ua ++ (⟨#[0]⟩ : ByteArray) = g := ⟨_, rfl⟩
        have hz1 : g1.size ≤ 1048576 := by
          rw [← hg1]
          have h := size_le (M := 100) (n := 100) HN.out (by have := HB2.out; omega) (fun x hx => (hall x hx).2)
          omega
        have hz3 : g3.size ≤ 10201 := by
          rw [← hg3, ← hcat]
          have h := size_le (M := 100) (n := 101) (us := rotB us kk k ++ [ua]) (k := k + 1) (by unfold rotB; simp) (by have := HB2.out; omega) (fun x hx => (hall2 x hx).2)
          omega
        have hz4 : g2.size + ua.size + 1 ≤ 10201 := by
          rw [← hg3, ByteArray.size_append, ByteArray.size_append] at hz3
          exact hz3
        have e1 : wordsL g1 = us.map (·.data.toList) := by rw [← hg1]; exact flatB_words fun x hx => (hall x hx).1
        have e3 : wordsL g3 = (rotB us kk k ++ [ua]).map (·.data.toList) := by rw [← hg3, ← hcat]; exact flatB_words fun x hx => (hall2 x hx).1
        have em : ∀ x, x ∈ wordsL g1 ↔ x ∈ wordsL g3 := fun x => by
          rw [e1, e3, List.mem_map, List.mem_map]
          constructor
          · rintro ⟨y, hy, rfl⟩; exact ⟨y, (hmem2 y).1 hy, rfl⟩
          · rintro ⟨y, hy, rfl⟩; exact ⟨y, (hmem2 y).2 hy, rfl⟩
        have hst := states_mem em
        have hpr : decide (kDelete ∈ wordsL g1) = decide (kDelete ∈ wordsL g3) := by rw [decide_eq_decide]; exact em kDelete
        have H1 := Lib.hid (fun (W : World) (h : Below w.heap.size w W) => states_c g1 W hz1 (HM.out.next h))
        have H3 := Lib.hid (fun (W : World) (h : Below w.heap.size w W) => states_c g3 W (by omega) (HM.out.next h))
        have P1 := Lib.hid (fun (W : World) (h : Below w.heap.size w W) => protocols_c g1 W hz1 (HM.out.next h))
        have P3 := Lib.hid (fun (W : World) (h : Below w.heap.size w W) => protocols_c g3 W (by omega) (HM.out.next h))
        rw [hst] at H1
        rw [hpr] at P1
        have HX := Lib.hid (fun (va vb : Value) (W : World) (ha : Rd W va (strs ((statesL (wordsL g3)).map txt))) (hb : Rd W vb (strs ((statesL (wordsL g3)).map txt))) => (show Calls Tryd.prog 15 #[va, vb] W fun e w' => e = .returned (.bool true) ∧ Below W.heap.size W w' from by
          have hl : ((statesL (wordsL g3)).map txt).length ≤ 1048576 := by rw [List.length_map]; exact Nat.le_trans (states_len _) (by decide)
          have h := texts_c va vb _ _ W ha hb hl hl
          rw [decide_eq_true rfl] at h
          exact h))
        generalize decide (kDelete ∈ wordsL g3) = pr at *
        generalize statesL (wordsL g3) = LL at *
        have e0 : (pr == pr) = true := by simp
        have s1 : ¬ 9223372036854775807 < g2.size + ua.size := by omega
        have s2 : ¬ 9223372036854775807 < g2.size + ua.size + 1 := by omega
        rw [hg1, hg2]
        have HG3 := Lib.hid hg3
        clear hg1 hg2 hcat hz1 hz3 hz4 e1 e3 em hst hpr hall hall2 hmem2 htk hg3
        go_upto_region 18 with fail
        rw [HG3.out]
        clear HG3
        go_wp2_with (first
          | (go_at_call 16; ((with_reducible refine (H1.out _ (Below.refl _ _)).mono ?_); rintro e w1 ⟨v1, rfl, hr1, hb1⟩; have HR1 := Lib.hid hr1.rd; have B1 := Lib.hid hb1; clear hr1 hb1 H1))
          | (go_at_call 16; ((with_reducible refine (H3.out _ B1.out).mono ?_); rintro e w2 ⟨v2, rfl, hr2, hb2⟩; have HR2 := Lib.hid hr2.rd; have HR12 := Lib.hid (HR1.out.next hb2); have B2 := Lib.hid (hb2.on B1.out B1.out.size); clear hr2 hb2))
          | (go_at_call 15; go_loud ((with_reducible refine (HX.out _ _ _ HR12.out HR2.out).mono ?_); rintro e w3 ⟨rfl, hb3⟩; have B3 := Lib.hid (hb3.on B2.out B2.out.size); clear hb3))
          | (go_at_call 20; ((with_reducible refine (P1.out _ B3.out).mono ?_); rintro e w4 ⟨rfl, hb4⟩; have B4 := Lib.hid (hb4.on B3.out B3.out.size); clear hb4 P1))
          | (go_at_call 20; ((with_reducible refine (P3.out _ B4.out).mono ?_); rintro e w5 ⟨rfl, hb5⟩; have B5 := Lib.hid (hb5.on B4.out B4.out.size); clear hb5))
          | (go_at_call 12; go_loud ((with_reducible refine (HA.out _ B5.out).mono ?_); rintro e w8 ⟨rfl, hb8⟩; have B8 := Lib.hid (hb8.on B5.out B5.out.size); clear hb8)))
        go_ret
        exact ⟨rfl, B8.out⟩
end At
end Go.Proofs.YthppjmhocmppfaaDoor
