/- Words of both, Texts. -/
import Derived.Test.YthppjmhocmppfaaDoorPrM
import Derived.Test.YthppjmhocmppfaaDoorPrV
import Derived.Test.YthppjmhocmppfaaDoorPrS
namespace Go.Proofs.YthppjmhocmppfaaDoor
open Go.RowKit Go.Maps Go.Shelf
/-- internal/bytealg.MaxLen holds an int. -/
def MaxL (w : World) : Prop := ∃ m : Int, w.cell? ⟨0, 0, none⟩ = some (.int .i64 m)
theorem MaxL.next {w w' : World} (h : MaxL w) (hb : Below w.heap.size w w') : MaxL w' := by
  obtain ⟨m, h⟩ := h
  exact ⟨m, (hb.cell (World.block_lt_of_cell? _ _ h)).trans h⟩
theorem strclone_c (s : ByteArray) (w : World) (hs : s.size ≤ 281474976710656) : Calls Tryd.prog 45 #[.string s] w fun e w' => e = .returned (.string s) ∧ Below w.heap.size w w' := by
  have HC := Lib.hid (fun W => Any.stringslite_Clone cloneStr s W hs)
  go_enter Tryd.func45, Tryd.ntmps45
  go_wp2_with (go_at_call 52; refine (HC.out _).mono ?_; rintro e w' ⟨rfl, hb⟩)
  go_ret
  exact ⟨rfl, hb⟩
theorem cutsuf_c (s : ByteArray) (w : World) (hs : s.size ≤ 9223372036854775807) : Calls Tryd.prog 43 #[.string s, .string ⟨#[0]⟩] w fun e w' => e = .returned (.tuple #[.string ⟨(Lib.trimSuffix s.data.toList [0]).toArray⟩, .bool (Lib.hasSuffix s.data.toList [0])]) ∧ w = w' :=
  (Any.strings_CutSuffix { cutStr with } s ⟨#[0]⟩ w hs).mono fun _ _ h => ⟨h.1, h.2.symm⟩
theorem split_c (s : ByteArray) (w : World) (hs : s.size < 4294967281) (hm : MaxL w) : Calls Tryd.prog 44 #[.string s, .string ⟨#[0]⟩] w fun e w' => ∃ v, e = .returned v ∧ Rd w' v (strs (((cutAll s.data.toList).1 ++ [(cutAll s.data.toList).2]).map txt)) ∧ Below w.heap.size w w' := by
  obtain ⟨m, hm⟩ := hm
  refine (Any.strings_Split { splitStr with } splitStr.i9 s ⟨#[0]⟩ m w hs hm (by decide)).mono fun e w' h => ?_
  obtain ⟨rfl, hw⟩ := h
  rw [splitB_cut] at hw
  have hlen := Lib.splitB_all ⟨#[0]⟩ (by decide) 0 _ s rfl
  rw [splitB_cut] at hlen
  subst hw
  refine ⟨_, rfl, ?_, (Below.refl _ _).alloc (Nat.le_refl _) _⟩
  obtain ⟨ws, hws⟩ : ∃ ws, ws = ((cutAll s.data.toList).1 ++ [(cutAll s.data.toList).2]).map txt := ⟨_, rfl⟩
  rw [← hws] at hlen ⊢
  rw [← hlen]
  refine ⟨_, _, by rw [show (strs ws).length = ws.length by simp], fun j u hu => ⟨w.heap.size, 0, rfl, by simp, ?_⟩⟩
  rw [Nat.zero_add]
  exact (Blk.new w _ _).at_ (by simpa using hu)
/-- What both answer. -/
def WdR (s : ByteArray) (w : World) (e : Ending) (w' : World) : Prop :=
  (if (cutAll s.data.toList).2 = [] then ∃ v, e = .returned (.tuple #[v, .bool true]) ∧ Rd w' v (strs ((cutAll s.data.toList).1.map txt)) else e = .returned (.tuple #[.slice none 0 0, .bool false])) ∧ Below w.heap.size w w'
theorem suffix0 (t : List UInt8) (b : UInt8) : Lib.hasSuffix (t ++ [b]) [0] = decide (b = 0) := by
  unfold Lib.hasSuffix
  rw [Bool.eq_iff_iff, List.isSuffixOf_iff_suffix, decide_eq_true_iff]
  constructor
  · intro h
    obtain ⟨u, hu⟩ := h
    have h2 := List.append_inj_right' hu rfl
    injection h2 with h2
    exact h2.symm
  · rintro rfl
    exact ⟨t, rfl⟩
theorem trim0 (t : List UInt8) : Lib.trimSuffix (t ++ [0]) [0] = t := by
  unfold Lib.trimSuffix
  rw [if_pos (by rw [suffix0]; rfl)]
  simp
set_option maxRecDepth 100000 in
set_option maxHeartbeats 2000000 in
theorem words_c (s : ByteArray) (w : World) (hs : s.size ≤ 1048576) (hm : MaxL w) : Calls Tryd.prog 29 #[.string s] w fun e w' => WdR s w e w' := by
  rcases List.eq_nil_or_concat s.data.toList with hl | ⟨t, b, hl⟩
  · have hse : s = ⟨#[]⟩ := by
      apply ByteArray.ext
      exact Array.toList_inj.1 hl
    subst hse
    clear hl hs hm
    go_enter Tryd.func29, Tryd.ntmps29
    go_wp2_with fail
    go_ret2
    exact ⟨⟨_, rfl, Rd.nil _⟩, Below.refl _ _⟩
  · have hne : s ≠ ⟨#[]⟩ := fun e => by rw [e] at hl; simp at hl
    have hE : s.toList.isEmpty = false := by rw [ByteArray.toList_eq, hl]; simp
    have HCS := Lib.hid (cutsuf_c s w (by omega))
    rw [hl, List.concat_eq_append, suffix0] at HCS
    rw [List.concat_eq_append] at hl
    have HL := Lib.hid hl
    have HM := Lib.hid hm
    have HSZ := Lib.hid hs
    clear hl hne hs hm
    by_cases hb : b = 0
    · subst hb
      rw [trim0, show decide ((0 : UInt8) = 0) = true from rfl] at HCS
      have htl : t.length ≤ 1048576 := by
        have h := congrArg List.length HL.out
        have h2 := HSZ.out
        rw [Lib.size_eq] at h2
        rw [h] at h2
        simp at h2
        omega
      have hts : (txt t).size = t.length := by rw [Lib.size_eq]
      have HCL := Lib.hid (fun W => strclone_c (txt t) W (by rw [hts]; omega))
      have HSP := Lib.hid (fun W (hW : Below w.heap.size w W) => split_c (txt t) W (by rw [hts]; omega) (HM.out.next hW))
      clear htl hts
      go_enter Tryd.func29, Tryd.ntmps29
      go_wp2_with (first
        | (go_at_call 43; go_loud ((with_reducible refine (HCS.out).mono ?_); rintro e w1 ⟨rfl, rfl⟩))
        | (go_at_call 45; go_loud ((with_reducible refine (HCL.out _).mono ?_); rintro e w2 ⟨rfl, hb2⟩; have HB2 := Lib.hid hb2; clear hb2))
        | (go_at_call 44; go_loud ((with_reducible refine (HSP.out _ HB2.out).mono ?_); rintro e w3 ⟨v3, rfl, hr3, hb3⟩; have HR3 := Lib.hid hr3; have HB3 := Lib.hid (hb3.on HB2.out HB2.out.size); clear hr3 hb3)))
      go_ret2
      refine ⟨?_, HB3.out⟩
      rw [HL.out, cut_end, if_pos rfl]
      exact ⟨v3, rfl, HR3.out⟩
    · rw [show decide (b = 0) = false by simpa using hb] at HCS
      have HB := Lib.hid hb
      clear hb
      go_enter Tryd.func29, Tryd.ntmps29
      go_wp2_with (go_at_call 43; go_loud ((with_reducible refine (HCS.out).mono ?_); rintro e w1 ⟨rfl, rfl⟩))
      go_ret2
      refine ⟨?_, Below.refl _ _⟩
      rw [HL.out, if_neg (cut_other t HB.out)]
      rfl
theorem cut_take {s : ByteArray} {k : Nat} (h : k < s.size) : cutAll (s.data.toList.take (k + 1)) = cutF (cutAll (s.data.toList.take k)) s[k] := by
  have h1 : s.data.toList[k]? = some s[k] := by
    rw [List.getElem?_eq_getElem (by rw [← Lib.size_eq]; exact h)]; rfl
  rw [List.take_add_one, h1]
  exact cutAll_snoc _ _
theorem ext_txt (s : ByteArray) {f k : Nat} : s.extract f k = txt ((s.data.toList.take k).drop f) := by
  apply ByteArray.ext
  apply Array.toList_inj.1
  rw [Lib.extract_data, List.drop_take]
/-- The rounds of the reference. -/
def WdI (s : ByteArray) (w : World) (k : Nat) (v : Value) (f : Nat) (wr : World) : Prop := f ≤ k ∧ (cutAll (s.data.toList.take k)).2 = (s.data.toList.take k).drop f ∧ Gi 9 w wr v (strs ((cutAll (s.data.toList.take k)).1.map txt))
set_option maxRecDepth 100000 in
set_option maxHeartbeats 2000000 in
theorem rwords_c (s : ByteArray) (w : World) (hs : s.size ≤ 1048576) : Calls Tryd.prog 48 #[.string s] w fun e w' => WdR s w e w' := by
  obtain ⟨i0, hi0, hz0, hz1', hz2⟩ := info_parts strInfo
  obtain ⟨n, hn⟩ : ∃ n, n = s.size := ⟨_, rfl⟩
  have HN := Lib.hid hn
  rw [← hn] at hs
  clear hn
  go_enter Tryd.func48, Tryd.ntmps48
  go_wp2_with fail
  go_loopw [4, 5, 6] (fun v y5 y6 wr => ∃ k f : Nat, k ≤ n ∧ y6 = .int .i64 k ∧ y5 = .int .i64 f ∧ WdI s w k v f wr) (fun _ _ y6 _ => s.size - (intOf y6).toNat)
  case atStart => exact ⟨0, 0, Nat.zero_le _, rfl, rfl, Nat.le_refl _, rfl, Gi.nil w _⟩
  case round =>
    obtain ⟨k, f, hk, rfl, rfl, hf, hcur, hG⟩ := hrel
    have HG := Lib.hid hG
    have HC := Lib.hid hcur
    have k0 : (0 : Int) ≤ (k : Int) := by omega
    have f0 : (0 : Int) ≤ (f : Int) := by omega
    have fk : (f : Int) ≤ (k : Int) := by omega
    clear hG hcur
    by_cases hlt : k < n
    · have k1 : (k : Int) < (s.size : Int) := by have := HN.out; omega
      have k2 : k < s.size := by have := HN.out; omega
      have HCT := Lib.hid (cut_take k2)
      have HLN := Lib.hid (show (strs ((cutAll (s.data.toList.take k)).1.map txt)).length ≤ k from by
        have h := cut_len (s.data.toList.take k)
        rw [List.length_take] at h
        simp only [strs, List.length_map]; omega)
      by_cases hz : s[k] = 0
      · have hz1 : (((s[k].toNat : Nat) : Int) == 0) = true := by rw [hz]; rfl
        rw [hz] at HCT
        clear hz
        go_wp2_with (at_builtin; go_loud (refine wpList_append_own_at _ rfl (.tmp 17) (.tmp 22) 30 rfl w.heap.size 9 i0 (.string ByteArray.empty) 1 16 Tryd.underlying30 hi0 hz0 hz1' hz2 rfl (by decide) _ _ _ rfl (World.ownsRow.alloc HG.out.1 _) ⟨_, 0, none⟩ 1 1 [.string (s.extract f k)] rfl rfl (cell_list_at _ _ [.string (s.extract f k)] _ rfl) (one_strs [s.extract f k]) (by unfold maxLen; have := HLN.out; omega) (by have := HLN.out; omega) (by have := HG.out.2.size; simp; omega) ?_; intro v3 w3 ho3 hg3 _ _; have HP := Lib.hid (Gi.put (us := [.string (s.extract f k)]) HG.out ho3 hg3); clear ho3 hg3))
        go_roundw
        case rel =>
          refine ⟨k + 1, k + 1, by omega, by go_num, by go_num, Nat.le_refl _, ?_, ?_⟩
          · rw [HCT.out, List.drop_of_length_le (by simp; omega)]; rfl
          · have h := HP.out
            rw [ext_txt s, ← HC.out] at h
            rw [HCT.out]
            show Gi _ _ _ _ (strs (((cutAll (List.take k s.data.toList)).1 ++ [(cutAll (List.take k s.data.toList)).2]).map txt))
            rw [List.map_append, strs, List.map_append]
            exact h
        case measure => simp [intOf]; omega
      · have hz1 : (((s[k].toNat : Nat) : Int) == 0) = false := by
          rw [beq_eq_false_iff_ne]
          intro e
          exact hz (UInt8.toNat_inj.1 (by simpa using e))
        have HZ := Lib.hid hz
        clear hz
        go_wp2_with fail
        go_roundw
        case rel =>
          refine ⟨k + 1, f, by omega, by go_num, rfl, by omega, ?_, ?_⟩
          · rw [HCT.out]
            unfold cutF
            rw [if_neg HZ.out, List.take_add_one, List.drop_append_of_le_length (by rw [List.length_take, ← Lib.size_eq]; omega), ← HC.out, List.getElem?_eq_getElem (by rw [← Lib.size_eq]; exact k2)]
            rfl
          · rw [HCT.out]
            unfold cutF
            rw [if_neg HZ.out]
            exact HG.out
        case measure => simp [intOf]; omega
    · obtain rfl : k = n := by omega
      have HT := Lib.hid (show s.data.toList.take k = s.data.toList from List.take_of_length_le (by rw [← Lib.size_eq, ← HN.out]; exact Nat.le_refl _))
      have HLC := Lib.hid (show (cutAll s.data.toList).2.length = k - f from by
        have h := HC.out
        rw [HT.out] at h
        rw [h, List.length_drop, ← Lib.size_eq, ← HN.out])
      have hki : ¬ (k : Int) < (s.size : Int) := by have := HN.out; omega
      by_cases hfk : f < k
      · have hf1 : (f : Int) < (s.size : Int) := by have := HN.out; omega
        go_wp2_with fail
        go_ret2
        refine ⟨?_, HG.out.2⟩
        rw [if_neg (fun e => by have h := HLC.out; rw [e] at h; simp at h; omega)]
        rfl
      · have hf1 : ¬ (f : Int) < (s.size : Int) := by have := HN.out; omega
        go_wp2_with fail
        go_ret2
        refine ⟨?_, HG.out.2⟩
        rw [if_pos (List.eq_nil_of_length_eq_zero (by rw [HLC.out]; omega))]
        have h := HG.out.rd
        rw [HT.out] at h
        exact ⟨_, rfl, h⟩
/-- Are two rows of texts the same? -/
theorem texts_c (va vb : Value) (a b : List ByteArray) (w : World) (ha : Rd w va (strs a)) (hb : Rd w vb (strs b)) (hla : a.length ≤ 1048576) (hlb : b.length ≤ 1048576) :
    Calls Tryd.prog 15 #[va, vb] w fun e w' => e = .returned (.bool (decide (a = b))) ∧ Below w.heap.size w w' := by
  obtain ⟨p, c, rfl, ha⟩ := ha
  obtain ⟨p', c', rfl, hb⟩ := hb
  have ha' := fun (k : Nat) (u : ByteArray) (hu : a[k]? = some u) => ha k (.string u) (by rw [List.getElem?_map, hu]; rfl)
  have hb' := fun (k : Nat) (u : ByteArray) (hu : b[k]? = some u) => hb k (.string u) (by rw [List.getElem?_map, hu]; rfl)
  have HA := Lib.hid ha'
  have HB := Lib.hid hb'
  obtain ⟨n, hn⟩ : ∃ n, n = a.length := ⟨_, rfl⟩
  obtain ⟨n', hn'⟩ : ∃ n', n' = b.length := ⟨_, rfl⟩
  rw [← hn] at hla
  rw [← hn'] at hlb
  rw [show (strs a).length = n by rw [hn]; simp, show (strs b).length = n' by rw [hn']; simp]
  have HN := Lib.hid hn
  have HN' := Lib.hid hn'
  clear ha hb ha' hb' hn hn'
  by_cases hnn : n = n'
  · subst hnn
    go_enter Tryd.func15, Tryd.ntmps15
    go_wp2_with fail
    go_loopw [5] (fun v wr => ∃ k q : Nat, k ≤ n ∧ v = .int .i64 k ∧ wr = w.drewN q ∧ Asd (∀ j, j < k → a[j]? = b[j]?)) (fun v _ => n - (intOf v).toNat)
    case atStart => exact ⟨0, 0, Nat.zero_le _, rfl, rfl, fun j hj => absurd hj (Nat.not_lt_zero _)⟩
    case round =>
      obtain ⟨k, q, hk, rfl, rfl, hA⟩ := hrel
      have HS := Lib.hid (show ∀ j, j < k → a[j]? = b[j]? from hA)
      clear hA
      by_cases hlt : k < n
      · obtain ⟨u, hu⟩ : ∃ u, a[k]? = some u := ⟨_, List.getElem?_eq_getElem (by rw [← HN.out]; exact hlt)⟩
        obtain ⟨u', hu'⟩ : ∃ u, b[k]? = some u := ⟨_, List.getElem?_eq_getElem (by rw [← HN'.out]; exact hlt)⟩
        obtain ⟨g, o, rfl, -, h1⟩ := HA.out k u hu
        obtain ⟨g', o', rfl, -, h2⟩ := HB.out k u' hu'
        have HU := Lib.hid (And.intro hu hu')
        clear hu hu'
        have hi0 : (0 : Int) ≤ (k : Int) := by omega
        have hi1 : (k : Int) < (n : Int) := by omega
        by_cases he : u = u'
        · subst he
          go_wp2_with fail
          go_quiet (fail)
          go_wp2_with fail
          go_roundw
          case rel => exact ⟨k + 1, _, by omega, by go_num, rfl, fun j hj => by
            rcases Nat.lt_or_ge j k with h | h
            · exact HS.out j h
            · obtain rfl : j = k := by omega
              rw [HU.out.1, HU.out.2]⟩
          case measure => simp [intOf]; omega
        · have h3 : (u.toList == u'.toList) = false := by
            rw [beq_eq_false_iff_ne, ByteArray.toList_eq, ByteArray.toList_eq]
            intro e
            exact he (ByteArray.ext (Array.toList_inj.1 e))
          have h4 : (u.toList != u'.toList) = true := by simp [bne, h3]
          have HR := Lib.hid (show decide (a = b) = false by
            rw [decide_eq_false_iff_not]
            intro e
            have := HU.out
            rw [e] at this
            have h5 := this.1.symm.trans this.2
            injection h5 with h5
            exact he h5)
          clear he
          go_wp2_with fail
          go_quiet (fail)
          go_wp2_with fail
          go_ret
          exact ⟨ret_bool HR.out.symm, below_drewN (below_drewN (Below.refl _ _) _) _⟩
      · obtain rfl : k = n := by omega
        have HR := Lib.hid (show decide (a = b) = true by
          rw [decide_eq_true_iff]
          exact list_same (by rw [← HN.out, ← HN'.out]) (fun j hj => HS.out j (by rw [HN.out]; exact hj)))
        go_wp2_with fail
        go_ret
        exact ⟨ret_bool HR.out.symm, below_drewN (Below.refl _ _) _⟩
  · have HR := Lib.hid (show decide (a = b) = false by
      rw [decide_eq_false_iff_not]
      intro e
      apply hnn
      rw [HN.out, HN'.out, e])
    have hne : ((n : Int) == (n' : Int)) = false := by simp; omega
    have hne2 : ((n : Int) != (n' : Int)) = true := by simp [bne, hne]
    clear hnn
    go_enter Tryd.func15, Tryd.ntmps15
    go_wp2_with fail
    go_ret
    exact ⟨ret_bool HR.out.symm, Below.refl _ _⟩
end Go.Proofs.YthppjmhocmppfaaDoor
