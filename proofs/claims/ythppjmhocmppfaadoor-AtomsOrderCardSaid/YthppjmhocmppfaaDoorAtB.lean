/- Words of the code, in memory of their own. -/
import Derived.Test.YthppjmhocmppfaaDoorPrW
import Derived.Test.YthppjmhocmppfaaDoorAtA
import Derived.Sort.EncStr
namespace Go.Proofs.YthppjmhocmppfaaDoor
open Go.RowKit Go.Maps Go.Shelf Go.Sort
namespace At
theorem below_froz {B : Nat} {w w' : World} (hb : Below B w w') {g i : Nat} (hg : g < B) : w'.frozen? ⟨g, i, none⟩ = w.frozen? ⟨g, i, none⟩ := by
  unfold World.frozen?
  dsimp only
  rw [hb.block g hg]
/-- A row of words that lies in a block from B on. -/
def RowW (B : Nat) (w : World) (v : Value) (L : List Wd) : Prop :=
  (v = .slice none 0 0 ∧ L = []) ∨ ∃ g cap, v = .slice (some ⟨g, 0, none⟩) L.length cap ∧ L.length ≤ cap ∧ B ≤ g ∧ g < w.heap.size ∧ Holds encStr w g 0 L.toArray
theorem holds_next {w w' : World} {g : Nat} {d : Array Wd} (h : Holds encStr w g 0 d) (hg : g < w.heap.size) (hb : Below w.heap.size w w') : Holds encStr w' g 0 d :=
  fun j hj => ⟨(hb.cell (p := ⟨g, 0 + j, none⟩) hg).trans (h j hj).1, (below_froz hb hg).trans (h j hj).2⟩
theorem RowW.next {B : Nat} {w w' : World} {v : Value} {L : List Wd} (h : RowW B w v L) (hb : Below w.heap.size w w') : RowW B w' v L := by
  rcases h with h | ⟨g, cap, h1, h2, h3, h4, h5⟩
  · exact .inl h
  · exact .inr ⟨g, cap, h1, h2, h3, Nat.lt_of_lt_of_le h4 hb.size, holds_next h5 h4 hb⟩
theorem strs_len (L : List Wd) : (strs (L.map txt)).length = L.length := by simp
theorem strs_at {L : List Wd} {j : Nat} {u : Value} (h : (strs (L.map txt))[j]? = some u) : ∃ x, L[j]? = some x ∧ u = .string (txt x) := by
  simp only [strs, List.getElem?_map, Option.map_map] at h
  cases hx : L[j]? with
  | none => rw [hx] at h; cases h
  | some x => rw [hx] at h; exact ⟨x, rfl, by simpa using h.symm⟩
theorem RowW.rd {B : Nat} {w : World} {v : Value} {L : List Wd} (h : RowW B w v L) : Rd w v (strs (L.map txt)) := by
  rcases h with ⟨rfl, rfl⟩ | ⟨g, cap, rfl, h2, h3, h4, h5⟩
  · exact Rd.nil w
  · refine ⟨some ⟨g, 0, none⟩, cap, by rw [strs_len], fun j u hu => ⟨g, 0, rfl, h4, ?_⟩⟩
    obtain ⟨x, hx, rfl⟩ := strs_at hu
    obtain ⟨hj, e⟩ := List.getElem?_eq_some_iff.1 hx
    have := (h5 j (by simpa using hj)).1
    rw [getElem!_pos L.toArray j (by simpa using hj)] at this
    simpa [e] using this
theorem RowW.new (w : World) (L : List Wd) : RowW w.heap.size (w.alloc (.cells (strs (L.map txt)).toArray 9)) (.slice (some ⟨w.heap.size, 0, none⟩) L.length L.length) L := by
  have hB := Blk.new w 9 (strs (L.map txt)).toArray
  refine .inr ⟨w.heap.size, L.length, rfl, Nat.le_refl _, Nat.le_refl _, hB.lt, fun j hj => ?_⟩
  have hj' : j < L.length := by simpa using hj
  rw [Nat.zero_add]
  refine ⟨hB.at_ ?_, hB.frozen j⟩
  rw [getElem!_pos L.toArray j hj]
  simp [List.getElem?_eq_getElem hj']
theorem split_o (s : ByteArray) (w : World) (hs : s.size < 4294967281) (hm : MaxL w) : Calls Tryd.prog 44 #[.string s, .string ⟨#[0]⟩] w fun e w' => ∃ v, e = .returned v ∧ RowW w.heap.size w' v ((cutAll s.data.toList).1 ++ [(cutAll s.data.toList).2]) ∧ Below w.heap.size w w' := by
  obtain ⟨m, hm⟩ := hm
  refine (Any.strings_Split { splitStr with } splitStr.i9 s ⟨#[0]⟩ m w hs hm (by decide)).mono fun e w' h => ?_
  obtain ⟨rfl, hw⟩ := h
  rw [splitB_cut] at hw
  have hlen := Lib.splitB_all ⟨#[0]⟩ (by decide) 0 _ s rfl
  rw [splitB_cut] at hlen
  subst hw
  rw [List.length_map] at hlen
  refine ⟨_, rfl, ?_, (Below.refl _ _).alloc (Nat.le_refl _) _⟩
  rw [← hlen]
  exact RowW.new w _
set_option maxRecDepth 100000 in
set_option maxHeartbeats 2000000 in
/-- What the code's Words answers. -/
theorem words_o (s : ByteArray) (w : World) (hs : s.size ≤ 1048576) (hm : MaxL w) : Calls Tryd.prog 29 #[.string s] w fun e w' => ∃ v ok, e = .returned (.tuple #[v, .bool ok]) ∧ RowW w.heap.size w' v (wordsL s) ∧ Below w.heap.size w w' := by
  rcases List.eq_nil_or_concat s.data.toList with hl | ⟨t, b, hl⟩
  · have hse : s = ⟨#[]⟩ := by
      apply ByteArray.ext
      exact Array.toList_inj.1 hl
    subst hse
    clear hl hs hm
    go_enter Tryd.func29, Tryd.ntmps29
    go_wp2_with fail
    go_ret2
    exact ⟨_, _, rfl, .inl ⟨rfl, rfl⟩, Below.refl _ _⟩
  · have hne : s ≠ ⟨#[]⟩ := fun e => by rw [e] at hl; simp at hl
    have hE : s.toList.isEmpty = false := by rw [ByteArray.toList_eq, hl]; simp
    have HCS := Lib.hid (cutsuf_c s w (by omega))
    rw [hl, List.concat_eq_append, suffix0] at HCS
    rw [List.concat_eq_append] at hl
    have HL := Lib.hid hl
    have HM := Lib.hid hm
    have HSZ := Lib.hid hs
    clear hl hne hs hm
    by_cases hb : b = 0
    · subst hb
      rw [trim0, show decide ((0 : UInt8) = 0) = true from rfl] at HCS
      have htl : t.length ≤ 1048576 := by
        have h := congrArg List.length HL.out
        have h2 := HSZ.out
        rw [Lib.size_eq] at h2
        rw [h] at h2
        simp at h2
        omega
      have hts : (txt t).size = t.length := by rw [Lib.size_eq]
      have HCL := Lib.hid (fun W => strclone_c (txt t) W (by rw [hts]; omega))
      have HSP := Lib.hid (fun W (hW : Below w.heap.size w W) => split_o (txt t) W (by rw [hts]; omega) (HM.out.next hW))
      clear htl hts
      go_enter Tryd.func29, Tryd.ntmps29
      go_wp2_with (first
        | (go_at_call 43; go_loud ((with_reducible refine (HCS.out).mono ?_); rintro e w1 ⟨rfl, rfl⟩))
        | (go_at_call 45; go_loud ((with_reducible refine (HCL.out _).mono ?_); rintro e w2 ⟨rfl, hb2⟩; have HB2 := Lib.hid hb2; clear hb2))
        | (go_at_call 44; go_loud ((with_reducible refine (HSP.out _ HB2.out).mono ?_); rintro e w3 ⟨v3, rfl, hr3, hb3⟩; have HR3 := Lib.hid (And.intro hr3 HB2.out.size); have HB3 := Lib.hid (hb3.on HB2.out HB2.out.size); clear hr3 hb3)))
      go_ret2
      refine ⟨v3, true, rfl, ?_, HB3.out⟩
      unfold wordsL
      rw [HL.out, cut_end, if_pos rfl]
      rcases HR3.out.1 with ⟨h1, h2⟩ | ⟨g, cap, h1, h2, h3, h4⟩
      · exact .inl ⟨h1, h2⟩
      · exact .inr ⟨g, cap, h1, h2, Nat.le_trans HR3.out.2 h3, h4⟩
    · rw [show decide (b = 0) = false by simpa using hb] at HCS
      have HB := Lib.hid hb
      clear hb
      go_enter Tryd.func29, Tryd.ntmps29
      go_wp2_with (go_at_call 43; go_loud ((with_reducible refine (HCS.out).mono ?_); rintro e w1 ⟨rfl, rfl⟩))
      go_ret2
      refine ⟨_, _, rfl, .inl ⟨rfl, ?_⟩, Below.refl _ _⟩
      unfold wordsL
      rw [HL.out, if_neg (cut_other t HB.out)]
/-- What the document's Words answers. -/
theorem rwords_o (s : ByteArray) (w : World) (hs : s.size ≤ 1048576) : Calls Tryd.prog 48 #[.string s] w fun e w' => ∃ v, e = .returned (.tuple #[v, .bool (decide ((cutAll s.data.toList).2 = []))]) ∧ Rd w' v (strs ((wordsL s).map txt)) ∧ Below w.heap.size w w' := by
  refine (rwords_c s w hs).mono fun e w' h => ?_
  obtain ⟨h1, hb⟩ := h
  unfold wordsL
  by_cases hc : (cutAll s.data.toList).2 = []
  · rw [if_pos hc] at h1 ⊢
    obtain ⟨v, rfl, h2⟩ := h1
    exact ⟨v, by rw [decide_eq_true hc], h2, hb⟩
  · rw [if_neg hc] at h1 ⊢
    subst h1
    exact ⟨_, by rw [decide_eq_false hc], Rd.nil _, hb⟩
theorem wordsL_len (s : ByteArray) : (wordsL s).length ≤ s.size := by
  have := cut_len s.data.toList
  rw [← Lib.size_eq] at this
  unfold wordsL
  split
  · exact this
  · simp
end At
end Go.Proofs.YthppjmhocmppfaaDoor
