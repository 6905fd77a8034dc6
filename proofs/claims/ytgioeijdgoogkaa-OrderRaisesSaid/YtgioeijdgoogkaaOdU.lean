/- The chapter's examples. -/
import Derived.Test.YtgioeijdgoogkaaOdT
namespace Go.Proofs.Ytgioeijdgoogkaa.Od
open Go.RowKit Go.Maps Go.Shelf
set_option linter.unusedSimpArgs false
def l0 : List It := [⟨1, 1, 0, false, 0, 0⟩, ⟨2, 2, 3, false, 0, 0⟩, ⟨3, 4, 0, false, 0, 0⟩]
def lr : List It := [⟨1, 0, 2, false, 0, 0⟩, ⟨2, 0, 1, false, 0, 5⟩]
theorem Ord.of {l : List It} {out : List Int} (h1 : out.length = l.length) (h2 : ∀ k, k < out.length → (decide (out.getD k 0 ∈ cl l) && decide (out.getD k 0 ∉ out.take k) && frB l (out.take k) (out.getD k 0) && (cl l).all fun d => decide (d ∈ out.take k) || !frB l (out.take k) d || decide (d = out.getD k 0) || decide (cfc l (out.getD k 0) d < 0)) = true) : Ord l out := by
  refine ⟨h1, fun k c hc => ?_⟩
  have hk := (List.getElem?_eq_some_iff.1 hc).1
  have hg : out.getD k 0 = c := by rw [List.getD_eq_getElem?_getD, hc]; rfl
  have h := h2 k hk
  rw [hg] at h
  simp only [Bool.and_eq_true, decide_eq_true_eq, List.all_eq_true, Bool.or_eq_true, Bool.not_eq_true'] at h
  obtain ⟨⟨⟨a1, a2⟩, a3⟩, a4⟩ := h
  refine ⟨a1, a2, frB_iff.1 a3, fun d d1 d2 d3 => ?_⟩
  rcases a4 d d1 with ((e | e) | e) | e
  · exact absurd e d2
  · rw [frB_iff.2 d3] at e; cases e
  · exact .inl e
  · exact .inr ((cfc_neg _ _ _).1 e)
theorem OrdR.one {l : List It} {xs ys : List Int} {y z : Int} (h : OrdR l xs y) (k : OrdR l ys z) : xs = ys ∧ y = z := by
  obtain ⟨h1, h2⟩ := h
  obtain ⟨k1, k2⟩ := k
  obtain rfl := h1.one k1
  rcases h2 with ⟨h2, rfl⟩ | ⟨h2, h3⟩ <;> rcases k2 with ⟨k2, rfl⟩ | ⟨k2, k3⟩
  · exact ⟨rfl, rfl⟩
  · exact absurd k2 h2
  · exact absurd h2 k2
  · exact ⟨h3.one k3, rfl⟩
theorem chk0 : ChkR l0 0 := .inr (.inl ⟨by decide, ⟨by unfold Dis; decide +kernel, by decide +kernel⟩, rfl⟩)
theorem chkr : ChkR lr 0 := .inr (.inl ⟨by decide, ⟨by unfold Dis; decide +kernel, by decide +kernel⟩, rfl⟩)
theorem ord0 : OrdR l0 [1, 3, 2] 0 := ⟨chk0, .inr ⟨rfl, Ord.of rfl (by decide +kernel)⟩⟩
theorem bds0 : BdsR l0 [1, 4, 4] := ⟨0, chk0, .inr ⟨rfl, by decide +kernel⟩⟩
theorem ownr : OwnR lr [2, 0] := ⟨0, chkr, .inr ⟨rfl, by decide +kernel⟩⟩
theorem ok0 : OkI l0 := fun j t h => by
  have h1 := List.mem_of_getElem? h
  simp only [l0, List.mem_cons, List.not_mem_nil, or_false] at h1
  rcases h1 with rfl | rfl | rfl <;> (unfold I64; decide)
theorem okr : OkI lr := fun j t h => by
  have h1 := List.mem_of_getElem? h
  simp only [lr, List.mem_cons, List.not_mem_nil, or_false] at h1
  rcases h1 with rfl | rfl <;> (unfold I64; decide)
theorem rdt_blk {w : World} {g : Nat} {l : List It} (h : Blk w g 38 (l.flatMap encT).toArray) : RdT w (.slice (some ⟨g, 0, none⟩) l.length l.length) l := by
  refine ⟨_, _, rfl, fun j x hx => ⟨g, 0, rfl, h.lt, fun i u hu => ?_⟩⟩
  rw [Nat.zero_add]
  refine h.at_ ?_
  have : ∀ (l : List It) (j : Nat), l[j]? = some x → (l.flatMap encT)[j * 6 + i]? = some u := by
    intro l
    induction l with
    | nil => intro j h; simp at h
    | cons a t ih =>
      intro j hj
      have hi : i < 6 := by have := (List.getElem?_eq_some_iff.1 hu).1; simpa [encT] using this
      cases j with
      | zero =>
        simp at hj; subst hj
        rw [List.flatMap_cons, List.getElem?_append_left (by simp [encT]; omega)]
        simpa using hu
      | succ j =>
        rw [List.flatMap_cons, List.getElem?_append_right (by simp [encT]; omega)]
        have e : (j + 1) * 6 + i - (encT a).length = j * 6 + i := by simp [encT]; omega
        rw [e]
        exact ih j (by simpa using hj)
  simpa using this l j hx
theorem ints_t (v1 v2 : Value) (xs : List Int) (w : World) (h1 : RdI w v1 xs) (h2 : RdI w v2 xs) (hn : xs.length ≤ 9223372036854775807) :
    Calls Try.prog 11 #[v1, v2] w fun e w' => e = .returned (.bool true) ∧ Below w.heap.size w w' := by
  have h := ints_c v1 v2 xs xs w h1 h2 hn
  rwa [show decide (xs = xs) = true by simp] at h
set_option maxHeartbeats 1000000 in
set_option maxRecDepth 100000 in
theorem awake_c (w : World) : Calls Try.prog 16 #[] w fun e w' => e = .returned (.bool true) ∧ Below w.heap.size w w' := by
  have HOR := Lib.hid (fun v W h => Order_c v l0 W h ok0)
  have HBS := Lib.hid (fun v W h => Bands_c v l0 W h ok0)
  have HOW := Lib.hid (fun v W h => Owners_c v lr W h okr)
  have HIN := Lib.hid (fun v1 v2 xs W h1 h2 h3 => ints_t v1 v2 xs W h1 h2 h3)
  obtain ⟨wa, hwa⟩ : ∃ u, u = w.alloc (.cells (l0.flatMap encT).toArray 38) := ⟨_, rfl⟩
  have hQ : Blk wa w.heap.size 38 (l0.flatMap encT).toArray := by rw [hwa]; exact Blk.new _ _ _
  have HBa := Lib.hid (show Below w.heap.size w wa by rw [hwa]; exact (Below.refl _ _).alloc (Nat.le_refl _) _)
  have HRa := Lib.hid (show RdT wa (.slice (some ⟨w.heap.size, 0, none⟩) 3 3) l0 from rdt_blk hQ)
  have HC1 := Lib.hid (HOR.out _ wa HRa.out)
  have HWA := Lib.hid (show w.alloc (.cells #[.int .i64 1, .int .i64 1, .int .i64 0, .bool false, .int .i64 0, .int .i64 0, .int .i64 2, .int .i64 2, .int .i64 3, .bool false, .int .i64 0, .int .i64 0, .int .i64 3, .int .i64 4, .int .i64 0, .bool false, .int .i64 0, .int .i64 0] 38) = wa from hwa.symm)
  clear hwa hQ HOR
  go_enter Try.func16, Try.ntmps16
  go_upto_region 2 with fail
  rewrite [HWA.out]
  clear HWA
  go_wp2_with fail
  with_reducible refine HC1.out.mono ?_
  rintro e w1 ⟨v1, zs1, z1, rfl, hr1, ho1, hb⟩
  obtain ⟨rfl, rfl⟩ := ho1.one ord0
  have HB1 := Lib.hid (HBa.out.trans (hb.mono HBa.out.size))
  have HR1 := Lib.hid hr1
  have HRl := Lib.hid (HRa.out.below hb)
  obtain ⟨wb, hwb⟩ : ∃ u, u = w1.alloc (.cells (lr.flatMap encT).toArray 38) := ⟨_, rfl⟩
  have hQ : Blk wb w1.heap.size 38 (lr.flatMap encT).toArray := by rw [hwb]; exact Blk.new _ _ _
  have hBb : Below w1.heap.size w1 wb := by rw [hwb]; exact (Below.refl _ _).alloc (Nat.le_refl _) _
  have HBb := Lib.hid hBb
  have HRr := Lib.hid (show RdT wb (.slice (some ⟨w1.heap.size, 0, none⟩) 2 2) lr from rdt_blk hQ)
  have HWB := Lib.hid (show w1.alloc (.cells #[.int .i64 1, .int .i64 0, .int .i64 2, .bool false, .int .i64 0, .int .i64 0, .int .i64 2, .int .i64 0, .int .i64 1, .bool false, .int .i64 0, .int .i64 5] 38) = wb from hwb.symm)
  have HLT := Lib.hid (fun (W : World) (xs : List Int) => (RdI.blk (w := W.alloc (.cells (arrI xs) 3)) (g := W.heap.size) (n := xs.length) (c := xs.length) (Blk.new _ _ _) rfl))
  obtain ⟨gr, hgr⟩ : ∃ g, g = w1.heap.size := ⟨_, rfl⟩
  have HGR := Lib.hid hgr
  rw [← hgr] at HRr
  clear hb hr1 ho1 hwb hQ hBb HC1 hgr
  go_upto_region 4 with fail
  rewrite [HWB.out, ← HGR.out]
  clear HWB
  go_wp2_with fail
  have hbx := (Below.refl wb.heap.size wb).alloc (Nat.le_refl _) (.cells (arrI [1, 3, 2]) 3)
  have HI1 := Lib.hid (show Calls Try.prog 11 #[v1, .slice (some ⟨wb.heap.size, 0, none⟩) 3 3] (wb.alloc (.cells #[.int .i64 1, .int .i64 3, .int .i64 2] 3)) fun e w' => e = .returned (.bool true) ∧ Below (wb.alloc (.cells #[.int .i64 1, .int .i64 3, .int .i64 2] 3)).heap.size (wb.alloc (.cells #[.int .i64 1, .int .i64 3, .int .i64 2] 3)) w' from HIN.out v1 _ [1, 3, 2] _ ((HR1.out.below HBb.out).below hbx) (HLT.out wb [1, 3, 2]) (by decide))
  have HX1 := Lib.hid hbx
  clear hbx
  with_reducible refine HI1.out.mono ?_
  rintro e w2 ⟨rfl, hb⟩
  have HB2 := Lib.hid (HBb.out.trans ((HX1.out.trans (hb.mono HX1.out.size)).mono HBb.out.size))
  have HC2 := Lib.hid (HBS.out _ w2 (HRl.out.below HB2.out))
  have HB2w := Lib.hid (HB1.out.trans (HB2.out.mono HB1.out.size))
  have HR2 := Lib.hid ((HRr.out.below HX1.out).below hb)
  clear hb HI1 HX1 HBS
  go_wp2_with fail
  with_reducible refine HC2.out.mono ?_
  rintro e w3 ⟨v3, zs3, rfl, hr3, ho3, hb⟩
  obtain rfl := ho3.one bds0
  have HB3 := Lib.hid (HB2w.out.trans (hb.mono HB2w.out.size))
  have hbx := (Below.refl w3.heap.size w3).alloc (Nat.le_refl _) (.cells (arrI [1, 4, 4]) 3)
  have HI3 := Lib.hid (show Calls Try.prog 11 #[v3, .slice (some ⟨w3.heap.size, 0, none⟩) 3 3] (w3.alloc (.cells #[.int .i64 1, .int .i64 4, .int .i64 4] 3)) fun e w' => e = .returned (.bool true) ∧ Below (w3.alloc (.cells #[.int .i64 1, .int .i64 4, .int .i64 4] 3)).heap.size (w3.alloc (.cells #[.int .i64 1, .int .i64 4, .int .i64 4] 3)) w' from HIN.out v3 _ [1, 4, 4] _ (hr3.below hbx) (HLT.out w3 [1, 4, 4]) (by decide))
  have HR3 := Lib.hid ((HR2.out.below hb).below hbx)
  have HX3 := Lib.hid hbx
  clear hb hr3 ho3 hbx HC2
  go_wp2_with fail
  with_reducible refine HI3.out.mono ?_
  rintro e w4 ⟨rfl, hb⟩
  have HB4 := Lib.hid (HB3.out.trans ((HX3.out.trans (hb.mono HX3.out.size)).mono HB3.out.size))
  have HC4 := Lib.hid (HOW.out _ w4 (HR3.out.below hb))
  clear hb HI3 HX3 HOW
  go_wp2_with fail
  with_reducible refine HC4.out.mono ?_
  rintro e w5 ⟨v5, zs5, rfl, hr5, ho5, hb⟩
  obtain rfl := ho5.one ownr
  have HB5 := Lib.hid (HB4.out.trans (hb.mono HB4.out.size))
  have hbx := (Below.refl w5.heap.size w5).alloc (Nat.le_refl _) (.cells (arrI [2, 0]) 3)
  have HI5 := Lib.hid (show Calls Try.prog 11 #[v5, .slice (some ⟨w5.heap.size, 0, none⟩) 2 2] (w5.alloc (.cells #[.int .i64 2, .int .i64 0] 3)) fun e w' => e = .returned (.bool true) ∧ Below (w5.alloc (.cells #[.int .i64 2, .int .i64 0] 3)).heap.size (w5.alloc (.cells #[.int .i64 2, .int .i64 0] 3)) w' from HIN.out v5 _ [2, 0] _ (hr5.below hbx) (HLT.out w5 [2, 0]) (by decide))
  have HX5 := Lib.hid hbx
  clear hb hr5 ho5 hbx HC4
  go_wp2_with fail
  with_reducible refine HI5.out.mono ?_
  rintro e w6 ⟨rfl, hb⟩
  have HB6 := Lib.hid (HB5.out.trans ((HX5.out.trans (hb.mono HX5.out.size)).mono HB5.out.size))
  clear hb
  go_wp2_with fail
  go_ret
  exact ⟨rfl, HB6.out⟩
end Go.Proofs.Ytgioeijdgoogkaa.Od
