/- The document's List, walked. -/
import Derived.Test.YtfdgpbdppenhmaaGreatSbc
import Derived.Laws.AppendOwnNone
section
namespace Go.Proofs.YtfdgpbdppenhmaaGreat.Pp
open Go.RowKit Go.Shelf Go.Maps Go.Sort
theorem OP.form {w : World} {B : Nat} {v : Value} {l : List Pr} (h : OwK encP 35 3 w B v l) : (v = .slice none 0 0 ∧ l = []) ∨ ∃ g cap, v = .slice (some ⟨g, 0, none⟩) l.length cap ∧ l.length ≤ cap ∧ g < w.heap.size ∧ ∀ (j : Nat) (u : Value), (l.flatMap encP)[j]? = some u → w.cell? ⟨g, j, none⟩ = some u := by
  rcases h.2 with ⟨k1, k2⟩ | ⟨g, cap, cur, k1, _, _, k2, _⟩
  · exact .inl ⟨k1, List.eq_nil_of_length_eq_zero k2⟩
  · subst k1
    refine .inr ⟨g, cap, rfl, k2, (OwK.lt h rfl).2, fun j u hu => ?_⟩
    have h3 := (List.getElem?_eq_some_iff.1 hu).1
    rw [flat_len encP_len] at h3
    exact (World.ownsRow.cellAt h _ h3).trans hu
def Qs (w0 : World) (g : Nat) (l : List Pr) (v : Value) (zs : List Pr) (wx : World) : Prop :=
  (∀ (j : Nat) (u : Value), (l.flatMap encP)[j]? = some u → wx.cell? ⟨g, j, none⟩ = some u) ∧ g < w0.heap.size ∧ OwK encP 35 3 wx w0.heap.size v zs ∧ Below w0.heap.size w0 wx
theorem Qs.made {w0 : World} {g : Nat} {l : List Pr} (hc : ∀ (j : Nat) (u : Value), (l.flatMap encP)[j]? = some u → w0.cell? ⟨g, j, none⟩ = some u) (hg : g < w0.heap.size) :
    Qs w0 g l (.slice (some ⟨w0.heap.size, 0, none⟩) 0 0) [] (w0.alloc (.cells #[] 35)) :=
  ⟨fun j u hu => (((Below.refl _ w0).alloc (Nat.le_refl _) _).cell (p := ⟨g, j, none⟩) hg).trans (hc j u hu), hg, World.ownsRow_made w0 #[] 0 (Nat.le_refl _) (by decide) rfl, (Below.refl _ _).alloc (Nat.le_refl _) _⟩
section
variable {w0 wx w1 : World} {g : Nat} {v v' : Value} {l zs zs' : List Pr}
theorem Qs.alloc (h : Qs w0 g l v zs wx) (o : Obj) : Qs w0 g l v zs (wx.alloc o) := by
  have hb := (Below.refl _ wx).alloc (Nat.le_refl _) o
  exact ⟨fun j u hu => (hb.cell (p := ⟨g, j, none⟩) (World.block_lt_of_cell? _ _ (h.1 j u hu))).trans (h.1 j u hu), h.2.1, h.2.2.1.below hb, h.2.2.2.trans (hb.mono h.2.2.2.size)⟩
theorem Qs.put (h : Qs w0 g l v zs wx) (hg : wx.grownBy w1 v.ownBlock) (ho : w1.ownsRow w0.heap.size 35 3 v' zs'.length (zs'.flatMap encP)) : Qs w0 g l v' zs' w1 := by
  refine ⟨fun j u hu => hg.cell (h.1 j u hu) (fun e => ?_), h.2.1, ho, below_only h.2.2.2 hg h.2.2.2.size (fun k hk => (h.2.2.1.lt hk).1)⟩
  have h1 := (h.2.2.1.lt e.symm).1; have h2 := h.2.1; dsimp only at h1; omega
theorem flat_take (k : Nat) (l : List Pr) : (l.take k).flatMap encP = (l.flatMap encP).take (k * 3) := by
  induction l generalizing k with
  | nil => simp
  | cons x t ih =>
    cases k with
    | zero => simp
    | succ k =>
      have e : List.take ((k + 1) * 3) (encP x) = encP x := List.take_of_length_le (by rw [encP_len]; omega)
      rw [List.take_succ_cons, List.flatMap_cons, List.flatMap_cons, ih, List.take_append, e, encP_len, show (k + 1) * 3 - 3 = k * 3 by omega]
theorem flat_drop (k : Nat) (l : List Pr) : (l.drop k).flatMap encP = (l.flatMap encP).drop (k * 3) := by
  induction l generalizing k with
  | nil => simp
  | cons x t ih =>
    cases k with
    | zero => simp
    | succ k =>
      have e : List.drop ((k + 1) * 3) (encP x) = [] := List.drop_of_length_le (by rw [encP_len]; omega)
      rw [List.drop_succ_cons, List.flatMap_cons, ih, List.drop_append, e, encP_len, show (k + 1) * 3 - 3 = k * 3 by omega]; rfl
theorem Qs.take (h : Qs w0 g l v zs wx) (k : Nat) : ∀ (j : Nat) (u : Value), ((l.take k).flatMap encP)[j]? = some u → wx.cell? ((⟨g, 0, none⟩ : Addr).add j) = some u := fun j u hu => by
  have hj := (List.getElem?_eq_some_iff.1 hu).1
  rw [flat_take, List.length_take] at hj
  rw [flat_take, List.getElem?_take_of_lt (by omega)] at hu
  rw [Addr.add_lit, Nat.zero_add]; exact h.1 j u hu
theorem Qs.drop (h : Qs w0 g l v zs wx) (k : Nat) : ∀ (j : Nat) (u : Value), ((l.drop k).flatMap encP)[j]? = some u → wx.cell? ((⟨g, k * 3, none⟩ : Addr).add j) = some u := fun j u hu => by
  rw [flat_drop, List.getElem?_drop] at hu
  rw [Addr.add_lit]; exact h.1 _ u hu
end
theorem one_flat (l : List Pr) : ∀ q ∈ l.flatMap encP, q.oneCell' = true := fun q hq => by
  obtain ⟨v, -, hv⟩ := List.mem_flatMap.1 hq
  exact oneCell_encP v q hv
set_option maxRecDepth 100000 in
set_option maxHeartbeats 8000000 in
theorem rlist_c {w : World} {v : Value} {L : List Hd} (h : RdH w v L) (hL : L.length ≤ 1048576) (i : Int) :
    Calls Tryz.prog 134 #[v, .int .i64 i] w fun e w' => ∃ v', e = .returned v' ∧ OwK encP 35 3 w' w.heap.size v' (listR L i) ∧ Below w.heap.size w w' := by
  obtain ⟨i0, hi0, hz0, hz1, hz2⟩ := info_parts propInfo
  obtain ⟨p, c, rfl, hc⟩ := h
  obtain ⟨n, hn⟩ : ∃ n, n = L.length := ⟨_, rfl⟩
  rw [← hn] at hL ⊢
  have HC := Lib.hid (fun (wr : World) (hr : Below w.heap.size w wr) (j : Nat) (x : Hd) (hx : L[j]? = some x) => (show ∃ b o, p = some ⟨b, o, none⟩ ∧ ∀ (i : Nat) (u : Value), x.cells[i]? = some u → wr.cell? ⟨b, o + j * 4 + i, none⟩ = some u from by
    obtain ⟨b, o, h1, h2, h3⟩ := hc j x hx
    exact ⟨b, o, h1, fun i u hu => (hr.cell (p := ⟨b, o + j * 4 + i, none⟩) h2).trans (h3 i u hu)⟩))
  have HN := Lib.hid hn
  have HLN := Lib.hid (fun k => (show (listR (L.take k) i).length ≤ L.length from by
    rw [listR_len]; exact filter_len _ L k))
  have hm0 : (n : Int) ≤ 1048576 := by omega
  clear hc hn
  go_enter Tryz.func134, Tryz.ntmps134
  go_wp2_with fail
  go_loopw [5, 6] (fun y z wr => ∃ k : Nat, k ≤ n ∧ z = .int .i64 k ∧ OwK encP 35 3 wr w.heap.size y (listR (L.take k) i) ∧ Below w.heap.size w wr) (fun _ z _ => n - (intOf z).toNat)
  case atStart => exact ⟨0, Nat.zero_le _, rfl, OwK.nil _ _, Below.refl _ _⟩
  case round =>
    obtain ⟨ii, hk, rfl, hO, hBl⟩ := hrel
    have HO := Lib.hid hO
    have HBL := Lib.hid hBl
    have hi0' : (0 : Int) ≤ (ii : Int) := by omega
    by_cases hlt : ii < n
    · obtain ⟨x, hx⟩ : ∃ x, L[ii]? = some x := ⟨_, List.getElem?_eq_getElem (by rw [← HN.out]; exact hlt)⟩
      have HXC0 := Lib.hid (fun W hW => HC.out W hW ii x hx)
      obtain ⟨b, o, rfl, hb2⟩ := HC.out wr hBl ii x hx
      obtain ⟨xw, pp⟩ := x
      have hsn : listR (L.take (ii + 1)) i = if xw = i then insP pp (listR (L.take ii) i) else listR (L.take ii) i := by rw [take_snoc_get hx, listR_snoc]
      have r0 := hb2 0 _ rfl
      have r1 := hb2 1 _ rfl
      have r2 := hb2 2 _ rfl
      have r3 := hb2 3 _ rfl
      simp only [Nat.add_zero] at r0
      have HXC := Lib.hid (fun W (hW : Below w.heap.size w W) => (show W.cell? ⟨b, o + ii * 4 + 1, none⟩ = some (.string pp.name) ∧ W.cell? ⟨b, o + ii * 4 + 1 + 1, none⟩ = some (.string pp.typ) ∧ W.cell? ⟨b, o + ii * 4 + 1 + 2, none⟩ = some (.string pp.data) from by
        obtain ⟨b', o', e, hh⟩ := HXC0.out W hW
        injection e with e
        injection e with e1 e2
        subst e1 e2
        exact ⟨hh 1 _ rfl, hh 2 _ rfl, hh 3 _ rfl⟩))
      clear hb2 hx hO HXC0
      have hi1 : (ii : Int) < (n : Int) := by omega
      by_cases hvi : xw = i
      · have h1 : (xw == i) = true := by simpa using hvi
        have h2 : (xw != i) = false := by simpa using hvi
        rw [if_pos hvi] at hsn
        have HSN := Lib.hid hsn
        clear hvi hsn
        obtain ⟨l, hl⟩ : ∃ l, l = listR (L.take ii) i := ⟨_, rfl⟩
        have HLM0 := Lib.hid (show l.length ≤ 1048576 from by rw [hl]; exact Nat.le_trans (HLN.out ii) (by rw [← HN.out]; omega))
        have HO' := Lib.hid (show OwK encP 35 3 wr w.heap.size _ l from hl ▸ HO.out)
        have HSN' := Lib.hid (show listR (L.take (ii + 1)) i = insP pp l from hl ▸ HSN.out)
        clear hl HSN HO
        rcases OP.form HO'.out with ⟨rfl, rfl⟩ | ⟨g, cap, rfl, hcap, hg, hfl⟩
        · go_wp2_with fail
          go_loopw [7] (fun z wq => ∃ q : Nat, z = .int .i64 0 ∧ wq = wr.drewN q) (fun z _ => 0)
          case atStart => exact ⟨0, rfl, rfl⟩
          case round =>
            obtain ⟨q, rfl, rfl⟩ := hrel
            go_upto_region 7 with fail
            go_wp2_with fail
            go_quiet (fail)
            have hbq : Below wr.heap.size wr ((wr.drewN q).drewN nq) := below_drewN (below_drewN (Below.refl _ _) _) _
            generalize (wr.drewN q).drewN nq = w0 at hbq ⊢
            have HBQ := Lib.hid (hbq.on hBl hBl.size)
            have hO1 : OwK encP 35 3 (w0.alloc (.cells #[] 35)) w0.heap.size (.slice (some ⟨w0.heap.size, 0, none⟩) 0 0) [] := World.ownsRow_made w0 #[] 0 (Nat.le_refl _) (by decide) rfl
            have HO1 := Lib.hid hO1
            clear hO1 hbq r0 r1 r2 r3
            go_upto_region 9 with fail
            have HB1 := Lib.hid (HBQ.out.alloc HBQ.out.size (.cells #[] 35))
            have HZ1 := Lib.hid (show w0.heap.size ≤ (w0.alloc (.cells #[] 35)).heap.size by simp)
            obtain ⟨r1, r2, r3⟩ := HXC.out _ HB1.out
            go_wp2_with (first
              | (at_builtin; refine wpList_append_own_none rfl (.tmp 42) (.tmp 45) 169 rfl w0.heap.size 35 i0 3 Tryz.underlying169 hi0 _ _ _ rfl HO1.out rfl ?_)
              | (at_builtin; (refine wpList_append_own_at _ rfl (.tmp 47) (.tmp 53) 169 rfl w0.heap.size 35 i0 (.agg #[.string ByteArray.empty, .string ByteArray.empty, .string ByteArray.empty]) 3 48 Tryz.underlying169 hi0 hz0 hz1 hz2 rfl (by decide) _ _ _ rfl (World.ownsRow.alloc HO1.out _) ⟨_, 0, none⟩ 1 1 (encP pp) rfl rfl (cell_list_at _ _ (encP pp) _ (by simp)) (oneCell_encP pp) (by decide) (by decide) (by have := HZ1.out; simp; omega) ?_; intro v2 w2 ho2 hg2 _ _; have HO2 := Lib.hid (show OwK encP 35 3 w2 w0.heap.size v2 [pp] from ho2); have HB2 := Lib.hid (below_only (HB1.out.alloc HB1.out.size (.cells #[.string pp.name, .string pp.typ, .string pp.data] 35)) hg2 (by have := HB1.out.size; simp at this ⊢; omega) (fun k hk => Nat.le_trans HBQ.out.size (OwK.lt HO1.out hk).1)); clear ho2 hg2))
              | (at_builtin; refine wpList_append_own_none rfl (.tmp 55) (.tmp 58) 169 rfl w0.heap.size 35 i0 3 Tryz.underlying169 hi0 _ _ _ rfl HO2.out rfl ?_))
            go_roundw
            case rel => exact ⟨ii + 1, by omega, by go_num, by rw [HSN'.out]; exact HO2.out.less HBQ.out.size, HB2.out⟩
            case measure => simp [intOf]; omega
        · obtain ⟨m, hm⟩ : ∃ m, m = l.length := ⟨_, rfl⟩
          rw [← hm] at hcap ⊢
          have HM := Lib.hid hm
          have HLM := Lib.hid (show m ≤ 1048576 from by rw [hm]; exact HLM0.out)
          have HFL0 := Lib.hid hfl
          have HGL0 := Lib.hid hg
          have HBL2 := Lib.hid hBl
          clear hm hfl hg
          go_wp2_with fail
          go_loopw [7] (fun z wq => ∃ k q : Nat, k ≤ m ∧ z = .int .i64 k ∧ Asd (∀ j x, j < k → l[j]? = some x → nm x < nm pp) ∧ wq = wr.drewN q) (fun z _ => m - (intOf z).toNat)
          case atStart => exact ⟨0, 0, Nat.zero_le _, rfl, fun j x hj => absurd hj (Nat.not_lt_zero _), rfl⟩
          case round =>
            obtain ⟨k, q, hkm, rfl, hA, rfl⟩ := hrel
            have HJ := Lib.hid (show ∀ j x, j < k → l[j]? = some x → nm x < nm pp from hA)
            have hk0 : (0 : Int) ≤ (k : Int) := by omega
            have hkc : (k : Int) ≤ (cap : Int) := by omega
            have hkm' : (k : Int) ≤ (m : Int) := by omega
            clear hA
            by_cases hlt2 : k < m
            · have hk1 : (k : Int) < (m : Int) := by omega
              obtain ⟨y, hy⟩ : ∃ y, l[k]? = some y := ⟨_, List.getElem?_eq_getElem (by rw [← HM.out]; exact hlt2)⟩
              have c0 := HFL0.out (k * 3 + 0) _ (flat_get encP_len l k y 0 _ hy rfl)
              rw [Nat.add_zero] at c0
              have HY := Lib.hid hy
              clear hy
              by_cases hxn : nm y < nm pp
              · have h5 : Op.bytesLess y.name.toList pp.name.toList = true := by rw [bytesLess_eq, decide_eq_true_iff, ByteArray.toList_eq, ByteArray.toList_eq]; exact hxn
                have hs9 : (k : Int) + 1 ≤ 9223372036854775807 := by have := HLM.out; omega
                have hwr : wrap64 ((k : Int) + 1) = (k : Int) + 1 := by unfold wrap64; omega
                go_wp2_with fail
                go_quiet (fail)
                go_wp2_with fail
                go_roundw
                case rel => exact ⟨k + 1, _, by omega, by go_num, fun j x hj hx => by
                  rcases Nat.lt_or_ge j k with hjk | hjk
                  · exact HJ.out j x hjk hx
                  · obtain rfl : j = k := by omega
                    rw [HY.out] at hx; injection hx with hx; rw [← hx]; exact hxn, rfl⟩
                case measure => simp [intOf]; omega
              · have h5 : Op.bytesLess y.name.toList pp.name.toList = false := by rw [bytesLess_eq, decide_eq_false_iff_not, ByteArray.toList_eq, ByteArray.toList_eq]; exact hxn
                have HIN := Lib.hid (ins_at k l (by rw [← HM.out]; omega) HJ.out (fun x hx => by rw [HY.out] at hx; injection hx with hx; rw [← hx]; exact hxn))
                go_wp2_with fail
                go_quiet (fail)
                have hbq : Below wr.heap.size wr ((wr.drewN q).drewN nq) := below_drewN (below_drewN (Below.refl _ _) _) _
                have HFL := Lib.hid (show ∀ (j : Nat) (u : Value), (l.flatMap encP)[j]? = some u → ((wr.drewN q).drewN nq).cell? ⟨g, j, none⟩ = some u from HFL0.out)
                have HGL := Lib.hid (show g < ((wr.drewN q).drewN nq).heap.size from HGL0.out)
                have hfl2 := HFL.out
                have hgl2 := HGL.out
                clear HFL HGL
                generalize (wr.drewN q).drewN nq = w0 at hbq hfl2 hgl2 ⊢
                have HFL := Lib.hid hfl2
                have HGL := Lib.hid hgl2
                have HBQ := Lib.hid (hbq.on HBL2.out HBL2.out.size)
                clear hfl2 hgl2 hbq r0 r1 r2 r3
                go_upto_region 9 with fail
                go_upto_region 10 with (at_builtin; (refine wpList_append_own_at _ rfl (.tmp 42) (.tmp 45) 169 rfl w0.heap.size 35 i0 (.agg #[.string ByteArray.empty, .string ByteArray.empty, .string ByteArray.empty]) 3 48 Tryz.underlying169 hi0 hz0 hz1 hz2 rfl (by decide) _ _ _ rfl (Qs.made HFL.out HGL.out).2.2.1 ⟨g, 0, none⟩ k _ ((l.take k).flatMap encP) rfl (by rw [flat_len encP_len, List.length_take, Nat.min_eq_left (by have := HM.out; omega)]) ((Qs.made HFL.out HGL.out).take k) (one_flat _) (by unfold maxLen; have := HLM.out; simp; omega) (by have := HLM.out; simp; omega) (by simp) ?_; intro v1 w1 ho1 hg1 _ _; have P1 := Lib.hid ((Qs.made HFL.out HGL.out).put hg1 (zs' := l.take k) (by rw [List.length_take, Nat.min_eq_left (by have := HM.out; omega)]; simpa using ho1)); clear ho1 hg1))
                have HB1 := Lib.hid (P1.out.2.2.2.on HBQ.out HBQ.out.size)
                obtain ⟨r1, r2, r3⟩ := HXC.out _ HB1.out
                go_wp2_with (first
                  | (at_builtin; (refine wpList_append_own_at _ rfl (.tmp 47) (.tmp 53) 169 rfl w0.heap.size 35 i0 (.agg #[.string ByteArray.empty, .string ByteArray.empty, .string ByteArray.empty]) 3 48 Tryz.underlying169 hi0 hz0 hz1 hz2 rfl (by decide) _ _ _ rfl (P1.out.alloc _).2.2.1 ⟨_, 0, none⟩ 1 1 (encP pp) rfl rfl (cell_list_at _ _ (encP pp) _ rfl) (oneCell_encP pp) (by unfold maxLen; have := HLM.out; simp; omega) (by have := HLM.out; simp; omega) (P1.out.alloc _).2.2.2.size ?_; intro v2 w2 ho2 hg2 _ _; have P2 := Lib.hid ((P1.out.alloc _).put hg2 (zs' := l.take k ++ [pp]) (by rw [List.length_append, List.flatMap_append]; simpa using ho2)); clear ho2 hg2))
                  | (at_builtin; (refine wpList_append_own_at _ rfl (.tmp 55) (.tmp 58) 169 rfl w0.heap.size 35 i0 (.agg #[.string ByteArray.empty, .string ByteArray.empty, .string ByteArray.empty]) 3 48 Tryz.underlying169 hi0 hz0 hz1 hz2 rfl (by decide) _ _ _ rfl P2.out.2.2.1 ⟨g, k * 3, none⟩ (m - k) (cap - k) ((l.drop k).flatMap encP) rfl (by rw [flat_len encP_len, List.length_drop, ← HM.out]) (P2.out.drop k) (one_flat _) (by unfold maxLen; have := HLM.out; simp; omega) (by have := HLM.out; simp; omega) P2.out.2.2.2.size ?_; intro v3 w3 ho3 hg3 _ _; have P3 := Lib.hid (P2.out.put hg3 (zs' := l.take k ++ [pp] ++ l.drop k) (by rw [List.length_append (bs := l.drop k), List.length_drop, ← HM.out, List.flatMap_append (ys := l.drop k)]; exact ho3)); clear ho3 hg3)))
                go_roundw
                case rel => exact ⟨ii + 1, by omega, by go_num, by rw [HSN'.out, HIN.out]; exact P3.out.2.2.1.less HBQ.out.size, P3.out.2.2.2.on HBQ.out HBQ.out.size⟩
                case measure => simp [intOf]; omega
            · obtain rfl : k = m := by omega
              have hk1 : ¬ (k : Int) < (k : Int) := by omega
              have HIN := Lib.hid (ins_at k l (by rw [← HM.out]; omega) HJ.out (fun x hx => by rw [HM.out] at hx; simp at hx))
              rcases Nat.lt_or_ge k cap with hcm | hcm
              · go_wp2_with fail
                go_quiet (fail)
                have hbq : Below wr.heap.size wr ((wr.drewN q).drewN nq) := below_drewN (below_drewN (Below.refl _ _) _) _
                have HFL := Lib.hid (show ∀ (j : Nat) (u : Value), (l.flatMap encP)[j]? = some u → ((wr.drewN q).drewN nq).cell? ⟨g, j, none⟩ = some u from HFL0.out)
                have HGL := Lib.hid (show g < ((wr.drewN q).drewN nq).heap.size from HGL0.out)
                have hfl2 := HFL.out
                have hgl2 := HGL.out
                clear HFL HGL
                generalize (wr.drewN q).drewN nq = w0 at hbq hfl2 hgl2 ⊢
                have HFL := Lib.hid hfl2
                have HGL := Lib.hid hgl2
                have HBQ := Lib.hid (hbq.on HBL2.out HBL2.out.size)
                clear hfl2 hgl2 hbq r0 r1 r2 r3
                go_upto_region 9 with fail
                go_upto_region 10 with (at_builtin; (refine wpList_append_own_at _ rfl (.tmp 42) (.tmp 45) 169 rfl w0.heap.size 35 i0 (.agg #[.string ByteArray.empty, .string ByteArray.empty, .string ByteArray.empty]) 3 48 Tryz.underlying169 hi0 hz0 hz1 hz2 rfl (by decide) _ _ _ rfl (Qs.made HFL.out HGL.out).2.2.1 ⟨g, 0, none⟩ k _ ((l.take k).flatMap encP) rfl (by rw [flat_len encP_len, List.length_take, Nat.min_eq_left (by have := HM.out; omega)]) ((Qs.made HFL.out HGL.out).take k) (one_flat _) (by unfold maxLen; have := HLM.out; simp; omega) (by have := HLM.out; simp; omega) (by simp) ?_; intro v1 w1 ho1 hg1 _ _; have P1 := Lib.hid ((Qs.made HFL.out HGL.out).put hg1 (zs' := l.take k) (by rw [List.length_take, Nat.min_eq_left (by have := HM.out; omega)]; simpa using ho1)); clear ho1 hg1))
                have HB1 := Lib.hid (P1.out.2.2.2.on HBQ.out HBQ.out.size)
                obtain ⟨r1, r2, r3⟩ := HXC.out _ HB1.out
                go_wp2_with (first
                  | (at_builtin; (refine wpList_append_own_at _ rfl (.tmp 47) (.tmp 53) 169 rfl w0.heap.size 35 i0 (.agg #[.string ByteArray.empty, .string ByteArray.empty, .string ByteArray.empty]) 3 48 Tryz.underlying169 hi0 hz0 hz1 hz2 rfl (by decide) _ _ _ rfl (P1.out.alloc _).2.2.1 ⟨_, 0, none⟩ 1 1 (encP pp) rfl rfl (cell_list_at _ _ (encP pp) _ rfl) (oneCell_encP pp) (by unfold maxLen; have := HLM.out; simp; omega) (by have := HLM.out; simp; omega) (P1.out.alloc _).2.2.2.size ?_; intro v2 w2 ho2 hg2 _ _; have P2 := Lib.hid ((P1.out.alloc _).put hg2 (zs' := l.take k ++ [pp]) (by rw [List.length_append, List.flatMap_append]; simpa using ho2)); clear ho2 hg2))
                  | (at_builtin; (refine wpList_append_own_at _ rfl (.tmp 55) (.tmp 58) 169 rfl w0.heap.size 35 i0 (.agg #[.string ByteArray.empty, .string ByteArray.empty, .string ByteArray.empty]) 3 48 Tryz.underlying169 hi0 hz0 hz1 hz2 rfl (by decide) _ _ _ rfl P2.out.2.2.1 ⟨g, _, none⟩ 0 _ ([]) rfl (by simp) (fun j u hu => by simp at hu) (fun u hu => by cases hu) (by unfold maxLen; have := HLM.out; simp; omega) (by have := HLM.out; simp; omega) P2.out.2.2.2.size ?_; intro v3 w3 ho3 hg3 _ _; have P3 := Lib.hid (P2.out.put hg3 (zs' := l.take k ++ [pp] ++ l.drop k) (by rw [List.drop_of_length_le (by rw [← HM.out]; omega), List.append_nil]; simpa using ho3)); clear ho3 hg3)))
                go_roundw
                case rel => exact ⟨ii + 1, by omega, by go_num, by rw [HSN'.out, HIN.out]; exact P3.out.2.2.1.less HBQ.out.size, P3.out.2.2.2.on HBQ.out HBQ.out.size⟩
                case measure => simp [intOf]; omega
              · obtain rfl : k = cap := by omega
                go_wp2_with fail
                go_quiet (fail)
                have hbq : Below wr.heap.size wr ((wr.drewN q).drewN nq) := below_drewN (below_drewN (Below.refl _ _) _) _
                have HFL := Lib.hid (show ∀ (j : Nat) (u : Value), (l.flatMap encP)[j]? = some u → ((wr.drewN q).drewN nq).cell? ⟨g, j, none⟩ = some u from HFL0.out)
                have HGL := Lib.hid (show g < ((wr.drewN q).drewN nq).heap.size from HGL0.out)
                have hfl2 := HFL.out
                have hgl2 := HGL.out
                clear HFL HGL
                generalize (wr.drewN q).drewN nq = w0 at hbq hfl2 hgl2 ⊢
                have HFL := Lib.hid hfl2
                have HGL := Lib.hid hgl2
                have HBQ := Lib.hid (hbq.on HBL2.out HBL2.out.size)
                clear hfl2 hgl2 hbq r0 r1 r2 r3
                go_upto_region 9 with fail
                go_upto_region 10 with (at_builtin; (refine wpList_append_own_at _ rfl (.tmp 42) (.tmp 45) 169 rfl w0.heap.size 35 i0 (.agg #[.string ByteArray.empty, .string ByteArray.empty, .string ByteArray.empty]) 3 48 Tryz.underlying169 hi0 hz0 hz1 hz2 rfl (by decide) _ _ _ rfl (Qs.made HFL.out HGL.out).2.2.1 ⟨g, 0, none⟩ k _ ((l.take k).flatMap encP) rfl (by rw [flat_len encP_len, List.length_take, Nat.min_eq_left (by have := HM.out; omega)]) ((Qs.made HFL.out HGL.out).take k) (one_flat _) (by unfold maxLen; have := HLM.out; simp; omega) (by have := HLM.out; simp; omega) (by simp) ?_; intro v1 w1 ho1 hg1 _ _; have P1 := Lib.hid ((Qs.made HFL.out HGL.out).put hg1 (zs' := l.take k) (by rw [List.length_take, Nat.min_eq_left (by have := HM.out; omega)]; simpa using ho1)); clear ho1 hg1))
                have HB1 := Lib.hid (P1.out.2.2.2.on HBQ.out HBQ.out.size)
                obtain ⟨r1, r2, r3⟩ := HXC.out _ HB1.out
                go_wp2_with (first
                  | (at_builtin; (refine wpList_append_own_at _ rfl (.tmp 47) (.tmp 53) 169 rfl w0.heap.size 35 i0 (.agg #[.string ByteArray.empty, .string ByteArray.empty, .string ByteArray.empty]) 3 48 Tryz.underlying169 hi0 hz0 hz1 hz2 rfl (by decide) _ _ _ rfl (P1.out.alloc _).2.2.1 ⟨_, 0, none⟩ 1 1 (encP pp) rfl rfl (cell_list_at _ _ (encP pp) _ rfl) (oneCell_encP pp) (by unfold maxLen; have := HLM.out; simp; omega) (by have := HLM.out; simp; omega) (P1.out.alloc _).2.2.2.size ?_; intro v2 w2 ho2 hg2 _ _; have P2 := Lib.hid ((P1.out.alloc _).put hg2 (zs' := l.take k ++ [pp]) (by rw [List.length_append, List.flatMap_append]; simpa using ho2)); clear ho2 hg2))
                  | (at_builtin; (refine wpList_append_own_at _ rfl (.tmp 55) (.tmp 58) 169 rfl w0.heap.size 35 i0 (.agg #[.string ByteArray.empty, .string ByteArray.empty, .string ByteArray.empty]) 3 48 Tryz.underlying169 hi0 hz0 hz1 hz2 rfl (by decide) _ _ _ rfl P2.out.2.2.1 ⟨g, _, none⟩ 0 _ ([]) rfl (by simp) (fun j u hu => by simp at hu) (fun u hu => by cases hu) (by unfold maxLen; have := HLM.out; simp; omega) (by have := HLM.out; simp; omega) P2.out.2.2.2.size ?_; intro v3 w3 ho3 hg3 _ _; have P3 := Lib.hid (P2.out.put hg3 (zs' := l.take k ++ [pp] ++ l.drop k) (by rw [List.drop_of_length_le (by rw [← HM.out]; omega), List.append_nil]; simpa using ho3)); clear ho3 hg3)))
                go_roundw
                case rel => exact ⟨ii + 1, by omega, by go_num, by rw [HSN'.out, HIN.out]; exact P3.out.2.2.1.less HBQ.out.size, P3.out.2.2.2.on HBQ.out HBQ.out.size⟩
                case measure => simp [intOf]; omega
      · have h1 : (xw == i) = false := by simpa using hvi
        have h2 : (xw != i) = true := by simpa using hvi
        rw [if_neg hvi] at hsn
        have HSN := Lib.hid hsn
        clear hvi hsn
        go_wp2_with fail
        go_roundw
        case rel => exact ⟨ii + 1, by omega, by go_num, by rw [HSN.out]; exact HO.out, HBL.out⟩
        case measure => simp [intOf]; omega
    · obtain rfl : ii = n := by omega
      clear hO hBl
      go_wp2_with fail
      go_ret
      exact ⟨_, rfl, by have hh := HO.out; rw [HN.out, List.take_length] at hh; exact hh, HBL.out⟩
end Go.Proofs.YtfdgpbdppenhmaaGreat.Pp
end
