/- gather, walked. -/
import Derived.Test.YtlbbjinkblgfiaaWiQ
import Derived.Test.YtlbbjinkblgfiaaWiL
import Derived.Maps.AppendAt
namespace Go.Proofs.Ytlbbjinkblgfiaa
open Go.RowKit Go.Shelf Go.Maps
/-- Below i it is at most n deep. -/
def Tall (nd : Int → Option Nd) : Nat → Int → Prop
  | 0, _ => False
  | n + 1, i => ∃ d, nd i = some d ∧ ∀ k ∈ d.kids, Tall nd n k
/-- All in i, and i behind them. -/
def allL (nd : Int → Option Nd) : Nat → Int → List Int
  | 0, _ => []
  | n + 1, i => match nd i with
    | none => []
    | some d => d.kids.flatMap (allL nd n) ++ [i]
/-- A list grown. -/
def GaR (w : World) (v : Value) (ys : List Int) (v' : Value) (w' : World) : Prop :=
  w'.ownsRow 0 3 1 v' ys.length (intsV ys) ∧ w.grownBy w' v.ownBlock ∧ ∀ r, v'.ownBlock = some r → v.ownBlock = some r ∨ w.heap.size ≤ r
/-- The rounds of gather. -/
def GaS (w : World) (v : Value) (xs : List Int) (nd : Int → Option Nd) (n : Nat) (ks : List Int) (k : Nat) (z : Value) (wr : World) : Prop := GaR w v (xs ++ (ks.take k).flatMap (allL nd n)) z wr
section
variable {w w' : World} {t : Nat} {l : Lay} {nd : Int → Option Nd} {made : Int} {cnt : Nat}
theorem TreeH.beside (h : TreeH w t l nd made cnt) {row : Option Nat} (hg : w.grownBy w' row) (hn : ∀ r, row = some r → ¬ l.foot t r) : TreeH w' t l nd made cnt :=
  h.kept fun b hb => hg.block b (h.foot_lt hb) (fun e => hn b e.symm hb)
theorem row_reads {v : Value} {xs : List Int} (h : w.ownsRow 0 3 1 v xs.length (intsV xs)) : ∃ p c, v = .slice p xs.length c ∧ ∀ (j : Nat) (x : Int), xs[j]? = some x → ∃ g, p = some ⟨g, 0, none⟩ ∧ g < w.heap.size ∧ w.cell? ⟨g, j, none⟩ = some (.int .i64 x) := by
  have h0 := h
  obtain ⟨hlen, h1⟩ := h
  rcases h1 with ⟨rfl, hn⟩ | ⟨g, cap, cur, rfl, -, hg, hnc, hcm, hcs, ht⟩
  · have hx : xs = [] := List.eq_nil_of_length_eq_zero hn
    subst hx
    exact ⟨none, 0, rfl, fun j x hx => by simp at hx⟩
  · refine ⟨_, cap, rfl, fun j x hx => ⟨g, rfl, (Array.getElem?_eq_some_iff.1 hg).1, ?_⟩⟩
    have hj := (List.getElem?_eq_some_iff.1 hx).1
    refine (World.ownsRow.cellAt h0 j (by omega)).trans ?_
    rw [List.getElem?_map, hx]; rfl
theorem GaR.trans {v v1 v2 : Value} {ys zs : List Int} {w1 w2 : World} (h : GaR w v ys v1 w1) (k : GaR w1 v1 zs v2 w2) : GaR w v zs v2 w2 := by
  obtain ⟨-, h2, h3⟩ := h
  obtain ⟨k1, k2, k3⟩ := k
  refine ⟨k1, ⟨k2.os.trans h2.os, k2.tape.trans h2.tape, k2.output.trans h2.output, Nat.le_trans h2.size k2.size, fun i hi hne => ?_⟩, fun r hr => ?_⟩
  · refine (k2.block i (Nat.lt_of_lt_of_le hi h2.size) (fun e => ?_)).trans (h2.block i hi hne)
    rcases h3 i e.symm with h4 | h4
    · exact hne h4.symm
    · omega
  · rcases k3 r hr with h4 | h4
    · exact h3 r h4
    · exact .inr (Nat.le_trans h2.size h4)
theorem take_flat {ks : List Int} {k : Nat} {x : Int} (f : Int → List Int) (hx : ks[k]? = some x) : (ks.take (k + 1)).flatMap f = (ks.take k).flatMap f ++ f x := by
  have hk := (List.getElem?_eq_some_iff.1 hx).1
  rw [List.take_succ_eq_append_getElem hk, List.flatMap_append]
  rw [List.getElem?_eq_getElem hk] at hx
  injection hx with hx
  rw [hx]; simp
theorem flat_len_le (f : Int → List Int) : ∀ (ks : List Int) (k : Nat), ((ks.take k).flatMap f).length ≤ (ks.flatMap f).length
  | [], k => by simp
  | a :: t, 0 => by simp
  | a :: t, k + 1 => by
    have := flat_len_le f t k
    simp only [List.take_succ_cons, List.flatMap_cons, List.length_append]
    omega
set_option maxRecDepth 100000 in
set_option maxHeartbeats 4000000 in
theorem gather_c (hw : Wide nd) : ∀ (n : Nat) (i : Int) (v : Value) (xs : List Int) (w : World), TreeH w t l nd made cnt → Tall nd n i → w.ownsRow 0 3 1 v xs.length (intsV xs) → (∀ r, v.ownBlock = some r → ¬ l.foot t r) → xs.length + (allL nd n i).length ≤ 1048576 →
    Calls Try.prog 49 #[treeP t, v, .int .i64 i] w fun e w' => ∃ v', e = .returned v' ∧ GaR w v (xs ++ allL nd n i) v' w'
  | 0, i, v, xs, w, _, hT, _, _, _ => hT.elim
  | n + 1, i, v, xs, w, h, hT, hv, hnf, hlen => by
    obtain ⟨i0, hi0, hz0, hz1, hz2⟩ := info_parts intInfoW
    obtain ⟨d, hd, hkids⟩ := hT
    obtain ⟨b, hb⟩ := h.block hd
    have hall : allL nd (n + 1) i = d.kids.flatMap (allL nd n) ++ [i] := by simp only [allL, hd]
    rw [hall] at hlen ⊢
    have hlen2 : xs.length + (d.kids.flatMap (allL nd n)).length + 1 ≤ 1048576 := by simp at hlen ⊢; omega
    obtain ⟨p, c, hkv, hcell⟩ := row_reads (h.node i b d hb hd).2
    have e0 := h.look_some (hw i d hd).1 hb
    obtain ⟨⟨c0, -⟩, -⟩ := h.tree.c2
    have k7 := (h.cells hb hd).1.2.2.2.2.2.2.2
    rw [hkv] at k7
    have hps : (l.nb i).isSome = true := by rw [hb]; rfl
    have hkf : ∀ g, p = some ⟨g, 0, none⟩ → l.foot t g := fun g e => .inr (.inr (.inr ⟨i, hps, by rw [hkv, e]; rfl⟩))
    have HC := Lib.hid hcell
    have HKF := Lib.hid hkf
    have HNF := Lib.hid hnf
    have HREC := Lib.hid (fun (k : Nat) (x : Int) (hx : d.kids[k]? = some x) (v' : Value) (wr : World) (hG : GaR w v (xs ++ (d.kids.take k).flatMap (allL nd n)) v' wr) =>
      (gather_c hw n x v' _ wr (h.beside hG.2.1 hnf) (hkids x (List.mem_of_getElem? hx)) hG.1 (fun r hr hf => by
        rcases hG.2.2 r hr with h1 | h1
        · exact hnf r h1 hf
        · have := h.foot_lt hf; omega) (by
        have h1 := flat_len_le (allL nd n) d.kids (k + 1)
        rw [take_flat _ hx, List.length_append] at h1
        rw [List.length_append]; omega)))
    have HV := Lib.hid hv
    have HLEN := Lib.hid hlen2
    have hm0 : (d.kids.length : Int) ≤ 9223372036854775807 := by
      have hkl : d.kids.length ≤ 9223372036854775807 := by
        have h5 := (h.node i b d hb hd).2
        rcases h5.2 with ⟨_, hn⟩ | ⟨g, cap, cur, _, _, _, hnc, hcm, _, _⟩
        · omega
        · unfold maxLen at hcm; omega
      omega
    obtain ⟨m, hm⟩ : ∃ m, m = d.kids.length := ⟨_, rfl⟩
    rw [← hm] at hm0 k7
    have HM := Lib.hid hm
    obtain ⟨ks, hks⟩ : ∃ ks, ks = d.kids := ⟨_, rfl⟩
    rw [← hks] at HC HM HREC HLEN ⊢
    clear h hv hnf hlen hlen2 hd hb hkids hall hkv hcell hps hkf hm hks
    go_enter Try.func49, Try.ntmps49
    go_wp2_with fail
    go_loopw [1, 19] (fun y z wr => ∃ k : Nat, k ≤ m ∧ z = .int .i64 k ∧ GaS w v xs nd n ks k y wr) (fun _ z _ => m - (intOf z).toNat)
    case atStart => exact ⟨0, Nat.zero_le _, rfl, by simpa using HV.out, World.grownBy.refl _ _, fun r hr => .inl hr⟩
    case round =>
      obtain ⟨k, hk, rfl, hG⟩ := hrel
      have HG := Lib.hid hG
      clear hG
      by_cases hlt : k < m
      · obtain ⟨x, hx⟩ : ∃ x, ks[k]? = some x := ⟨_, List.getElem?_eq_getElem (by rw [← HM.out]; exact hlt)⟩
        obtain ⟨g, hp, hg, hcx⟩ := HC.out k x hx
        have hcr : wr.cell? ⟨g, k, none⟩ = some (.int .i64 x) := HG.out.2.1.cell hcx (fun e => HNF.out g e.symm (HKF.out g hp))
        have hi0' : (0 : Int) ≤ (k : Int) := by omega
        have hi1 : (k : Int) < (m : Int) := by omega
        have HR := Lib.hid (HREC.out k x hx u1 wr HG.out)
        have HX := Lib.hid hx
        subst hp
        clear hx hcx hg
        go_wp2_with (go_at_call 49; ((with_reducible refine (HR.out).mono ?_); rintro e w1 ⟨v2, rfl, hG2⟩); have HG2 := Lib.hid hG2; clear hG2)
        go_roundw
        case rel => exact ⟨k + 1, by omega, by go_num, by
          show GaR w v _ _ _
          have := HG.out.trans HG2.out
          rw [take_flat _ HX.out, ← List.append_assoc]; exact this⟩
        case measure => simp [intOf]; omega
      · obtain rfl : k = m := by omega
        have HK := Lib.hid (show ks.take k = ks by rw [HM.out]; exact List.take_length)
        have HLL := Lib.hid (show (xs ++ (ks.take k).flatMap (allL nd n)).length + 1 ≤ 1048576 by rw [HK.out, List.length_append]; exact HLEN.out)
        go_wp2_with (at_builtin; refine wpList_append_own_at _ rfl (.tmp 28) (.tmp 30) 47 rfl 0 3 i0 (.int .i64 0) 1 8 Try.underlying47 hi0 hz0 hz1 hz2 rfl (by decide) _ _ _ rfl (World.ownsRow.alloc HG.out.1 _) ⟨_, 0, none⟩ 1 1 [.int .i64 i] rfl rfl (cell_list_at _ _ [.int .i64 i] _ (by simp)) (oneCell_ints [i]) (by unfold maxLen; have := HLL.out; omega) (by have := HLL.out; omega) (Nat.zero_le _) ?_; intro v3 w3 ho3 hg3 _ hl3; have HO3 := Lib.hid ho3; have HG3 := Lib.hid hg3; have HL3 := Lib.hid hl3; clear ho3 hg3 hl3)
        go_ret
        refine ⟨_, rfl, ?_⟩
        have hA : GaR wr u1 ((xs ++ (ks.take k).flatMap (allL nd n)) ++ [i]) v3 w3 := by
          refine ⟨?_, ?_, fun r hr => ?_⟩
          · have := HO3.out
            unfold intsV
            rw [List.length_append, List.map_append]
            exact this
          · exact only_trans (only_alloc (only_refl _ _) _) HG3.out
          · rcases HL3.out with h1 | h1
            · exact .inl (h1 ▸ hr)
            · refine .inr ?_
              rw [h1] at hr
              injection hr with hr
              simp at hr; omega
        have := HG.out.trans hA
        rw [HK.out, List.append_assoc] at this
        exact this
end
end Go.Proofs.Ytlbbjinkblgfiaa
