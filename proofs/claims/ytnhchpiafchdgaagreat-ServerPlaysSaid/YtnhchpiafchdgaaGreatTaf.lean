/- Texts Sam. -/
import Derived.Test.YtnhchpiafchdgaaGreatTad
import Derived.Shelf.Slices.Clone
import Derived.Maps.AppendAt
import Derived.Test.YtnhchpiafchdgaaGreatTae
import Derived.Test.YtnhchpiafchdgaaGreatTaa
section
namespace Go.Proofs.YtnhchpiafchdgaaGreat
open Go.RowKit Go.Shelf Go.Maps
abbrev winV (v : Win) : Value := .agg #[.int .i64 v.id, .int .i64 v.par, .int .i64 v.x, .int .i64 v.y, .int .i64 v.w, .int .i64 v.h, .bool v.on]
theorem get_f {w : World} {p : Value} {i : Int} (hf : ∀ W, Below w.heap.size w W → Calls Tryz.prog 66 #[p, .int .i64 i] W fun e w' => e = .returned (.pointer none) ∧ W = w') :
  Calls Tryz.prog 48 #[p, .int .i64 i] w fun e w' => e = .returned (.tuple #[winV zeroW, .bool false]) ∧ Below w.heap.size w w' := by
 have H1 := Lib.hid (hf (w.alloc (.cells #[.int .i64 0, .int .i64 0, .int .i64 0, .int .i64 0, .int .i64 0, .int .i64 0, .bool false] 61)) ((Below.refl _ w).alloc (Nat.le_refl _) _))
 clear hf
 go_enter Tryz.func48, Tryz.ntmps48
 go_wp2_with (go_at_call 66; ((with_reducible refine (H1.out).mono ?_); rintro e w' ⟨rfl, rfl⟩))
 refine bodyPost_ret (v := .tuple #[winV zeroW, .bool false]) (by simp [results, Tryz.results48, go_sem, zeroW]) rfl ?_
 exact ⟨rfl, (Below.refl _ w).alloc (Nat.le_refl _) _⟩
section
variable {w : World} {t : Nat} {l : Lay} {nd : Int → Option Nd} {made : Int} {cnt : Nat}
theorem get_none (h : TreeH w t l nd made cnt) {i : Int} (hi : I64 i) (hb : l.nb i = none) : Calls Tryz.prog 48 #[treeP t, .int .i64 i] w fun e w' => e = .returned (.tuple #[winV zeroW, .bool false]) ∧ Below w.heap.size w w' :=
 get_f fun _ hW => find_none (h.next hW) hi hb
set_option maxHeartbeats 1000000 in
theorem get_c (h : TreeH w t l nd made cnt) {i : Int} (hi : I64 i) {d : Nd} (hd : nd i = some d) : Calls Tryz.prog 48 #[treeP t, .int .i64 i] w fun e w' => e = .returned (.tuple #[winV d.win, .bool true]) ∧ Below w.heap.size w w' := by
 obtain ⟨b, hb⟩ := h.block hd
 obtain ⟨wb, hwb⟩ : ∃ wb, wb = w.alloc (.cells #[.int .i64 0, .int .i64 0, .int .i64 0, .int .i64 0, .int .i64 0, .int .i64 0, .bool false] 61) := ⟨_, rfl⟩
 have hbel : Below w.heap.size w wb := by rw [hwb]; exact (Below.refl _ _).alloc (Nat.le_refl _) _
 have H1 := find_some (h.next hbel) hi hb
 obtain ⟨⟨k0, k1, k2, k3, k4, k5, k6, -⟩, -⟩ := (h.next hbel).cells hb hd
 rw [hwb] at H1 k0 k1 k2 k3 k4 k5 k6
 have H2 := Lib.hid H1
 obtain ⟨⟨vid, vpar, vx, vy, vw, vh, von⟩, ks⟩ := d
 dsimp only at k0 k1 k2 k3 k4 k5 k6
 clear h hi hd hb hwb hbel H1
 go_enter Tryz.func48, Tryz.ntmps48
 go_wp2_with (go_at_call 66; ((with_reducible refine (H2.out).mono ?_); rintro e w' ⟨rfl, rfl⟩))
 refine bodyPost_ret (v := .tuple #[winV ⟨vid, vpar, vx, vy, vw, vh, von⟩, .bool true]) (by simp [results, Tryz.results48, go_sem]) rfl ?_
 exact ⟨rfl, (Below.refl _ w).alloc (Nat.le_refl _) _⟩
def NewInts (w : World) (v : Value) (xs : List Int) (w' : World) : Prop := w'.ownsRow w.heap.size 3 1 v xs.length (intsV xs) ∧ Below w.heap.size w w'
theorem clone_w (v : Value) (xs : List Int) (w : World) (hr : w.ownsRow 0 3 1 v xs.length (intsV xs)) (hl : xs.length ≤ 1048576) :
   Calls Tryz.prog 71 #[v] w fun e w' => ∃ v', e = .returned v' ∧ NewInts w v' xs w' := by
 have hr0 := hr
 obtain ⟨hlen, h1⟩ := hr0
 rcases h1 with ⟨rfl, hn⟩ | ⟨g, cap, cur, rfl, -, hg, hnc, hcm, hcs, ht⟩
 · have hx : xs = [] := List.eq_nil_of_length_eq_zero hn
   subst hx
   refine Calls.mono (Any.slices_Clone_int_nil cloneInt 0 0 w) ?_
   rintro e w' ⟨rfl, rfl⟩
   exact ⟨_, rfl, World.ownsRow_nil _ _ _ _, Below.refl _ _⟩
 · have h := Any.slices_Clone_int cloneInt g 0 xs.length cap xs w (Nat.le_refl _) (by omega) (fun j hj => by
    rw [Nat.zero_add]
    refine (World.ownsRow.cellAt hr j (by omega)).trans ?_
    rw [List.getElem?_map, List.getElem?_eq_getElem hj, List.getD_eq_getElem?_getD, List.getElem?_eq_getElem hj]
    rfl)
   rw [List.take_length] at h
   refine Calls.mono h ?_
   rintro e w' ⟨v, rfl, h1, _, h2⟩
   exact ⟨v, rfl, h1, h2⟩
theorem kids_f {w : World} {p : Value} {i : Int} (hf : ∀ W, Below w.heap.size w W → Calls Tryz.prog 66 #[p, .int .i64 i] W fun e w' => e = .returned (.pointer none) ∧ W = w') :
  Calls Tryz.prog 49 #[p, .int .i64 i] w fun e w' => e = .returned (.slice none 0 0) ∧ w = w' := by
 have H1 := Lib.hid (hf w (Below.refl _ _))
 clear hf
 go_enter Tryz.func49, Tryz.ntmps49
 go_wp2_with (go_at_call 66; ((with_reducible refine (H1.out).mono ?_); rintro e w' ⟨rfl, rfl⟩))
 go_ret
 exact ⟨rfl, rfl⟩
theorem kids_none (h : TreeH w t l nd made cnt) {i : Int} (hi : I64 i) (hb : l.nb i = none) : Calls Tryz.prog 49 #[treeP t, .int .i64 i] w fun e w' => e = .returned (.slice none 0 0) ∧ w = w' :=
 kids_f fun _ hW => find_none (h.next hW) hi hb
theorem kids_c (h : TreeH w t l nd made cnt) {i : Int} (hi : I64 i) {d : Nd} (hd : nd i = some d) (hk : d.kids.length ≤ 1048576) :
  Calls Tryz.prog 49 #[treeP t, .int .i64 i] w fun e w' => ∃ v', e = .returned v' ∧ NewInts w v' d.kids w' := by
 obtain ⟨b, hb⟩ := h.block hd
 have H1 := Lib.hid (find_some h hi hb)
 have H2 := Lib.hid (clone_w (l.kv i) d.kids w (h.node i b d hb hd).2 hk)
 have k7 := (h.cells hb hd).1.2.2.2.2.2.2.2
 obtain ⟨kv, hkv⟩ : ∃ v, v = l.kv i := ⟨_, rfl⟩
 rw [← hkv] at H2 k7
 clear h hi hd hb hkv hk
 go_enter Tryz.func49, Tryz.ntmps49
 go_wp2_with (first
  | (go_at_call 66; ((with_reducible refine (H1.out).mono ?_); rintro e w' ⟨rfl, rfl⟩))
  | (go_at_call 71; ((with_reducible refine (H2.out).mono ?_); rintro e w' ⟨v', rfl, hn⟩)))
 go_ret
 exact ⟨_, rfl, hn⟩
end
end Go.Proofs.YtnhchpiafchdgaaGreat
end
section
namespace Go.Proofs.YtnhchpiafchdgaaGreat
open Go.RowKit Go.Shelf Go.Maps
def Tall (nd : Int → Option Nd) : Nat → Int → Prop
 | 0, _ => False
 | n + 1, i => ∃ d, nd i = some d ∧ ∀ k ∈ d.kids, Tall nd n k
def allL (nd : Int → Option Nd) : Nat → Int → List Int
 | 0, _ => []
 | n + 1, i => match nd i with
  | none => []
  | some d => d.kids.flatMap (allL nd n) ++ [i]
def GaR (w : World) (v : Value) (ys : List Int) (v' : Value) (w' : World) : Prop :=
 w'.ownsRow 0 3 1 v' ys.length (intsV ys) ∧ w.grownBy w' v.ownBlock ∧ ∀ r, v'.ownBlock = some r → v.ownBlock = some r ∨ w.heap.size ≤ r
def GaS (w : World) (v : Value) (xs : List Int) (nd : Int → Option Nd) (n : Nat) (ks : List Int) (k : Nat) (z : Value) (wr : World) : Prop := GaR w v (xs ++ (ks.take k).flatMap (allL nd n)) z wr
section
variable {w w' : World} {t : Nat} {l : Lay} {nd : Int → Option Nd} {made : Int} {cnt : Nat}
theorem TreeH.beside (h : TreeH w t l nd made cnt) {row : Option Nat} (hg : w.grownBy w' row) (hn : ∀ r, row = some r → ¬ l.foot t r) : TreeH w' t l nd made cnt :=
 h.kept fun b hb => hg.block b (h.foot_lt hb) (fun e => hn b e.symm hb)
theorem row_reads {v : Value} {xs : List Int} (h : w.ownsRow 0 3 1 v xs.length (intsV xs)) : ∃ p c, v = .slice p xs.length c ∧ ∀ (j : Nat) (x : Int), xs[j]? = some x → ∃ g, p = some ⟨g, 0, none⟩ ∧ g < w.heap.size ∧ w.cell? ⟨g, j, none⟩ = some (.int .i64 x) := by
 have h0 := h
 obtain ⟨hlen, h1⟩ := h
 rcases h1 with ⟨rfl, hn⟩ | ⟨g, cap, cur, rfl, -, hg, hnc, hcm, hcs, ht⟩
 · have hx : xs = [] := List.eq_nil_of_length_eq_zero hn
   subst hx
   exact ⟨none, 0, rfl, fun j x hx => by simp at hx⟩
 · refine ⟨_, cap, rfl, fun j x hx => ⟨g, rfl, (Array.getElem?_eq_some_iff.1 hg).1, ?_⟩⟩
   have hj := (List.getElem?_eq_some_iff.1 hx).1
   refine (World.ownsRow.cellAt h0 j (by omega)).trans ?_
   rw [List.getElem?_map, hx]; rfl
theorem GaR.trans {v v1 v2 : Value} {ys zs : List Int} {w1 w2 : World} (h : GaR w v ys v1 w1) (k : GaR w1 v1 zs v2 w2) : GaR w v zs v2 w2 := by
 obtain ⟨-, h2, h3⟩ := h
 obtain ⟨k1, k2, k3⟩ := k
 refine ⟨k1, ⟨k2.os.trans h2.os, k2.tape.trans h2.tape, k2.output.trans h2.output, Nat.le_trans h2.size k2.size, fun i hi hne => ?_⟩, fun r hr => ?_⟩
 · refine (k2.block i (Nat.lt_of_lt_of_le hi h2.size) (fun e => ?_)).trans (h2.block i hi hne)
   rcases h3 i e.symm with h4 | h4
   · exact hne h4.symm
   · omega
 · rcases k3 r hr with h4 | h4
   · exact h3 r h4
   · exact .inr (Nat.le_trans h2.size h4)
theorem take_flat {ks : List Int} {k : Nat} {x : Int} (f : Int → List Int) (hx : ks[k]? = some x) : (ks.take (k + 1)).flatMap f = (ks.take k).flatMap f ++ f x := by
 have hk := (List.getElem?_eq_some_iff.1 hx).1
 rw [List.take_succ_eq_append_getElem hk, List.flatMap_append]
 rw [List.getElem?_eq_getElem hk] at hx
 injection hx with hx
 rw [hx]; simp
theorem flat_len_le (f : Int → List Int) : ∀ (ks : List Int) (k : Nat), ((ks.take k).flatMap f).length ≤ (ks.flatMap f).length
 | [], k => by simp
 | a :: t, 0 => by simp
 | a :: t, k + 1 => by
  have := flat_len_le f t k
  simp only [List.take_succ_cons, List.flatMap_cons, List.length_append]
  omega
set_option maxRecDepth 100000 in
set_option maxHeartbeats 4000000 in
theorem gather_c (hw : Wide nd) : ∀ (n : Nat) (i : Int) (v : Value) (xs : List Int) (w : World), TreeH w t l nd made cnt → Tall nd n i → w.ownsRow 0 3 1 v xs.length (intsV xs) → (∀ r, v.ownBlock = some r → ¬ l.foot t r) → xs.length + (allL nd n i).length ≤ 1048576 →
  Calls Tryz.prog 131 #[treeP t, v, .int .i64 i] w fun e w' => ∃ v', e = .returned v' ∧ GaR w v (xs ++ allL nd n i) v' w'
 | 0, i, v, xs, w, _, hT, _, _, _ => hT.elim
 | n + 1, i, v, xs, w, h, hT, hv, hnf, hlen => by
  obtain ⟨i0, hi0, hz0, hz1, hz2⟩ := info_parts intInfoW
  obtain ⟨d, hd, hkids⟩ := hT
  obtain ⟨b, hb⟩ := h.block hd
  have hall : allL nd (n + 1) i = d.kids.flatMap (allL nd n) ++ [i] := by simp only [allL, hd]
  rw [hall] at hlen ⊢
  have hlen2 : xs.length + (d.kids.flatMap (allL nd n)).length + 1 ≤ 1048576 := by simp at hlen ⊢; omega
  obtain ⟨p, c, hkv, hcell⟩ := row_reads (h.node i b d hb hd).2
  have e0 := h.look_some (hw i d hd).1 hb
  obtain ⟨⟨c0, -⟩, -⟩ := h.tree.c2
  have k7 := (h.cells hb hd).1.2.2.2.2.2.2.2
  rw [hkv] at k7
  have hps : (l.nb i).isSome = true := by rw [hb]; rfl
  have hkf : ∀ g, p = some ⟨g, 0, none⟩ → l.foot t g := fun g e => .inr (.inr (.inr ⟨i, hps, by rw [hkv, e]; rfl⟩))
  have HC := Lib.hid hcell
  have HKF := Lib.hid hkf
  have HNF := Lib.hid hnf
  have HREC := Lib.hid (fun (k : Nat) (x : Int) (hx : d.kids[k]? = some x) (v' : Value) (wr : World) (hG : GaR w v (xs ++ (d.kids.take k).flatMap (allL nd n)) v' wr) =>
   (gather_c hw n x v' _ wr (h.beside hG.2.1 hnf) (hkids x (List.mem_of_getElem? hx)) hG.1 (fun r hr hf => by
     rcases hG.2.2 r hr with h1 | h1
     · exact hnf r h1 hf
     · have := h.foot_lt hf; omega) (by
     have h1 := flat_len_le (allL nd n) d.kids (k + 1)
     rw [take_flat _ hx, List.length_append] at h1
     rw [List.length_append]; omega)))
  have HV := Lib.hid hv
  have HLEN := Lib.hid hlen2
  have hm0 : (d.kids.length : Int) ≤ 9223372036854775807 := by
   have hkl : d.kids.length ≤ 9223372036854775807 := by
     have h5 := (h.node i b d hb hd).2
     rcases h5.2 with ⟨_, hn⟩ | ⟨g, cap, cur, _, _, _, hnc, hcm, _, _⟩
     · omega
     · unfold maxLen at hcm; omega
   omega
  obtain ⟨m, hm⟩ : ∃ m, m = d.kids.length := ⟨_, rfl⟩
  rw [← hm] at hm0 k7
  have HM := Lib.hid hm
  obtain ⟨ks, hks⟩ : ∃ ks, ks = d.kids := ⟨_, rfl⟩
  rw [← hks] at HC HM HREC HLEN ⊢
  clear h hv hnf hlen hlen2 hd hb hkids hall hkv hcell hps hkf hm hks
  go_enter Tryz.func131, Tryz.ntmps131
  go_wp2_with fail
  go_loopw [1, 19] (fun y z wr => ∃ k : Nat, k ≤ m ∧ z = .int .i64 k ∧ GaS w v xs nd n ks k y wr) (fun _ z _ => m - (intOf z).toNat)
  case atStart => exact ⟨0, Nat.zero_le _, rfl, by simpa using HV.out, World.grownBy.refl _ _, fun r hr => .inl hr⟩
  case round =>
   obtain ⟨k, hk, rfl, hG⟩ := hrel
   have HG := Lib.hid hG
   clear hG
   by_cases hlt : k < m
   · obtain ⟨x, hx⟩ : ∃ x, ks[k]? = some x := ⟨_, List.getElem?_eq_getElem (by rw [← HM.out]; exact hlt)⟩
     obtain ⟨g, hp, hg, hcx⟩ := HC.out k x hx
     have hcr : wr.cell? ⟨g, k, none⟩ = some (.int .i64 x) := HG.out.2.1.cell hcx (fun e => HNF.out g e.symm (HKF.out g hp))
     have hi0' : (0 : Int) ≤ (k : Int) := by omega
     have hi1 : (k : Int) < (m : Int) := by omega
     have HR := Lib.hid (HREC.out k x hx u1 wr HG.out)
     have HX := Lib.hid hx
     subst hp
     clear hx hcx hg
     go_wp2_with (go_at_call 131; ((with_reducible refine (HR.out).mono ?_); rintro e w1 ⟨v2, rfl, hG2⟩); have HG2 := Lib.hid hG2; clear hG2)
     go_roundw
     case rel => exact ⟨k + 1, by omega, by go_num, by
       show GaR w v _ _ _
       have := HG.out.trans HG2.out
       rw [take_flat _ HX.out, ← List.append_assoc]; exact this⟩
     case measure => simp [intOf]; omega
   · obtain rfl : k = m := by omega
     have HK := Lib.hid (show ks.take k = ks by rw [HM.out]; exact List.take_length)
     have HLL := Lib.hid (show (xs ++ (ks.take k).flatMap (allL nd n)).length + 1 ≤ 1048576 by rw [HK.out, List.length_append]; exact HLEN.out)
     go_wp2_with (at_builtin; refine wpList_append_own_at _ rfl (.tmp 28) (.tmp 30) 67 rfl 0 3 i0 (.int .i64 0) 1 8 Tryz.underlying67 hi0 hz0 hz1 hz2 rfl (by decide) _ _ _ rfl (World.ownsRow.alloc HG.out.1 _) ⟨_, 0, none⟩ 1 1 [.int .i64 i] rfl rfl (cell_list_at _ _ [.int .i64 i] _ (by simp)) (oneCell_ints [i]) (by unfold maxLen; have := HLL.out; omega) (by have := HLL.out; omega) (Nat.zero_le _) ?_; intro v3 w3 ho3 hg3 _ hl3; have HO3 := Lib.hid ho3; have HG3 := Lib.hid hg3; have HL3 := Lib.hid hl3; clear ho3 hg3 hl3)
     go_ret
     refine ⟨_, rfl, ?_⟩
     have hA : GaR wr u1 ((xs ++ (ks.take k).flatMap (allL nd n)) ++ [i]) v3 w3 := by
       refine ⟨?_, ?_, fun r hr => ?_⟩
       · have := HO3.out
         unfold intsV
         rw [List.length_append, List.map_append]
         exact this
       · exact only_trans (only_alloc (only_refl _ _) _) HG3.out
       · rcases HL3.out with h1 | h1
         · exact .inl (h1 ▸ hr)
         · refine .inr ?_
           rw [h1] at hr
           injection hr with hr
           simp at hr; omega
     have := HG.out.trans hA
     rw [HK.out, List.append_assoc] at this
     exact this
end
end Go.Proofs.YtnhchpiafchdgaaGreat
end
section
namespace Go.Proofs.YtnhchpiafchdgaaGreat
open Go.RowKit Go.Shelf
structure Good (R : RT) (L : List Win) : Prop where
 nodup : (L.map (·.id)).Nodup
 pos : ∀ v ∈ L, 1 ≤ v.id ∧ v.id ≤ R.last
 way : ∀ v ∈ L, ∃ m, Way (ndL R L) m v.id
theorem nodup_le : ∀ {a b : List Int}, a.Nodup → (∀ x ∈ a, x ∈ b) → a.length ≤ b.length
 | [], b, _, _ => Nat.zero_le _
 | x :: t, b, h, hs => by
  obtain ⟨h1, h2⟩ := List.nodup_cons.1 h
  have hx := hs x (List.mem_cons_self ..)
  have ih := nodup_le (b := b.erase x) h2 (fun y hy => (List.mem_erase_of_ne (show y ≠ x from fun e => h1 (by rw [← e]; exact hy))).2 (hs y (List.mem_cons_of_mem _ hy)))
  rw [List.length_erase_of_mem hx] at ih
  have : 0 < b.length := List.length_pos_of_mem hx
  simp only [List.length_cons]; omega
theorem place_mem : ∀ {L : List Win}, (L.map (·.id)).Nodup → ∀ {v : Win}, v ∈ L → ∃ k, placeN v.id L = some k ∧ L[k]? = some v
 | [], _, _, hv => by cases hv
 | a :: t, h, v, hv => by
  rw [List.map_cons, List.nodup_cons] at h
  obtain ⟨h1, h2⟩ := h
  rcases List.mem_cons.1 hv with rfl | hv
  · exact ⟨0, by simp [placeN], rfl⟩
  · obtain ⟨k, h3, h4⟩ := place_mem h2 hv
    have hne : a.id ≠ v.id := fun e => h1 (e ▸ List.mem_map.2 ⟨v, hv, rfl⟩)
    exact ⟨k + 1, by simp [placeN, hne, h3], by simpa using h4⟩
section
variable {R : RT} {L : List Win}
theorem Good.find (h : Good R L) {v : Win} (hv : v ∈ L) : findL v.id L = some v := by
 obtain ⟨k, h1, h2⟩ := place_mem h.nodup hv
 unfold findL; rw [h1]; exact h2
theorem Good.uniq (h : Good R L) : Uniq R L := fun v hv => by
 unfold getR
 rw [if_neg (by have := (h.pos v hv).1; omega)]
 exact h.find hv
theorem Good.no0 (h : Good R L) : placeN 0 L = none := placeN_no L fun u hu => by have := (h.pos u hu).1; omega
theorem getR_some {i : Int} {v : Win} (h : getR R L i = some v) : v.id = i ∧ (i = 0 ∧ v = rootW R ∨ i ≠ 0 ∧ v ∈ L) := by
 unfold getR at h
 split at h
 · next e => injection h with h; subst h; exact ⟨e.symm, .inl ⟨e, rfl⟩⟩
 · next e =>
   unfold findL at h
   cases hp : placeN i L with
   | none => rw [hp] at h; cases h
   | some k =>
    rw [hp] at h
    obtain ⟨u, h1, h2, _⟩ := placeN_get L k hp
    rw [show L[k]? = some v from h] at h1
    injection h1 with h1
    subst h1
    exact ⟨h2, .inr ⟨e, List.mem_of_getElem? h⟩⟩
theorem nd_root : ndL R L 0 = some ⟨rootW R, kidsL L 0⟩ := by unfold ndL getR; simp
theorem Way.det {nd : Int → Option Nd} : ∀ {m m' : Nat} {i : Int}, Way nd m i → Way nd m' i → m = m'
 | 0, 0, _, _, _ => rfl
 | 0, _ + 1, _, h, h' => absurd h.1 h'.1
 | _ + 1, 0, _, h, h' => absurd h'.1 h.1
 | m + 1, m' + 1, i, ⟨_, d, hd, h⟩, ⟨_, d', hd', h'⟩ => by
  rw [hd] at hd'; injection hd' with hd'; subst hd'
  rw [h.det h']
def wayL (nd : Int → Option Nd) : Nat → Int → List Int
 | 0, _ => []
 | n + 1, i => i :: wayL nd n (parOf nd i)
theorem wayL_len {nd : Int → Option Nd} : ∀ (n : Nat) (i : Int), (wayL nd n i).length = n
 | 0, _ => rfl
 | n + 1, i => by simp [wayL, wayL_len n]
theorem par_of {nd : Int → Option Nd} {i : Int} {d : Nd} (h : nd i = some d) : parOf nd i = d.win.par := by unfold parOf; rw [h]
theorem wayL_mem {nd : Int → Option Nd} : ∀ (n : Nat) (i : Int), Way nd n i → ∀ x ∈ wayL nd n i, x ≠ 0 ∧ ∃ k, 1 ≤ k ∧ k ≤ n ∧ Way nd k x
 | 0, _, _, x, hx => by cases hx
 | n + 1, i, h, x, hx => by
  have h0 := h
  obtain ⟨hi, d, hd, hw⟩ := h
  rcases List.mem_cons.1 hx with rfl | hx
  · exact ⟨hi, n + 1, by omega, Nat.le_refl _, h0⟩
  · rw [par_of hd] at hx
    obtain ⟨h1, k, h2, h3, h4⟩ := wayL_mem n _ hw x hx
    exact ⟨h1, k, h2, by omega, h4⟩
theorem wayL_nodup {nd : Int → Option Nd} : ∀ (n : Nat) (i : Int), Way nd n i → (wayL nd n i).Nodup
 | 0, _, _ => List.nodup_nil
 | n + 1, i, h => by
  have h0 := h
  obtain ⟨hi, d, hd, hw⟩ := h
  unfold wayL
  rw [par_of hd]
  refine List.nodup_cons.2 ⟨fun hx => ?_, wayL_nodup n _ hw⟩
  obtain ⟨_, k, _, h2, h3⟩ := wayL_mem n _ hw i hx
  have := h0.det h3
  omega
theorem Way.le {m : Nat} {i : Int} (hw : Way (ndL R L) m i) : m ≤ L.length := by
 have h1 := nodup_le (wayL_nodup m i hw) (b := L.map (·.id)) (fun x hx => by
  obtain ⟨h2, k, _, _, h3⟩ := wayL_mem m i hw x hx
  obtain ⟨d, hd⟩ := h3.there
  obtain ⟨h4, h5⟩ := getR_some (ndL_some hd).1
  rcases h5 with ⟨h5, _⟩ | ⟨_, h5⟩
  · exact absurd h5 h2
  · exact List.mem_map.2 ⟨_, h5, h4⟩)
 rw [wayL_len, List.length_map] at h1
 exact h1
theorem kid_of (h : Good R L) {i k : Int} (hk : k ∈ kidsL L i) : ∃ v, v ∈ L ∧ v.id = k ∧ v.par = i ∧ ndL R L k = some ⟨v, kidsL L k⟩ := by
 unfold kidsL at hk
 obtain ⟨v, hv, rfl⟩ := List.mem_map.1 hk
 obtain ⟨h1, h2⟩ := List.mem_filter.1 hv
 exact ⟨v, h1, rfl, by simpa using h2, nd_of h.uniq h1⟩
theorem Good.kid_way (h : Good R L) {i k : Int} {m : Nat} (hw : Way (ndL R L) m i) (hk : k ∈ kidsL L i) : Way (ndL R L) (m + 1) k := by
 obtain ⟨v, hv, h1, h2, h3⟩ := kid_of h hk
 exact ⟨by have := (h.pos v hv).1; omega, _, h3, by show Way (ndL R L) m v.par; rw [h2]; exact hw⟩
theorem Good.tall (h : Good R L) : ∀ (n m : Nat) (i : Int), Way (ndL R L) m i → m + n = L.length + 1 → Tall (ndL R L) n i
 | 0, m, i, hw, he => by have := hw.le; omega
 | n + 1, m, i, hw, he => by
  obtain ⟨d, hd⟩ := hw.there
  refine ⟨d, hd, fun k hk => ?_⟩
  rw [(ndL_some hd).2] at hk
  exact h.tall n (m + 1) k (h.kid_way hw hk) (by omega)
def upN (nd : Int → Option Nd) : Nat → Int → Int
 | 0, i => i
 | n + 1, i => upN nd n (parOf nd i)
theorem upN_snoc {nd : Int → Option Nd} : ∀ (n : Nat) (i : Int), upN nd (n + 1) i = parOf nd (upN nd n i)
 | 0, _ => rfl
 | n + 1, i => by
  show upN nd (n + 1) (parOf nd i) = _
  rw [upN_snoc n]; rfl
theorem all_up (h : Good R L) : ∀ (n m : Nat) (i : Int), Way (ndL R L) m i → ∀ x ∈ allL (ndL R L) n i, (∃ d, ndL R L x = some d) ∧ ∃ j, Way (ndL R L) (m + j) x ∧ upN (ndL R L) j x = i
 | 0, _, _, _, x, hx => by cases hx
 | n + 1, m, i, hw, x, hx => by
  obtain ⟨d, hd⟩ := hw.there
  simp only [allL, hd] at hx
  rcases List.mem_append.1 hx with hx | hx
  · obtain ⟨k, hk, hx⟩ := List.mem_flatMap.1 hx
    rw [(ndL_some hd).2] at hk
    obtain ⟨h1, j, h2, h3⟩ := all_up h n (m + 1) k (h.kid_way hw hk) x hx
    refine ⟨h1, j + 1, by rw [show m + (j + 1) = m + 1 + j by omega]; exact h2, ?_⟩
    rw [upN_snoc, h3]
    obtain ⟨v, _, _, h4, h5⟩ := kid_of h hk
    rw [par_of h5]; exact h4
  · rw [List.mem_singleton.1 hx]
    exact ⟨⟨d, hd⟩, 0, hw, rfl⟩
theorem kids_nodup (h : Good R L) (i : Int) : (kidsL L i).Nodup := by
 unfold kidsL
 exact h.nodup.sublist (List.Sublist.map _ List.filter_sublist)
theorem all_nodup (h : Good R L) : ∀ (n m : Nat) (i : Int), Way (ndL R L) m i → (allL (ndL R L) n i).Nodup
 | 0, _, _, _ => List.nodup_nil
 | n + 1, m, i, hw => by
  obtain ⟨d, hd⟩ := hw.there
  simp only [allL, hd]
  rw [(ndL_some hd).2]
  refine List.nodup_append.2 ⟨?_, List.nodup_cons.2 ⟨List.not_mem_nil, List.nodup_nil⟩, ?_⟩
  · unfold List.Nodup
    rw [List.pairwise_flatMap]
    refine ⟨fun k hk => all_nodup h n (m + 1) k (h.kid_way hw hk), ?_⟩
    refine List.Pairwise.imp_of_mem (R := fun a b : Int => a ≠ b) ?_ (kids_nodup h i)
    intro a b ha hb hab x hx y hy e
    subst e
    obtain ⟨-, j, h1, h2⟩ := all_up h n (m + 1) a (h.kid_way hw ha) x hx
    obtain ⟨-, j', h3, h4⟩ := all_up h n (m + 1) b (h.kid_way hw hb) x hy
    have := h1.det h3
    obtain rfl : j = j' := by omega
    exact hab (h2.symm.trans h4)
  · intro x hx y hy e
    rw [List.mem_singleton.1 hy] at e
    subst e
    obtain ⟨k, hk, hx⟩ := List.mem_flatMap.1 hx
    obtain ⟨-, j, h1, -⟩ := all_up h n (m + 1) k (h.kid_way hw hk) x hx
    have := h1.det hw
    omega
end
end Go.Proofs.YtnhchpiafchdgaaGreat
end
section
namespace Go.Proofs.YtnhchpiafchdgaaGreat
open Go.RowKit Go.Shelf
theorem find_iff {L : List Win} (hn : (L.map (·.id)).Nodup) {i : Int} {v : Win} : findL i L = some v ↔ v ∈ L ∧ v.id = i := by
 constructor
 · intro h
   unfold findL at h
   cases hp : placeN i L with
   | none => rw [hp] at h; cases h
   | some k =>
    rw [hp] at h
    obtain ⟨u, h1, h2, _⟩ := placeN_get L k hp
    rw [show L[k]? = some v from h] at h1
    injection h1 with h1
    subst h1
    exact ⟨List.mem_of_getElem? h, h2⟩
 · rintro ⟨h1, rfl⟩
   obtain ⟨k, h2, h3⟩ := place_mem hn h1
   unfold findL; rw [h2]; exact h3
theorem find_same {L M : List Win} (hn : (L.map (·.id)).Nodup) (hm : (M.map (·.id)).Nodup) (h : ∀ v, v ∈ L ↔ v ∈ M) (i : Int) : findL i L = findL i M := by
 apply Option.ext
 intro v
 rw [find_iff hn, find_iff hm, h v]
theorem getR_same {R : RT} {L M : List Win} (h : ∀ i, findL i L = findL i M) (i : Int) : getR R L i = getR R M i := by unfold getR; rw [h i]
theorem kids_app (L M : List Win) (i : Int) : kidsL (L ++ M) i = kidsL L i ++ kidsL M i := by
 unfold kidsL; rw [List.filter_append, List.map_append]
theorem kids_one (v : Win) (i : Int) : kidsL [v] i = if v.par = i then [v.id] else [] := by
 unfold kidsL
 by_cases h : v.par = i
 · simp [h]
 · simp [h]
theorem kids_drop (i : Int) : ∀ (L : List Win) (j : Int), kidsL (dropL i L) j = (kidsL L j).filter (fun x => decide (x ≠ i))
 | [], _ => rfl
 | v :: t, j => by
  have ih := kids_drop i t j
  have h1 : dropL i (v :: t) = if v.id = i then dropL i t else v :: dropL i t := by
    unfold dropL
    by_cases h : v.id = i <;> simp [h]
  have h2 : kidsL (v :: t) j = kidsL [v] j ++ kidsL t j := kids_app [v] t j
  rw [h1, h2, List.filter_append, ← ih, kids_one]
  by_cases h : v.id = i
  · rw [if_pos h]
    by_cases hp : v.par = j
    · rw [if_pos hp]; simp [h]
    · rw [if_neg hp]; rfl
  · rw [if_neg h, show v :: dropL i t = [v] ++ dropL i t from rfl, kids_app, kids_one]
    by_cases hp : v.par = j
    · rw [if_pos hp]; simp [h]
    · rw [if_neg hp]; rfl
theorem drop_mem {i : Int} {L : List Win} {u : Win} : u ∈ dropL i L ↔ u ∈ L ∧ u.id ≠ i := by
 unfold dropL; simp
theorem drop_nodup {i : Int} {L : List Win} (h : (L.map (·.id)).Nodup) : ((dropL i L).map (·.id)).Nodup := by
 unfold dropL
 exact h.sublist (List.Sublist.map _ List.filter_sublist)
theorem same_id {L : List Win} (h : (L.map (·.id)).Nodup) {u v : Win} (hu : u ∈ L) (hv : v ∈ L) (e : u.id = v.id) : u = v := by
 have h1 := (find_iff h (i := v.id)).2 ⟨hu, e⟩
 have h2 := (find_iff h (i := v.id)).2 ⟨hv, rfl⟩
 rw [h1] at h2; injection h2
theorem way_same {nd nd' : Int → Option Nd} (h : ∀ i d, nd i = some d → ∃ d', nd' i = some d' ∧ d'.win.par = d.win.par) : ∀ (m : Nat) (i : Int), Way nd m i → Way nd' m i
 | 0, i, ⟨h1, d, hd⟩ => by obtain ⟨d', hd', _⟩ := h i d hd; exact ⟨h1, d', hd'⟩
 | m + 1, i, ⟨h1, d, hd, hw⟩ => by
  obtain ⟨d', hd', hp⟩ := h i d hd
  exact ⟨h1, d', hd', by rw [hp]; exact way_same h m _ hw⟩
section
variable {R : RT} {L : List Win}
theorem Good.of_same (h : Good R L) {M : List Win} (hn : (M.map (·.id)).Nodup) (hm : ∀ u ∈ M, ∃ v ∈ L, v.id = u.id ∧ v.par = u.par) (hm' : ∀ v ∈ L, ∃ u ∈ M, u.id = v.id ∧ u.par = v.par) : Good R M := by
 have hp : ∀ u ∈ M, 1 ≤ u.id ∧ u.id ≤ R.last := fun u hu => by
   obtain ⟨v, hv, h1, _⟩ := hm u hu
   rw [← h1]; exact h.pos v hv
 refine ⟨hn, hp, fun u hu => ?_⟩
 obtain ⟨v, hv, h1, _⟩ := hm u hu
 obtain ⟨m, hw⟩ := h.way v hv
 rw [h1] at hw
 refine ⟨m, way_same (fun i d hd => ?_) m _ hw⟩
 obtain ⟨h2, h3⟩ := getR_some (ndL_some hd).1
 rcases h3 with ⟨rfl, h3⟩ | ⟨h3, h4⟩
 · exact ⟨_, nd_root, by rw [h3]⟩
 · obtain ⟨u', hu', h5, h6⟩ := hm' _ h4
   refine ⟨⟨u', kidsL M i⟩, ?_, h6⟩
   unfold ndL getR
   rw [if_neg h3, (find_iff hn).2 ⟨hu', by rw [h5]; exact h2⟩]; rfl
theorem kid_mem (h : Good R L) {v : Win} (hv : v ∈ L) (j : Int) : v.id ∈ kidsL L j ↔ v.par = j := by
 constructor
 · intro hk
   obtain ⟨u, hu, h1, h2, _⟩ := kid_of h hk
   rw [← same_id h.nodup hu hv h1]; exact h2
 · intro e
   unfold kidsL
   exact List.mem_map.2 ⟨v, List.mem_filter.2 ⟨hv, by simpa using e⟩, rfl⟩
theorem filter_no {xs : List Int} {i : Int} (h : i ∉ xs) : xs.filter (fun x => decide (x ≠ i)) = xs := by
 rw [List.filter_eq_self]
 intro x hx
 simp; rintro rfl; exact h hx
theorem raise_list (h : Good R L) {v : Win} (hv : v ∈ L) : Good R (dropL v.id L ++ [v]) ∧
   ∀ dp, ndL R L v.par = some dp → ndL R (dropL v.id L ++ [v]) = upd (ndL R L) v.par (some ⟨dp.win, strike v.id dp.kids ++ [v.id]⟩) := by
 have hmem : ∀ u, u ∈ dropL v.id L ++ [v] ↔ u ∈ L := fun u => by
   rw [List.mem_append, drop_mem, List.mem_singleton]
   constructor
   · rintro (⟨h1, _⟩ | rfl) <;> assumption
   · intro hu
     by_cases e : u.id = v.id
     · exact .inr (same_id h.nodup hu hv e)
     · exact .inl ⟨hu, e⟩
 have hn : ((dropL v.id L ++ [v]).map (·.id)).Nodup := by
   rw [List.map_append]
   refine List.nodup_append.2 ⟨drop_nodup h.nodup, List.nodup_cons.2 ⟨List.not_mem_nil, List.nodup_nil⟩, ?_⟩
   intro x hx y hy e
   obtain ⟨u, hu, rfl⟩ := List.mem_map.1 hx
   simp at hy
   subst hy
   exact (drop_mem.1 hu).2 e
 refine ⟨h.of_same hn (fun u hu => ⟨u, (hmem u).1 hu, rfl, rfl⟩) (fun u hu => ⟨u, (hmem u).2 hu, rfl, rfl⟩), fun dp hdp => ?_⟩
 obtain ⟨h1, h2⟩ := ndL_some hdp
 funext j
 have hg : getR R (dropL v.id L ++ [v]) j = getR R L j := getR_same (find_same hn h.nodup hmem) j
 have hk : kidsL (dropL v.id L ++ [v]) j = if v.par = j then strike v.id (kidsL L j) ++ [v.id] else kidsL L j := by
   rw [kids_app, kids_one, kids_drop]
   by_cases hp : v.par = j
   · rw [if_pos hp, if_pos hp]; rfl
   · rw [if_neg hp, if_neg hp, List.append_nil, filter_no (fun hx => hp ((kid_mem h hv j).1 hx))]
 unfold ndL upd
 rw [hg, hk]
 by_cases hp : j = v.par
 · subst hp
   rw [if_pos rfl, if_pos rfl, h1, h2]; rfl
 · rw [if_neg hp, if_neg (fun e => hp e.symm)]
theorem lower_list (h : Good R L) {v : Win} (hv : v ∈ L) : Good R (v :: dropL v.id L) ∧
   ∀ dp, ndL R L v.par = some dp → ndL R (v :: dropL v.id L) = upd (ndL R L) v.par (some ⟨dp.win, v.id :: strike v.id dp.kids⟩) := by
 have hmem : ∀ u, u ∈ v :: dropL v.id L ↔ u ∈ L := fun u => by
   rw [List.mem_cons, drop_mem]
   constructor
   · rintro (rfl | ⟨h1, _⟩) <;> assumption
   · intro hu
     by_cases e : u.id = v.id
     · exact .inl (same_id h.nodup hu hv e)
     · exact .inr ⟨hu, e⟩
 have hn : ((v :: dropL v.id L).map (·.id)).Nodup := by
   rw [List.map_cons]
   refine List.nodup_cons.2 ⟨fun hx => ?_, drop_nodup h.nodup⟩
   obtain ⟨u, hu, e⟩ := List.mem_map.1 hx
   exact (drop_mem.1 hu).2 e
 refine ⟨h.of_same hn (fun u hu => ⟨u, (hmem u).1 hu, rfl, rfl⟩) (fun u hu => ⟨u, (hmem u).2 hu, rfl, rfl⟩), fun dp hdp => ?_⟩
 obtain ⟨h1, h2⟩ := ndL_some hdp
 funext j
 have hg : getR R (v :: dropL v.id L) j = getR R L j := getR_same (find_same hn h.nodup hmem) j
 have hk : kidsL (v :: dropL v.id L) j = if v.par = j then v.id :: strike v.id (kidsL L j) else kidsL L j := by
   rw [show v :: dropL v.id L = [v] ++ dropL v.id L from rfl, kids_app, kids_one, kids_drop]
   by_cases hp : v.par = j
   · rw [if_pos hp, if_pos hp]; rfl
   · rw [if_neg hp, if_neg hp, List.nil_append, filter_no (fun hx => hp ((kid_mem h hv j).1 hx))]
 unfold ndL upd
 rw [hg, hk]
 by_cases hp : j = v.par
 · subst hp
   rw [if_pos rfl, if_pos rfl, h1, h2]; rfl
 · rw [if_neg hp, if_neg (fun e => hp e.symm)]
end
end Go.Proofs.YtnhchpiafchdgaaGreat
end
section
namespace Go.Proofs.YtnhchpiafchdgaaGreat
open Go.RowKit Go.Shelf
theorem kids_map (L : List Win) (i : Int) : kidsL L i = ((L.map fun v => (v.id, v.par)).filter (fun q => q.2 == i)).map (·.1) := by
 induction L with
 | nil => rfl
 | cons v t ih =>
  have h2 : kidsL (v :: t) i = kidsL [v] i ++ kidsL t i := kids_app [v] t i
  rw [h2, ih, kids_one, List.map_cons]
  by_cases h : v.par = i
  · simp [h]
  · simp [h]
theorem set_pairs {L : List Win} {k : Nat} {v v' : Win} (hk : L[k]? = some v) (h1 : v'.id = v.id) (h2 : v'.par = v.par) : (L.set k v').map (fun v => (v.id, v.par)) = L.map fun v => (v.id, v.par) := by
 apply List.ext_getElem?
 intro j
 rw [List.getElem?_map, List.getElem?_map, List.getElem?_set]
 by_cases h : k = j
 · subst h
   obtain ⟨h3, h4⟩ := List.getElem?_eq_some_iff.1 hk
   simp [h3, h4, h1, h2]
 · rw [if_neg h]
theorem set_ids {L : List Win} {k : Nat} {v v' : Win} (hk : L[k]? = some v) (h1 : v'.id = v.id) : (L.set k v').map (·.id) = L.map (·.id) := by
 apply List.ext_getElem?
 intro j
 rw [List.getElem?_map, List.getElem?_map, List.getElem?_set]
 by_cases h : k = j
 · subst h
   obtain ⟨h3, h4⟩ := List.getElem?_eq_some_iff.1 hk
   simp [h3, h4, h1]
 · rw [if_neg h]
section
variable {R : RT} {L : List Win}
theorem set_mem {k : Nat} {v v' u : Win} (hn : (L.map (·.id)).Nodup) (hk : L[k]? = some v) : u ∈ L.set k v' → u = v' ∨ u ∈ L ∧ u.id ≠ v.id := by
 intro hu
 obtain ⟨j, hj⟩ := List.getElem?_of_mem hu
 rw [List.getElem?_set] at hj
 by_cases h : k = j
 · subst h
   have := (List.getElem?_eq_some_iff.1 hk).1
   simp [this] at hj
   exact .inl hj.symm
 · rw [if_neg h] at hj
   refine .inr ⟨List.mem_of_getElem? hj, fun e => h ?_⟩
   obtain ⟨h1, h2⟩ := List.getElem?_eq_some_iff.1 hk
   obtain ⟨h3, h4⟩ := List.getElem?_eq_some_iff.1 hj
   have hp := List.pairwise_iff_getElem.1 hn
   rcases Nat.lt_trichotomy k j with h5 | h5 | h5
   · exact ((hp k j (by simpa using h1) (by simpa using h3) h5) (by simp [h2, h4, e])).elim
   · exact h5
   · exact ((hp j k (by simpa using h3) (by simpa using h1) h5) (by simp [h2, h4, e])).elim
theorem mem_set {k : Nat} {v v' : Win} (hk : L[k]? = some v) : v' ∈ L.set k v' := by
 have := (List.getElem?_eq_some_iff.1 hk).1
 exact List.mem_of_getElem? (i := k) (by rw [List.getElem?_set]; simp [this])
theorem set_keep {k : Nat} {v v' u : Win} (hk : L[k]? = some v) (hu : u ∈ L) (hne : u.id ≠ v.id) : u ∈ L.set k v' := by
 obtain ⟨j, hj⟩ := List.getElem?_of_mem hu
 refine List.mem_of_getElem? (i := j) ?_
 rw [List.getElem?_set, if_neg (fun e => hne (by subst e; rw [hk] at hj; injection hj with hj; rw [hj]))]
 exact hj
theorem set_list (h : Good R L) {k : Nat} {v v' : Win} (hk : L[k]? = some v) (h1 : v'.id = v.id) (h2 : v'.par = v.par) : Good R (L.set k v') ∧
   ∀ d, ndL R L v.id = some d → ndL R (L.set k v') = upd (ndL R L) v.id (some ⟨v', d.kids⟩) := by
 have hv : v ∈ L := List.mem_of_getElem? hk
 have hn : ((L.set k v').map (·.id)).Nodup := by rw [set_ids hk h1]; exact h.nodup
 refine ⟨h.of_same hn (fun u hu => ?_) (fun u hu => ?_), fun d hd => ?_⟩
 · rcases set_mem h.nodup hk hu with rfl | ⟨h3, _⟩
   · exact ⟨v, hv, h1.symm, h2.symm⟩
   · exact ⟨u, h3, rfl, rfl⟩
 · by_cases e : u.id = v.id
   · have := same_id h.nodup hu hv e
     subst this
     exact ⟨v', mem_set hk, h1, h2⟩
   · exact ⟨u, set_keep hk hu e, rfl, rfl⟩
 · obtain ⟨h3, h4⟩ := ndL_some hd
   have hz : v.id ≠ 0 := by have := (h.pos v hv).1; omega
   funext j
   have hkid : kidsL (L.set k v') j = kidsL L j := by rw [kids_map, kids_map, set_pairs hk h1 h2]
   unfold ndL upd
   rw [hkid]
   by_cases hj : j = v.id
   · subst hj
     rw [if_pos rfl, h4]
     unfold getR
     rw [if_neg hz, (find_iff hn).2 ⟨mem_set hk, h1⟩]; rfl
   · rw [if_neg hj]
     have hg : getR R (L.set k v') j = getR R L j := by
      unfold getR
      by_cases hj0 : j = 0
      · rw [if_pos hj0, if_pos hj0]
      · rw [if_neg hj0, if_neg hj0]
        apply Option.ext
        intro u
        rw [find_iff hn, find_iff h.nodup]
        constructor
        · rintro ⟨h5, h6⟩
          rcases set_mem h.nodup hk h5 with rfl | ⟨h7, _⟩
          · exact absurd (h6.symm.trans h1) hj
          · exact ⟨h7, h6⟩
        · rintro ⟨h5, h6⟩
          exact ⟨set_keep hk h5 (by rw [h6]; exact hj), h6⟩
     rw [hg]
theorem par_there (h : Good R L) {v : Win} (hv : v ∈ L) : ∃ d, ndL R L v.par = some d := by
 obtain ⟨m, hw⟩ := h.way v hv
 cases m with
 | zero => have := hw.1; have := (h.pos v hv).1; omega
 | succ m =>
  obtain ⟨_, d, hd, hw⟩ := hw
  rw [nd_of h.uniq hv] at hd
  injection hd with hd
  subst hd
  exact hw.there
theorem root_way : Way (ndL R L) 0 0 := ⟨rfl, _, nd_root⟩
theorem Good.any (h : Good R L) {i : Int} {d : Nd} (hd : ndL R L i = some d) : ∃ m, Way (ndL R L) m i := by
 obtain ⟨h1, h2⟩ := getR_some (ndL_some hd).1
 rcases h2 with ⟨rfl, _⟩ | ⟨_, h2⟩
 · exact ⟨0, root_way⟩
 · rw [← h1]; exact h.way _ h2
theorem create_list (h : Good R L) (hl : 0 ≤ R.last) {q x y a e : Int} {dq : Nd} (hq : ndL R L q = some dq) :
   Good { R with last := R.last + 1 } (L ++ [⟨R.last + 1, q, x, y, a, e, false⟩]) ∧
     ndL { R with last := R.last + 1 } (L ++ [⟨R.last + 1, q, x, y, a, e, false⟩]) = upd (upd (ndL R L) q (some ⟨dq.win, dq.kids ++ [R.last + 1]⟩)) (R.last + 1) (some ⟨⟨R.last + 1, q, x, y, a, e, false⟩, []⟩) := by
 obtain ⟨id, hid⟩ : ∃ id, id = R.last + 1 := ⟨_, rfl⟩
 rw [← hid]
 have hfr : ∀ u ∈ L, u.id ≠ id := fun u hu => by have := (h.pos u hu).2; omega
 have hn : ((L ++ [(⟨id, q, x, y, a, e, false⟩ : Win)]).map (·.id)).Nodup := by
   rw [List.map_append]
   refine List.nodup_append.2 ⟨h.nodup, List.nodup_cons.2 ⟨List.not_mem_nil, List.nodup_nil⟩, ?_⟩
   intro u hu v hv e2
   obtain ⟨u', hu', rfl⟩ := List.mem_map.1 hu
   simp at hv
   exact hfr u' hu' (e2.trans hv)
 have hid0 : id ≠ 0 := by omega
 have hidq : id ≠ q := fun e2 => by
   obtain ⟨h1, h2⟩ := getR_some (ndL_some hq).1
   rcases h2 with ⟨h2, _⟩ | ⟨_, h2⟩
   · exact hid0 (e2.trans h2)
   · exact hfr _ h2 (h1.trans e2.symm)
 have hpar : ∀ u ∈ L, u.par ≠ id := fun u hu e2 => by
   obtain ⟨d, hd⟩ := par_there h hu
   rw [e2] at hd
   obtain ⟨h1, h2⟩ := getR_some (ndL_some hd).1
   rcases h2 with ⟨h2, _⟩ | ⟨_, h2⟩
   · exact hid0 h2
   · exact hfr _ h2 h1
 have hkid : kidsL L id = [] := by
   unfold kidsL
   rw [List.map_eq_nil_iff, List.filter_eq_nil_iff]
   intro u hu; simpa using hpar u hu
 have hnd : ndL { R with last := id } (L ++ [⟨id, q, x, y, a, e, false⟩]) = upd (upd (ndL R L) q (some ⟨dq.win, dq.kids ++ [id]⟩)) id (some ⟨⟨id, q, x, y, a, e, false⟩, []⟩) := by
   obtain ⟨h1, h2⟩ := ndL_some hq
   funext j
   have hk : kidsL (L ++ [(⟨id, q, x, y, a, e, false⟩ : Win)]) j = kidsL L j ++ (if q = j then [id] else []) := by rw [kids_app, kids_one]
   have hg : getR { R with last := id } (L ++ [⟨id, q, x, y, a, e, false⟩]) j = if j = id then some ⟨id, q, x, y, a, e, false⟩ else getR R L j := by
     unfold getR
     by_cases hj0 : j = 0
     · rw [if_pos hj0, if_pos hj0, if_neg (fun e2 => hid0 (e2.symm.trans hj0))]; rfl
     · rw [if_neg hj0, if_neg hj0]
       by_cases hj : j = id
       · rw [if_pos hj, (find_iff hn).2 ⟨List.mem_append_right _ (List.mem_singleton.2 rfl), hj.symm⟩]
       · rw [if_neg hj]
         apply Option.ext
         intro u
         rw [find_iff hn, find_iff h.nodup, List.mem_append, List.mem_singleton]
         constructor
         · rintro ⟨h5 | h5, h6⟩
           · exact ⟨h5, h6⟩
           · rw [h5] at h6; exact absurd h6.symm hj
         · rintro ⟨h5, h6⟩
           exact ⟨.inl h5, h6⟩
   unfold ndL upd
   rw [hg, hk]
   by_cases hj : j = id
   · subst hj
     rw [if_pos rfl, if_pos rfl, hkid, if_neg (fun e2 => hidq e2.symm)]; rfl
   · rw [if_neg hj, if_neg hj]
     by_cases hjq : j = q
     · subst hjq
       rw [if_pos rfl, if_pos rfl, h1, h2]; rfl
     · rw [if_neg hjq, if_neg (fun e2 => hjq e2.symm), List.append_nil]
 refine ⟨⟨hn, fun u hu => ?_, fun u hu => ?_⟩, hnd⟩
 · rw [List.mem_append, List.mem_singleton] at hu
   show 1 ≤ u.id ∧ u.id ≤ id
   rcases hu with hu | rfl
   · have := h.pos u hu; omega
   · exact ⟨by show 1 ≤ id; omega, Int.le_refl _⟩
 · have hsame : ∀ i d, ndL R L i = some d → ∃ d', ndL { R with last := id } (L ++ [⟨id, q, x, y, a, e, false⟩]) i = some d' ∧ d'.win.par = d.win.par := fun i d hd => by
     rw [hnd]
     unfold upd
     by_cases hi : i = id
     · subst hi
       obtain ⟨h1, h2⟩ := getR_some (ndL_some hd).1
       rcases h2 with ⟨h2, _⟩ | ⟨_, h2⟩
       · exact absurd h2 hid0
       · exact absurd h1 (hfr _ h2)
     · rw [if_neg hi]
       by_cases hiq : i = q
       · subst hiq
         rw [hq] at hd; injection hd with hd; subst hd
         exact ⟨_, if_pos rfl, rfl⟩
       · rw [if_neg hiq]; exact ⟨d, hd, rfl⟩
   rw [List.mem_append, List.mem_singleton] at hu
   rcases hu with hu | rfl
   · obtain ⟨m, hw⟩ := h.way u hu
     exact ⟨m, way_same hsame m _ hw⟩
   · obtain ⟨m, hw⟩ := h.any hq
     refine ⟨m + 1, hid0, ⟨⟨id, q, x, y, a, e, false⟩, []⟩, ?_, way_same hsame m q hw⟩
     rw [hnd]; exact upd_same _ _ _
end
end Go.Proofs.YtnhchpiafchdgaaGreat
end
