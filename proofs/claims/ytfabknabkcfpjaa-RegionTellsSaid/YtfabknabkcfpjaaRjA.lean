/- The reference's put: a number put into rising ones. -/
import Derived.Test.YtfabknabkcfpjaaRhU
import Derived.Laws.AppendOwnNone
namespace Go.Proofs.Ytfabknabkcfpjaa
open Go.RowKit Go.Shelf
def putL : List Int → Int → List Int
  | [], n => [n]
  | x :: t, n => if x < n then x :: putL t n else if x = n then x :: t else n :: x :: t
theorem put_mem {n y : Int} : ∀ l : List Int, y ∈ putL l n ↔ y = n ∨ y ∈ l
  | [] => by simp [putL]
  | x :: t => by
    have ih := put_mem (n := n) (y := y) t
    unfold putL
    split
    · rw [List.mem_cons, ih, List.mem_cons]; exact ⟨fun h => h.elim (fun h => .inr (.inl h)) fun h => h.elim .inl fun h => .inr (.inr h), fun h => h.elim (fun h => .inr (.inl h)) fun h => h.elim .inl fun h => .inr (.inr h)⟩
    · split
      · next h => rw [h]; simp
      · rw [List.mem_cons]
theorem put_up {n : Int} : ∀ l : List Int, l.Pairwise (· < ·) → (putL l n).Pairwise (· < ·)
  | [], _ => by simp [putL]
  | x :: t, h => by
    obtain ⟨h1, h2⟩ := List.pairwise_cons.1 h
    unfold putL
    split
    · next hx =>
      refine List.pairwise_cons.2 ⟨fun y hy => ?_, put_up t h2⟩
      rcases (put_mem t).1 hy with rfl | hy
      · exact hx
      · exact h1 y hy
    · split
      · exact h
      · refine List.pairwise_cons.2 ⟨fun y hy => ?_, h⟩
        rcases List.mem_cons.1 hy with rfl | hy
        · omega
        · have := h1 y hy; omega
theorem put_len {n : Int} : ∀ l : List Int, (putL l n).length ≤ l.length + 1
  | [] => by simp [putL]
  | x :: t => by
    have ih := put_len (n := n) t
    unfold putL
    split
    · simp; omega
    · split <;> simp
theorem put_at {n : Int} : ∀ (i : Nat) (l : List Int), i ≤ l.length → (∀ j x, j < i → l[j]? = some x → x < n) →
    (l[i]? = some n → putL l n = l) ∧ ((∀ x, l[i]? = some x → n < x) → putL l n = l.take i ++ [n] ++ l.drop i)
  | 0, [], _, _ => ⟨fun h => by simp at h, fun _ => rfl⟩
  | 0, x :: t, _, _ => by
    refine ⟨fun h => ?_, fun h => ?_⟩
    · simp at h
      unfold putL
      rw [if_neg (by omega), if_pos h]
    · have := h x rfl
      unfold putL
      rw [if_neg (by omega), if_neg (by omega)]; rfl
  | i + 1, [], h, _ => by simp at h
  | i + 1, x :: t, h, hl => by
    have hx : x < n := hl 0 x (by omega) rfl
    obtain ⟨h1, h2⟩ := put_at i t (by simpa using h) (fun j y hj hy => hl (j + 1) y (by omega) (by simpa using hy))
    unfold putL
    rw [if_pos hx]
    refine ⟨fun h => ?_, fun h => ?_⟩
    · rw [h1 (by simpa using h)]
    · rw [h2 (fun y hy => h y (by simpa using hy))]; rfl
section
variable {w w' : World} {v : Value} {l : List Int}
def OI (w : World) (v : Value) (l : List Int) : Prop := OwK encI 3 1 w 0 v l
theorem OI.below (h : OI w v l) (hb : Below w.heap.size w w') : OI w' v l := OwK.below h hb
theorem OI.nil (w : World) : OI w (.slice none 0 0) [] := OwK.nil _ _
theorem OI.reads (h : OI w v l) : RdK encI 1 w v l := OwK.reads encI_len h
/-- Its cells. -/
theorem OI.form (h : OI w v l) : (v = .slice none 0 0 ∧ l = []) ∨ ∃ g cap, v = .slice (some ⟨g, 0, none⟩) l.length cap ∧ l.length ≤ cap ∧ g < w.heap.size ∧ ∀ (j : Nat) (x : Int), l[j]? = some x → w.cell? ⟨g, j, none⟩ = some (.int .i64 x) := by
  rcases h.2 with ⟨k1, k2⟩ | ⟨g, cap, cur, k1, _, _, k2, _⟩
  · exact .inl ⟨k1, List.eq_nil_of_length_eq_zero k2⟩
  · refine .inr ⟨g, cap, k1, k2, (OwK.lt h (by rw [k1]; rfl)).2, fun j x hx => ?_⟩
    obtain ⟨g', cap', k3, _, _, k4, _⟩ := OwK.form encI_len h (fun e => by rw [e] at hx; simp at hx)
    rw [k1] at k3
    simp only [Value.slice.injEq, Option.some.injEq, Addr.mk.injEq] at k3
    obtain ⟨⟨rfl, _⟩, _, rfl⟩ := k3
    have := k4 j x 0 (.int .i64 x) hx rfl
    rwa [show j * 1 + 0 = j by omega] at this
end
theorem cells_take {w : World} {g i : Nat} {l : List Int} (h : ∀ (j : Nat) (x : Int), l[j]? = some x → w.cell? ⟨g, j, none⟩ = some (.int .i64 x)) : ∀ (j : Nat) (u : Value), ((l.take i).map (Value.int .i64))[j]? = some u → w.cell? ((⟨g, 0, none⟩ : Addr).add j) = some u := by
  intro j u hu
  rw [List.getElem?_map] at hu
  obtain ⟨x, hx, rfl⟩ := Option.map_eq_some_iff.1 hu
  have hj := (List.getElem?_eq_some_iff.1 hx).1
  rw [List.length_take] at hj
  rw [List.getElem?_take_of_lt (by omega)] at hx
  rw [Addr.add_lit, Nat.zero_add]; exact h j x hx
theorem cells_drop {w : World} {g i : Nat} {l : List Int} (h : ∀ (j : Nat) (x : Int), l[j]? = some x → w.cell? ⟨g, j, none⟩ = some (.int .i64 x)) : ∀ (j : Nat) (u : Value), ((l.drop i).map (Value.int .i64))[j]? = some u → w.cell? ((⟨g, i, none⟩ : Addr).add j) = some u := by
  intro j u hu
  rw [List.getElem?_map] at hu
  obtain ⟨x, hx, rfl⟩ := Option.map_eq_some_iff.1 hu
  rw [List.getElem?_drop] at hx
  rw [Addr.add_lit]; exact h _ x hx
/-- What put keeps. -/
def Pst (w0 : World) (g : Nat) (l : List Int) (B : Nat) (v : Value) (zs : List Int) (wx : World) : Prop :=
  (∀ (j : Nat) (x : Int), l[j]? = some x → wx.cell? ⟨g, j, none⟩ = some (.int .i64 x)) ∧ g < B ∧ w0.heap.size ≤ B ∧ OwK encI 3 1 wx B v zs ∧ Below w0.heap.size w0 wx
theorem Pst.made {w0 : World} {g : Nat} {l : List Int} (hc : ∀ (j : Nat) (x : Int), l[j]? = some x → w0.cell? ⟨g, j, none⟩ = some (.int .i64 x)) (hg : g < w0.heap.size) (q : Nat) :
    Pst w0 g l w0.heap.size (.slice (some ⟨w0.heap.size, 0, none⟩) 0 0) [] ((w0.drewN q).alloc (.cells #[] 3)) :=
  ⟨fun j x hx => (Below.cell ((Below.refl _ (w0.drewN q)).alloc (Nat.le_refl _) _) (p := ⟨g, j, none⟩) hg).trans (hc j x hx), hg, Nat.le_refl _, World.ownsRow_made (w0.drewN q) #[] 0 (Nat.le_refl _) (by decide) rfl,
    (below_drewN (Below.refl _ _) q).alloc (Nat.le_refl _) _⟩
theorem Pst.alloc {w0 wx : World} {g B : Nat} {v : Value} {l zs : List Int} (h : Pst w0 g l B v zs wx) (o : Obj) : Pst w0 g l B v zs (wx.alloc o) := by
  have hb := (Below.refl _ wx).alloc (Nat.le_refl _) o
  exact ⟨fun j x hx => (hb.cell (p := ⟨g, j, none⟩) (World.block_lt_of_cell? _ _ (h.1 j x hx))).trans (h.1 j x hx), h.2.1, h.2.2.1, h.2.2.2.1.below hb, h.2.2.2.2.trans (hb.mono h.2.2.2.2.size)⟩
theorem Pst.put {w0 wx w1 : World} {g B : Nat} {v v' : Value} {l zs zs' : List Int} (h : Pst w0 g l B v zs wx) (hg : wx.grownBy w1 v.ownBlock) (ho : w1.ownsRow B 3 1 v' zs'.length (zs'.map (Value.int .i64))) : Pst w0 g l B v' zs' w1 := by
  refine ⟨fun j x hx => hg.cell (h.1 j x hx) (fun e => ?_), h.2.1, h.2.2.1, ?_, below_only h.2.2.2.2 hg h.2.2.2.2.size (fun k hk => ?_)⟩
  · have h1 := (h.2.2.2.1.lt e.symm).1; have h2 := h.2.1; dsimp only at h1; omega
  · unfold OwK; rw [flatI]; exact ho
  · have h1 := (h.2.2.2.1.lt hk).1; have h2 := h.2.2.1; omega
theorem Pst.out {w0 wx : World} {g B : Nat} {v : Value} {l zs : List Int} (h : Pst w0 g l B v zs wx) : OI wx v zs ∧ Below w0.heap.size w0 wx := ⟨h.2.2.2.1.less (Nat.zero_le _), h.2.2.2.2⟩
theorem Pst.row {w0 wx : World} {g B : Nat} {v : Value} {l zs : List Int} (h : Pst w0 g l B v zs wx) : wx.ownsRow B 3 1 v zs.length (zs.map (Value.int .i64)) := by
  have := h.2.2.2.1; unfold OwK at this; rwa [flatI] at this
set_option maxRecDepth 100000 in
set_option maxHeartbeats 4000000 in
theorem put_c (v : Value) (l : List Int) (n : Int) (w : World) (hO : OI w v l) (hl : l.length ≤ 1048576) :
    Calls Try.prog 44 #[v, .int .i64 n] w fun e w' => ∃ v', e = .returned v' ∧ OI w' v' (putL l n) ∧ Below w.heap.size w w' := by
  obtain ⟨i0, hi, hz0, hz1, hz2⟩ := info_parts intInfo
  have HP := Lib.hid (fun i => put_at (n := n) i l)
  rcases hO.form with ⟨rfl, rfl⟩ | ⟨g, cap, rfl, hcap, hg, hc⟩
  · clear hO hl
    go_enter Try.func44, Try.ntmps44
    go_wp2_with fail
    go_loopw [5] (fun z wr => ∃ q : Nat, z = .int .i64 0 ∧ wr = w.drewN q) (fun z _ => 0)
    case atStart => exact ⟨0, rfl, rfl⟩
    case round =>
      obtain ⟨q, rfl, rfl⟩ := hrel
      have B1 : Below w.heap.size w ((w.drewN q).alloc (.cells #[] 3)) := (below_drewN (Below.refl _ _) q).alloc (Nat.le_refl _) _
      have O1 : OwK encI 3 1 ((w.drewN q).alloc (.cells #[] 3)) w.heap.size (.slice (some ⟨w.heap.size, 0, none⟩) 0 0) [] := World.ownsRow_made (w.drewN q) #[] 0 (Nat.le_refl _) (by decide) rfl
      go_wp2_with (first
        | (at_builtin; refine wpList_append_own_none rfl (.tmp 34) (.tmp 37) 49 rfl w.heap.size 3 i0 1 Try.underlying49 hi _ _ _ rfl O1 rfl ?_)
        | (at_builtin; refine wpList_append_own_at _ rfl (.tmp 39) (.tmp 41) 49 rfl w.heap.size 3 i0 (.int .i64 0) 1 8 Try.underlying49 hi hz0 hz1 hz2 rfl (by decide) _ _ _ rfl (World.ownsRow.alloc O1 _) ⟨_, 0, none⟩ 1 1 [.int .i64 n] rfl rfl (cell_list_at _ _ [.int .i64 n] _ (by simp)) (oneCell_ints [n]) (by decide) (by decide) (by simp; omega) ?_; intro v2 w2 ho2 hg2 _ _; have O2 : OwK encI 3 1 w2 w.heap.size v2 [n] := ho2; have B2 := below_only (B1.alloc B1.size _) hg2 (by simp; omega) (fun k hk => (OwK.lt O1 hk).1))
        | (at_builtin; refine wpList_append_own_none rfl (.tmp 43) (.tmp 46) 49 rfl w.heap.size 3 i0 1 Try.underlying49 hi _ _ _ rfl O2 rfl ?_))
      go_ret
      exact ⟨_, rfl, O2.less (Nat.zero_le _), B2⟩
  · skip
    have HC := Lib.hid hc
    obtain ⟨m, hm⟩ : ∃ m, m = l.length := ⟨_, rfl⟩
    rw [← hm] at hl hcap hO ⊢
    have HO := Lib.hid hO
    have HM := Lib.hid hm
    have HL := Lib.hid hl
    clear hc hO hm
    go_enter Try.func44, Try.ntmps44
    go_wp2_with fail
    go_loopw [5] (fun z wr => ∃ i q : Nat, i ≤ m ∧ z = .int .i64 i ∧ (∀ j x, j < i → l[j]? = some x → x < n) ∧ wr = w.drewN q) (fun z _ => m - (intOf z).toNat)
    case atStart => exact ⟨0, 0, Nat.zero_le _, rfl, fun j x h => by omega, rfl⟩
    case round =>
      obtain ⟨i, q, him, rfl, hj, rfl⟩ := hrel
      have HJ := Lib.hid hj
      clear hj
      have hi0 : (0 : Int) ≤ (i : Int) := by omega
      have hic : (i : Int) ≤ (cap : Int) := by omega
      have him' : (i : Int) ≤ (m : Int) := by omega
      by_cases hlt : i < m
      · obtain ⟨x, hx⟩ : ∃ x, l[i]? = some x := ⟨_, List.getElem?_eq_getElem (by rw [← HM.out]; exact hlt)⟩
        have c0 := HC.out i x hx
        have hi1 : (i : Int) < (m : Int) := by omega
        have HX := Lib.hid hx
        clear hx
        by_cases hxn : x < n
        · go_wp2_with fail
          go_roundw
          case rel => exact ⟨i + 1, _, by omega, by go_num, fun j y hj hy => by
            rcases Nat.lt_or_ge j i with h | h
            · exact HJ.out j y h hy
            · obtain rfl : j = i := by omega
              rw [HX.out] at hy; injection hy with hy; omega, rfl⟩
          case measure => simp [intOf]; omega
        · by_cases hxe : x = n
          · subst hxe
            have HR := Lib.hid ((HP.out i (by rw [← HM.out]; omega) HJ.out).1 HX.out)
            go_wp2_with fail
            go_ret
            exact ⟨_, rfl, by rw [HR.out]; exact HO.out.below (below_drewN (Below.refl _ _) _), below_drewN (Below.refl _ _) _⟩
          · have hxg : n < x := by omega
            have HR := Lib.hid ((HP.out i (by rw [← HM.out]; omega) HJ.out).2 (fun y hy => by rw [HX.out] at hy; injection hy with hy; omega))
            go_wp2_with (first
              | (at_builtin; refine wpList_append_own_at _ rfl (.tmp 34) (.tmp 37) 49 rfl w.heap.size 3 i0 (.int .i64 0) 1 8 Try.underlying49 hi hz0 hz1 hz2 rfl (by decide) _ _ _ rfl (Pst.made HC.out hg q).row ⟨g, 0, none⟩ i _ ((l.take i).map (Value.int .i64)) rfl (by rw [List.length_map, List.length_take, ← HM.out]; omega) (cells_take (Pst.made HC.out hg q).1) (oneCell_ints _) (by unfold maxLen; have := HL.out; simp; omega) (by have := HL.out; simp; omega) (by simp) ?_; intro v1 w1 ho1 hg1 _ _; have P1 := (Pst.made HC.out hg q).put hg1 (zs' := l.take i) (by rw [List.length_take, ← HM.out, Nat.min_eq_left (by omega)]; simpa using ho1); clear ho1 hg1)
              | (at_builtin; refine wpList_append_own_at _ rfl (.tmp 39) (.tmp 41) 49 rfl w.heap.size 3 i0 (.int .i64 0) 1 8 Try.underlying49 hi hz0 hz1 hz2 rfl (by decide) _ _ _ rfl (P1.alloc _).row ⟨_, 0, none⟩ 1 1 [.int .i64 n] rfl rfl (cell_one_new _ _ _) (oneCell_ints [n]) (by unfold maxLen; have := HL.out; simp; omega) (by have := HL.out; simp; omega) (P1.alloc _).2.2.2.2.size ?_; intro v2 w2 ho2 hg2 _ _; have P2 := (P1.alloc _).put hg2 (zs' := l.take i ++ [n]) (by rw [List.length_append, List.map_append]; exact ho2); clear ho2 hg2 P1)
              | (at_builtin; refine wpList_append_own_at _ rfl (.tmp 43) (.tmp 46) 49 rfl w.heap.size 3 i0 (.int .i64 0) 1 8 Try.underlying49 hi hz0 hz1 hz2 rfl (by decide) _ _ _ rfl P2.row ⟨g, i, none⟩ (m - i) (cap - i) ((l.drop i).map (Value.int .i64)) rfl (by rw [List.length_map, List.length_drop, ← HM.out]; omega) (cells_drop P2.1) (oneCell_ints _) (by unfold maxLen; have := HL.out; simp; omega) (by have := HL.out; simp; omega) P2.2.2.2.2.size ?_; intro v3 w3 ho3 hg3 _ _; have P3 := P2.put hg3 (zs' := l.take i ++ [n] ++ l.drop i) (by rw [List.length_append (bs := l.drop i), List.length_drop, ← HM.out, List.map_append (l₂ := l.drop i)]; exact ho3); clear ho3 hg3 P2))
            go_ret
            exact ⟨_, rfl, by rw [HR.out]; exact P3.out.1, P3.out.2⟩
      · obtain rfl : i = m := by omega
        have HR := Lib.hid ((HP.out i (by rw [← HM.out]; omega) HJ.out).2 (fun y hy => by rw [HM.out] at hy; simp at hy))
        rcases Nat.lt_or_ge i cap with hcm | hcm
        · go_wp2_with (first
            | (at_builtin; refine wpList_append_own_at _ rfl (.tmp 34) (.tmp 37) 49 rfl w.heap.size 3 i0 (.int .i64 0) 1 8 Try.underlying49 hi hz0 hz1 hz2 rfl (by decide) _ _ _ rfl (Pst.made HC.out hg q).row ⟨g, 0, none⟩ i _ ((l.take i).map (Value.int .i64)) rfl (by rw [List.length_map, List.length_take, ← HM.out]; omega) (cells_take (Pst.made HC.out hg q).1) (oneCell_ints _) (by unfold maxLen; have := HL.out; simp; omega) (by have := HL.out; simp; omega) (by simp) ?_; intro v1 w1 ho1 hg1 _ _; have P1 := (Pst.made HC.out hg q).put hg1 (zs' := l.take i) (by rw [List.length_take, ← HM.out, Nat.min_eq_left (by omega)]; simpa using ho1); clear ho1 hg1)
            | (at_builtin; refine wpList_append_own_at _ rfl (.tmp 39) (.tmp 41) 49 rfl w.heap.size 3 i0 (.int .i64 0) 1 8 Try.underlying49 hi hz0 hz1 hz2 rfl (by decide) _ _ _ rfl (P1.alloc _).row ⟨_, 0, none⟩ 1 1 [.int .i64 n] rfl rfl (cell_one_new _ _ _) (oneCell_ints [n]) (by unfold maxLen; have := HL.out; simp; omega) (by have := HL.out; simp; omega) (P1.alloc _).2.2.2.2.size ?_; intro v2 w2 ho2 hg2 _ _; have P2 := (P1.alloc _).put hg2 (zs' := l.take i ++ [n]) (by rw [List.length_append, List.map_append]; exact ho2); clear ho2 hg2 P1)
            | (at_builtin; refine wpList_append_own_at _ rfl (.tmp 43) (.tmp 46) 49 rfl w.heap.size 3 i0 (.int .i64 0) 1 8 Try.underlying49 hi hz0 hz1 hz2 rfl (by decide) _ _ _ rfl P2.row ⟨g, _, none⟩ 0 _ [] rfl (by simp) (fun j u hu => by simp at hu) (fun u hu => by cases hu) (by unfold maxLen; have := HL.out; simp; omega) (by have := HL.out; simp; omega) P2.2.2.2.2.size ?_; intro v3 w3 ho3 hg3 _ _; have P3 := P2.put hg3 (zs' := l.take i ++ [n] ++ l.drop i) (by rw [List.drop_of_length_le (by rw [← HM.out]; omega), List.append_nil]; simpa using ho3); clear ho3 hg3 P2))
          go_ret
          exact ⟨_, rfl, by rw [HR.out]; exact P3.out.1, P3.out.2⟩
        · obtain rfl : i = cap := by omega
          go_wp2_with (first
            | (at_builtin; refine wpList_append_own_at _ rfl (.tmp 34) (.tmp 37) 49 rfl w.heap.size 3 i0 (.int .i64 0) 1 8 Try.underlying49 hi hz0 hz1 hz2 rfl (by decide) _ _ _ rfl (Pst.made HC.out hg q).row ⟨g, 0, none⟩ i _ ((l.take i).map (Value.int .i64)) rfl (by rw [List.length_map, List.length_take, ← HM.out]; omega) (cells_take (Pst.made HC.out hg q).1) (oneCell_ints _) (by unfold maxLen; have := HL.out; simp; omega) (by have := HL.out; simp; omega) (by simp) ?_; intro v1 w1 ho1 hg1 _ _; have P1 := (Pst.made HC.out hg q).put hg1 (zs' := l.take i) (by rw [List.length_take, ← HM.out, Nat.min_eq_left (by omega)]; simpa using ho1); clear ho1 hg1)
            | (at_builtin; refine wpList_append_own_at _ rfl (.tmp 39) (.tmp 41) 49 rfl w.heap.size 3 i0 (.int .i64 0) 1 8 Try.underlying49 hi hz0 hz1 hz2 rfl (by decide) _ _ _ rfl (P1.alloc _).row ⟨_, 0, none⟩ 1 1 [.int .i64 n] rfl rfl (cell_one_new _ _ _) (oneCell_ints [n]) (by unfold maxLen; have := HL.out; simp; omega) (by have := HL.out; simp; omega) (P1.alloc _).2.2.2.2.size ?_; intro v2 w2 ho2 hg2 _ _; have P2 := (P1.alloc _).put hg2 (zs' := l.take i ++ [n]) (by rw [List.length_append, List.map_append]; exact ho2); clear ho2 hg2 P1)
            | (at_builtin; refine wpList_append_own_at _ rfl (.tmp 43) (.tmp 46) 49 rfl w.heap.size 3 i0 (.int .i64 0) 1 8 Try.underlying49 hi hz0 hz1 hz2 rfl (by decide) _ _ _ rfl P2.row ⟨g, _, none⟩ 0 _ [] rfl (by simp) (fun j u hu => by simp at hu) (fun u hu => by cases hu) (by unfold maxLen; have := HL.out; simp; omega) (by have := HL.out; simp; omega) P2.2.2.2.2.size ?_; intro v3 w3 ho3 hg3 _ _; have P3 := P2.put hg3 (zs' := l.take i ++ [n] ++ l.drop i) (by rw [List.drop_of_length_le (by rw [← HM.out]; omega), List.append_nil]; simpa using ho3); clear ho3 hg3 P2))
          go_ret
          exact ⟨_, rfl, by rw [HR.out]; exact P3.out.1, P3.out.2⟩
end Go.Proofs.Ytfabknabkcfpjaa
