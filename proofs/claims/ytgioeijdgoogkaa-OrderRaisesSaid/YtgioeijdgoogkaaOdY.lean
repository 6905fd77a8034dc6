/- Rows of things of the call's own; OrderTurns. -/
import Derived.Test.YtgioeijdgoogkaaOdV
namespace Go.Proofs.Ytgioeijdgoogkaa.Od
open Go.RowKit Go.Maps Go.Shelf
set_option linter.unusedVariables false
set_option linter.unusedSimpArgs false
theorem info_parts {P : Program} {t : TypeId} {z : Value} {s b : Nat} (h : (P.info? t).map (fun i => (i.zero, i.size, i.bytes)) = some (some z, s, b)) : ∃ i, P.info? t = some i ∧ i.zero = some z ∧ i.size = s ∧ i.bytes = b := by
  cases hi : P.info? t with
  | none => rw [hi] at h; cases h
  | some i => rw [hi] at h; simp at h; exact ⟨i, rfl, h.1, h.2.1, h.2.2⟩
/-- A row of things of the call's own. -/
abbrev OwT (w : World) (base : Nat) (v : Value) (xs : List It) : Prop := w.ownsRow base 38 6 v xs.length (xs.flatMap encT)
theorem flatT_len (xs : List It) : (xs.flatMap encT).length = xs.length * 6 := by
  induction xs with
  | nil => simp
  | cons x t ih => rw [List.flatMap_cons, List.length_append, ih, List.length_cons]; simp only [encT, List.length_cons, List.length_nil]; omega
theorem flatT_get : ∀ (xs : List It) (j : Nat) (x : It) (i : Nat) (u : Value), xs[j]? = some x → (encT x)[i]? = some u → (xs.flatMap encT)[j * 6 + i]? = some u
  | [], j, x, i, u, hx, _ => by simp at hx
  | y :: t, 0, x, i, u, hx, hu => by
    simp only [List.getElem?_cons_zero, Option.some.injEq] at hx
    subst hx
    have hi := (List.getElem?_eq_some_iff.1 hu).1
    rw [List.flatMap_cons, Nat.zero_mul, Nat.zero_add, List.getElem?_append_left hi]
    exact hu
  | y :: t, j + 1, x, i, u, hx, hu => by
    rw [List.getElem?_cons_succ] at hx
    have := flatT_get t j x i u hx hu
    have e6 : (encT y).length = 6 := rfl
    rw [List.flatMap_cons, List.getElem?_append_right (by rw [e6]; omega), e6]
    rw [show (j + 1) * 6 + i - 6 = j * 6 + i by omega]
    exact this
theorem flatT_put : ∀ (xs : List It) (m : Nat) (u : Value), (xs.flatMap encT)[m]? = some u → ∃ (j : Nat) (x : It) (i : Nat), m = j * 6 + i ∧ xs[j]? = some x ∧ (encT x)[i]? = some u
  | [], m, u, h => by simp at h
  | y :: t, m, u, h => by
    have e6 : (encT y).length = 6 := rfl
    rw [List.flatMap_cons] at h
    by_cases hm : m < 6
    · rw [List.getElem?_append_left (by rw [e6]; exact hm)] at h
      exact ⟨0, y, m, by omega, rfl, h⟩
    · rw [List.getElem?_append_right (by rw [e6]; omega), e6] at h
      obtain ⟨j, x, i, e, hx, hu⟩ := flatT_put t _ u h
      exact ⟨j + 1, x, i, by omega, by rw [List.getElem?_cons_succ]; exact hx, hu⟩
theorem OwT.slice {w : World} {base : Nat} {v : Value} {xs : List It} (h : OwT w base v xs) : ∃ p c, v = .slice p xs.length c := by
  obtain ⟨_, h1⟩ := h
  rcases h1 with ⟨rfl, hn⟩ | ⟨g, cap, cur, rfl, _⟩
  · rw [hn]; exact ⟨_, _, rfl⟩
  · exact ⟨_, _, rfl⟩
theorem OwT.reads {w : World} {base : Nat} {v : Value} {xs : List It} (h : OwT w base v xs) : RdT w v xs := by
  have h0 := h
  obtain ⟨hlen, h1⟩ := h
  rcases h1 with ⟨rfl, hn⟩ | ⟨g, cap, cur, rfl, hb, hg, hnc, hm, hs, ht⟩
  · refine ⟨none, 0, by rw [hn], fun j x hx => ?_⟩
    have := (List.getElem?_eq_some_iff.1 hx).1; omega
  · refine ⟨some ⟨g, 0, none⟩, cap, rfl, fun j x hx => ⟨g, 0, rfl, (World.ownsRow.lt h0 g rfl).2, fun i u hu => ?_⟩⟩
    have h2 := flatT_get xs j x i u hx hu
    have h3 := (List.getElem?_eq_some_iff.1 h2).1
    rw [hlen] at h3
    rw [Nat.zero_add]
    exact (World.ownsRow.cellAt h0 _ h3).trans h2
theorem OwT.keep {w w' : World} {base : Nat} {v : Value} {xs : List It} (h : OwT w base v xs) (hb : Below w.heap.size w w') : OwT w' base v xs := by
  refine World.ownsRow.kept h (only_of_below hb none) ?_
  cases v.ownBlock with
  | none => exact .inl rfl
  | some g => exact .inr (by simp)
theorem OwT.far {w : World} {base : Nat} {v : Value} {xs : List It} (h : OwT w base v xs) {g : Nat} {t : TypeId} {cs : Array Value} (hg : Blk w g t cs) (ht : t ≠ 38) : some g ≠ v.ownBlock := by
  obtain ⟨_, h1⟩ := h
  rcases h1 with ⟨rfl, hn⟩ | ⟨g', cap, cur, rfl, _, hg', _⟩
  · exact fun e => by cases e
  · intro e
    have e : g = g' := Option.some.inj e
    subst e
    have : Blk w g 38 cur := hg'
    exact hg.ne_ this ht rfl
theorem OwT.none {w : World} {g base : Nat} (h : Blk w g 38 #[]) (hb : base ≤ g) : OwT w base (.slice (some ⟨g, 0, none⟩) 0 0) [] :=
  ⟨rfl, .inr ⟨g, 0, _, rfl, hb, h, Nat.le_refl _, by decide, rfl, rfl⟩⟩
theorem itInfo : (Try.prog.info? 38).map (fun i => (i.zero, i.size, i.bytes)) = some (some (.agg #[.int .i64 0, .int .i64 0, .int .i64 0, .bool false, .int .i64 0, .int .i64 0]), 6, 48) := by kernel_rfl
theorem oneT (L : List It) : ∀ q ∈ L.flatMap encT, q.oneCell' = true := fun q hq => by
  obtain ⟨v, -, hv⟩ := List.mem_flatMap.1 hq
  simp only [encT, List.mem_cons, List.not_mem_nil, or_false] at hv
  rcases hv with rfl | rfl | rfl | rfl | rfl | rfl <;> rfl
/-- What is read is put behind what is owned. -/
theorem run_read (w : World) (ty : TypeId) (base : Nat) (v : Value) (xs : List It) (hown : OwT w base v xs) (u : Value) (L : List It) (hu : RdT w u L) (hnil : ∀ n c, u = .slice none n c → c = 0)
    (h63 : (xs.length + L.length) * 48 ≤ 140737488355328) (hbase : base ≤ w.heap.size) :
    ∃ v' w', (Builtin.append_ #[22, 22] ty #[v, u]).run Try.prog w = .ok v' w' ∧ OwT w' base v' (xs ++ L) ∧ w.grownBy w' v.ownBlock := by
  obtain ⟨i0, hi0, hz0, hz1, hz2⟩ := info_parts itInfo
  obtain ⟨p, c, rfl, hcell⟩ := hu
  cases p with
  | none =>
    obtain rfl : L = [] := by
      cases L with
      | nil => rfl
      | cons x t => obtain ⟨b, o, e, _⟩ := hcell 0 x rfl; cases e
    obtain rfl := hnil _ _ rfl
    exact ⟨v, w, run_append_owned_none (P := Try.prog) (w := w) base 22 ty 38 i0 6 Try.underlying22 hi0 v xs.length _ hown, by simpa using hown, World.grownBy.refl w _⟩
  | some a =>
    obtain ⟨v', w', k1, k2, k3, _⟩ := run_append_own_at (P := Try.prog) w base 22 ty 38 i0 _ 6 48 Try.underlying22 hi0 hz0 hz1 hz2 rfl (by decide) v xs.length _ hown a L.length c (L.flatMap encT) (flatT_len L) (fun j q hq => by
        obtain ⟨j', x, i, rfl, hx, hu⟩ := flatT_put L j q hq
        obtain ⟨b, o, e, _, h⟩ := hcell j' x hx
        obtain rfl := Option.some.inj e
        rw [Addr.add_lit, ← Nat.add_assoc]
        exact h i q hu) (oneT L) (by unfold maxLen; omega) h63 hbase
    exact ⟨v', w', k1, by unfold OwT; rw [List.length_append, List.flatMap_append]; exact k2, k3⟩
theorem step_read {w : World} {ops : Array Oper} {o : Oper} {a : Act} {K : Act → World → Prop} {E : Prop} (hgd : o.guard = none) (s x : Operand)
    (ho : o.op = .call { callee := .builtin .append, args := #[s, x], argTypes := #[22, 22] }) {Q : Exit → Act → World → Prop}
    (base : Nat) (v : Value) (xs : List It) (hs : a.eval s = v) (hown : OwT w base v xs) (u : Value) (L : List It) (hx : a.eval x = u) (hu : RdT w u L) (hnil : ∀ n c, u = .slice none n c → c = 0)
    (h63 : (xs.length + L.length) * 48 ≤ 140737488355328) (hbase : base ≤ w.heap.size)
    (h : ∀ v' w', OwT w' base v' (xs ++ L) → w.grownBy w' v.ownBlock → K (a.put o.dst v') w') : if Region.wanted o (yielded ops a.tmps) = true then Oper.wp Try.prog o a w K Q else E := by
  have hw : Region.wanted o (yielded ops a.tmps) = true := by simp [Region.wanted, hgd]
  rw [if_pos hw]
  obtain ⟨v', w', k1, k2, k3⟩ := run_read w o.type base v xs hown u L hu hnil h63 hbase
  unfold Oper.wp execOp
  simp only [ho, resolve, invoke, builtin, Sem.run_bind, Sem.run_pure, Result.andThen_ok, List.map_toArray, List.map_cons, List.map_nil, hs, hx, k1]
  exact h v' w' k2 k3
theorem list_read {w : World} {ops : Array Oper} {rest : List Oper} {o : Oper} {a : Act} {Q : Exit → Act → World → Prop} (hgd : o.guard = none) (s x : Operand)
    (ho : o.op = .call { callee := .builtin .append, args := #[s, x], argTypes := #[22, 22] })
    (base : Nat) (v : Value) (xs : List It) (hs : a.eval s = v) (hown : OwT w base v xs) (u : Value) (L : List It) (hx : a.eval x = u) (hu : RdT w u L) (hnil : ∀ n c, u = .slice none n c → c = 0)
    (h63 : (xs.length + L.length) * 48 ≤ 140737488355328) (hbase : base ≤ w.heap.size)
    (h : ∀ v' w', OwT w' base v' (xs ++ L) → w.grownBy w' v.ownBlock → wpList Try.prog ops Q rest (a.put o.dst v') w') : wpList Try.prog ops Q (o :: rest) a w := by
  refine wpList_plain hgd fun K hK => ?_
  obtain ⟨v', w', k1, k2, k3⟩ := run_read w o.type base v xs hown u L hu hnil h63 hbase
  unfold Oper.wp execOp
  simp only [ho, resolve, invoke, builtin, Sem.run_bind, Sem.run_pure, Result.andThen_ok, List.map_toArray, List.map_cons, List.map_nil, hs, hx, k1]
  exact hK _ _ (h v' w' k2 k3)
theorem OwT.below {w wr w1 : World} {base : Nat} {v : Value} {xs : List It} (hB : Below w.heap.size w wr) (hw : w.heap.size ≤ base) (hb : base ≤ wr.heap.size) (h : OwT wr base v xs) (hg : wr.grownBy w1 v.ownBlock) : Below w.heap.size w w1 ∧ base ≤ w1.heap.size :=
  ⟨below_only hB hg hB.size (fun k hk => Nat.le_trans hw (World.ownsRow.lt h k hk).1), Nat.le_trans hb hg.size⟩
/-- The rest of a row, and its beginning. -/
theorem RdT.cut {w : World} {p : Option Addr} {n c k : Nat} {l : List It} (h : RdT w (.slice p n c) l) (hk : k ≤ n) : RdT w (.slice p k c) (l.take k) := by
  obtain ⟨p', c', e, h2⟩ := h
  injection e with e1 e2 e3
  subst e1 e3
  have hl : (l.take k).length = k := by rw [List.length_take]; omega
  refine ⟨p, c, by rw [hl], fun j x hx => ?_⟩
  have hj := (List.getElem?_eq_some_iff.1 hx).1
  rw [hl] at hj
  rw [List.getElem?_take_of_lt hj] at hx
  exact h2 j x hx
theorem RdB.rest {w : World} {b o k c n : Nat} {l : List It} (h : RdB w b o l) (hn : n = l.length) (hk : k ≤ n) : RdT w (.slice (some ⟨b, o + k * 6, none⟩) (n - k) c) (l.drop k) := by
  refine ⟨_, c, by rw [List.length_drop, hn], fun j x hx => ⟨b, o + k * 6, rfl, h.1, fun i u hu => ?_⟩⟩
  rw [List.getElem?_drop] at hx
  have := h.2 (k + j) x hx i u hu
  rw [← this]
  congr 2
  omega
theorem turn_perm (l : List It) (k : Nat) : l.Perm (l.drop k ++ l.take k) := by
  have h := List.perm_append_comm (l₁ := l.take k) (l₂ := l.drop k)
  rw [List.take_append_drop] at h
  exact h
theorem OrdR.turn {l m : List It} {zs : List Int} {z : Int} (hp : l.Perm m) (h : OrdR l zs z) : OrdR m zs z := by
  obtain ⟨h1, h2⟩ := h
  refine ⟨h1.turn hp, ?_⟩
  rcases h2 with h2 | ⟨h2, h3⟩
  · exact .inl h2
  · have hg := h1.good h2
    have hg2 := (h1.turn hp).good h2
    exact .inr ⟨h2, ord_turn (lk_turn hg.2.1 hg2.2.1 fun t => hp.mem_iff) hp.length_eq h3⟩
theorem OkI.turn {l m : List It} (hp : l.Perm m) (h : OkI l) : OkI m := fun j t ht => by
  obtain ⟨i, hi⟩ := List.getElem?_of_mem (hp.mem_iff.2 (List.mem_of_getElem? ht))
  exact h i t hi
set_option maxHeartbeats 1000000 in
set_option maxRecDepth 100000 in
theorem turns_w (v0 : Value) (l : List It) (a : Int) (w : World) (hR : RdT w v0 l) (hn : l.length ≤ 9223372036854775807) (hs : OkI l) (hcap : ∀ (p : Option Addr) (n c : Nat), v0 = .slice p n c → n ≤ c) (ha : (Lit.int .u64 a).wf = true) :
    Calls Try.prog 6 #[v0, .int .u64 a] w fun e w' => e = .returned (.bool true) ∧ Below w.heap.size w w' := by
  have HO := Lib.hid (fun v (m : List It) (W : World) (h : RdT W v m) (hk : OkI m) => Order_c v m W h hk)
  have HIN := Lib.hid (fun v1 v2 xs W h1 h2 h3 => ints_t v1 v2 xs W h1 h2 h3)
  have HAW := Lib.hid (fun W => awake_c W)
  have HR0 := Lib.hid hR
  have HS := Lib.hid hs
  have ha0 : 0 ≤ a ∧ a ≤ 18446744073709551615 := by simp [Lit.wf, IntKind.min, IntKind.max, IntKind.signed, IntKind.bits] at ha; omega
  obtain ⟨p, c, rfl, -⟩ := hR
  obtain ⟨n, hln⟩ : ∃ n, n = l.length := ⟨_, rfl⟩
  rw [← hln] at HR0 hn hcap ⊢
  have hcap := hcap p n c rfl
  have HN := Lib.hid hln
  have HNM := Lib.hid hn
  clear hs hln ha
  by_cases h0 : n = 0
  · subst h0
    go_enter Try.func6, Try.ntmps6
    go_wp2_with fail
    refine (HAW.out w).mono ?_
    rintro e w4 ⟨rfl, hb⟩
    go_wp2_with fail
    go_ret
    exact ⟨rfl, hb⟩
  · by_cases h200 : 200 < n
    · have e1 : ¬ ((n : Int) = 0) := by omega
      have e2 : ((n : Int) == 0) = false := by simpa using h0
      have e3 : (200 : Int) < (n : Int) := by omega
      go_enter Try.func6, Try.ntmps6
      go_wp2_with fail
      refine (HAW.out w).mono ?_
      rintro e w4 ⟨rfl, hb⟩
      go_wp2_with fail
      go_ret
      exact ⟨rfl, hb⟩
    · obtain ⟨x, hx⟩ : ∃ x, l[0]? = some x := ⟨_, List.getElem?_eq_getElem (by rw [← HN.out]; omega)⟩
      obtain ⟨b, o, rfl, hRB⟩ := HR0.out.open hx
      have HRB := Lib.hid hRB
      obtain ⟨k, hk⟩ : ∃ k : Nat, (k : Int) = a % (n : Int) := ⟨(a % (n : Int)).toNat, by have := Int.emod_nonneg a (show (n : Int) ≠ 0 by omega); omega⟩
      have hkn : (k : Int) < (n : Int) := by rw [hk]; exact Int.emod_lt_of_pos _ (by omega)
      have hk0 : (0 : Int) ≤ (k : Int) := by omega
      have e1 : ¬ ((n : Int) = 0) := by omega
      have e2 : ((n : Int) == 0) = false := by simpa using h0
      have e3 : ¬ (200 : Int) < (n : Int) := by omega
      have f1 : IntKind.u64.wrap (n : Int) = (n : Int) := by simp [IntKind.wrap, IntKind.bits, IntKind.signed]; omega
      have hnn : (n : Int) ≤ 200 := by omega
      have HKN := Lib.hid (show k ≤ n by omega)
      have f2 : a % (n : Int) = (k : Int) := hk.symm
      have f2' : a.tmod (n : Int) = (k : Int) := by rw [Int.tmod_eq_emod_of_nonneg ha0.1]; exact hk.symm
      have f3 : IntKind.i64.wrap (k : Int) = (k : Int) := IntWalk.i64_in _ (by omega)
      have f4 : IntKind.u64.wrap (k : Int) = (k : Int) := by simp [IntKind.wrap, IntKind.bits, IntKind.signed]; omega
      have h200' := Lib.hid (show n ≤ 200 by omega)
      clear hx hRB hk h200
      go_enter Try.func6, Try.ntmps6
      have hkc : (k : Int) ≤ (c : Int) := by omega
      have hkl : (k : Int) ≤ (n : Int) := by omega
      go_upto_region 4 with fail
      have hck : ¬ (c = k) := by omega
      obtain ⟨wd, hwd⟩ : ∃ u, u = (w.alloc (.cells #[] 38)).drew := ⟨_, rfl⟩
      have HOE := Lib.hid (show OwT wd w.heap.size (.slice (some ⟨w.heap.size, 0, none⟩) 0 0) [] from OwT.none (by rw [hwd]; exact (Blk.new _ _ _).drew) (Nat.le_refl _))
      have hbd : Below w.heap.size w wd := by rw [hwd]; exact ((Below.refl _ _).alloc (Nat.le_refl _) _).drew
      have HBd := Lib.hid hbd
      have HR1 := Lib.hid (show RdT wd (.slice (some ⟨b, o + k * 6, none⟩) (n - k) (c - k)) (l.drop k) from (HRB.out.below hbd).rest HN.out HKN.out)
      have HR2 := Lib.hid (show ∀ W, Below w.heap.size w W → RdT W (.slice (some ⟨b, o, none⟩) k c) (l.take k) from fun W h => (HR0.out.below h).cut HKN.out)
      have HWD := Lib.hid hwd
      have HLE := Lib.hid (show (l.drop k).length ≤ 200 ∧ (l.take k).length ≤ 200 by rw [List.length_drop, List.length_take]; have := HN.out; have := h200'.out; omega)
      clear hwd hbd
      refine wp_region_noPanic ?_
      refine wp_region_held_drew (S := fun _ => True) (by kernel_rfl) (by trivial) (fun hHeld => ?_)
      refine wpAnyH_take (i := 1) (v := ?v1) rfl (by kernel_rfl) (by kernel_rfl) (by kernel_rfl) (fun _ _ _ h => h) (Or.inl ⟨by kernel_rfl, ?y1⟩) (by assumption) ?r1
      case y1 => (intro wq hSw; (try dsimp only at hSw); go_simp; (try with_reducible rfl))
      (try simp only [Act.put, List.getElem_toArray, List.getElem_cons_succ, List.getElem_cons_zero, List.setIfInBounds_toArray, List.set_cons_zero, List.set_cons_succ])
      refine wpAnyH_take (i := 2) (v := ?v2) rfl (by kernel_rfl) (by kernel_rfl) (by kernel_rfl) (fun _ _ _ h => h) (Or.inl ⟨by kernel_rfl, ?y2⟩) (by assumption) ?r2
      case y2 => (intro wq hSw; (try dsimp only at hSw); go_simp; (try with_reducible rfl))
      (try simp only [Act.put, List.getElem_toArray, List.getElem_cons_succ, List.getElem_cons_zero, List.setIfInBounds_toArray, List.set_cons_zero, List.set_cons_succ])
      refine wpAnyH_take (i := 3) (v := ?v3) rfl (by kernel_rfl) (by kernel_rfl) (by kernel_rfl) (fun _ _ _ h => h) (Or.inl ⟨by kernel_rfl, ?y3⟩) (by assumption) ?r3
      case y3 => (intro wq hSw; (try dsimp only at hSw); go_simp; (try with_reducible rfl))
      (try simp only [Act.put, List.getElem_toArray, List.getElem_cons_succ, List.getElem_cons_zero, List.setIfInBounds_toArray, List.set_cons_zero, List.set_cons_succ])
      refine wpAnyH_take (i := 5) (v := ?v5) rfl (by kernel_rfl) (by kernel_rfl) (by kernel_rfl) (fun _ _ _ h => h) (Or.inl ⟨by kernel_rfl, ?y5⟩) (by assumption) ?r5
      case y5 => (intro wq hSw; (try dsimp only at hSw); go_simp; (try with_reducible rfl))
      (try simp only [Act.put, List.getElem_toArray, List.getElem_cons_succ, List.getElem_cons_zero, List.setIfInBounds_toArray, List.set_cons_zero, List.set_cons_succ])
      refine wpAnyH_take (i := 6) (v := ?v6) rfl (by kernel_rfl) (by kernel_rfl) (by kernel_rfl) (fun _ _ _ h => h) (Or.inl ⟨by kernel_rfl, ?y6⟩) (by assumption) ?r6
      case y6 => (intro wq hSw; (try dsimp only at hSw); go_simp; (try with_reducible rfl))
      (try simp only [Act.put, List.getElem_toArray, List.getElem_cons_succ, List.getElem_cons_zero, List.setIfInBounds_toArray, List.set_cons_zero, List.set_cons_succ])
      refine wpAnyH_take (i := 7) (v := ?v7) rfl (by kernel_rfl) (by kernel_rfl) (by kernel_rfl) (fun _ _ _ h => h) (Or.inl ⟨by kernel_rfl, ?y7⟩) (by assumption) ?r7
      case y7 => (intro wq hSw; (try dsimp only at hSw); go_simp; (try with_reducible rfl))
      (try simp only [Act.put, List.getElem_toArray, List.getElem_cons_succ, List.getElem_cons_zero, List.setIfInBounds_toArray, List.set_cons_zero, List.set_cons_succ])
      refine wpAnyH_ready (rs := [0]) (by kernel_rfl) (by simp) ?_
      refine AllReadyH.cons rfl (fun K hK => ?_) AllReadyH.nil
      go_simp
      refine hK.out _ _ (by trivial) (fun hHeld => ?_)
      clear hK K
      (try simp only [Act.put, List.getElem_toArray, List.getElem_cons_succ, List.getElem_cons_zero, List.setIfInBounds_toArray, List.set_cons_zero, List.set_cons_succ])
      refine wpAnyH_ready (rs := [4]) (by kernel_rfl) (by simp) ?_
      refine AllReadyH.cons rfl (fun K hK => ?_) AllReadyH.nil
      rewrite [← HWD.out]; refine step_read rfl (.tmp 26) (.tmp 29) rfl w.heap.size _ [] (by rfl) HOE.out _ (l.drop k) (by rfl) HR1.out (fun _ _ e => by cases e) (by have := HLE.out.1; rw [List.length_nil, Nat.zero_add]; omega) HBd.out.size ?_; intro v2 w2 ho2 hg2; have HB2 := Lib.hid (OwT.below HBd.out (Nat.le_refl _) HBd.out.size HOE.out hg2); have HO2 := Lib.hid (show OwT w2 w.heap.size v2 (l.drop k) from ho2); clear ho2 hg2
      refine hK.out _ _ (by trivial) (fun hHeld => ?_)
      clear hK K
      (try simp only [Act.put, List.getElem_toArray, List.getElem_cons_succ, List.getElem_cons_zero, List.setIfInBounds_toArray, List.set_cons_zero, List.set_cons_succ])
      refine wpAnyH_ready (rs := [8]) (by kernel_rfl) (by simp) ?_
      refine AllReadyH.cons rfl (fun K hK => ?_) AllReadyH.nil
      refine step_read rfl (.tmp 30) (.tmp 33) rfl w.heap.size _ (l.drop k) (by rfl) HO2.out _ (l.take k) (by rfl) (HR2.out _ HB2.out.1) (fun _ _ e => by cases e) (by have := HLE.out; omega) HB2.out.2 ?_; intro v3 w3 ho3 hg3; have HB3 := Lib.hid (OwT.below HB2.out.1 (Nat.le_refl _) HB2.out.2 HO2.out hg3); have HO3 := Lib.hid (show OwT w3 w.heap.size v3 (l.drop k ++ l.take k) from ho3); clear ho3 hg3
      refine hK.out _ _ (by trivial) (fun hHeld => ?_)
      clear hK K
      (try simp only [Act.put, List.getElem_toArray, List.getElem_cons_succ, List.getElem_cons_zero, List.setIfInBounds_toArray, List.set_cons_zero, List.set_cons_succ])
      refine wpAnyH_take (i := 9) (v := ?v9) rfl (by kernel_rfl) (by kernel_rfl) (by kernel_rfl) (fun _ _ _ h => h) (Or.inl ⟨by kernel_rfl, ?y9⟩) (by assumption) ?r9
      case y9 => (intro wq hSw; (try dsimp only at hSw); go_simp; (try with_reducible rfl))
      (try simp only [Act.put, List.getElem_toArray, List.getElem_cons_succ, List.getElem_cons_zero, List.setIfInBounds_toArray, List.set_cons_zero, List.set_cons_succ])
      refine wpAnyH_done (by kernel_rfl) ?_ _
      refine NoPanic.normal ?_
      clear hHeld
      have HP := Lib.hid (turn_perm l k)
      have HC1 := Lib.hid (HO.out _ l w3 (HR0.out.below HB3.out.1) HS.out)
      go_wp2_with fail
      with_reducible refine HC1.out.mono ?_
      rintro e w4 ⟨v4, zs4, z4, rfl, hr4, ho4, hb⟩
      have HB4 := Lib.hid (HB3.out.1.trans (hb.mono HB3.out.1.size))
      have HR4 := Lib.hid hr4
      have HS4 := Lib.hid (ho4.turn HP.out)
      have HL4 := Lib.hid ho4.le
      have HC2 := Lib.hid (HO.out _ (l.drop k ++ l.take k) w4 ((HO3.out.keep hb).reads) (HS.out.turn HP.out))
      clear hb hr4 ho4 HC1
      go_wp2_with fail
      with_reducible refine HC2.out.mono ?_
      rintro e w5 ⟨v5, zs5, z5, rfl, hr5, ho5, hb⟩
      obtain ⟨rfl, rfl⟩ := HS4.out.one ho5
      have HB5 := Lib.hid (HB4.out.trans (hb.mono HB4.out.size))
      have HC3 := Lib.hid (HIN.out v4 v5 zs4 w5 (HR4.out.below hb) hr5 (by have := HL4.out; omega))
      have g1 : (z4 == z4) = true := by simp
      clear hb hr5 ho5 HC2
      go_wp2_with fail
      refine HC3.out.mono ?_
      rintro e w6 ⟨rfl, hb⟩
      have HB6 := Lib.hid (HB5.out.trans (hb.mono HB5.out.size))
      clear hb
      go_wp2_with fail
      refine (HAW.out w6).mono ?_
      rintro e w7 ⟨rfl, hb⟩
      have HB7 := Lib.hid (HB6.out.trans (hb.mono HB6.out.size))
      clear hb
      go_wp2_with fail
      go_ret
      exact ⟨rfl, HB7.out⟩
end Go.Proofs.Ytgioeijdgoogkaa.Od
