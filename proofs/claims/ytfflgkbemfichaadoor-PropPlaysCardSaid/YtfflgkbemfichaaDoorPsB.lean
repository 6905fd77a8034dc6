/- Rows of held properties owned; Drop and Remove of the document's list. -/
import Derived.Test.YtfflgkbemfichaaDoorPsA
import Derived.Maps.AppendAt
import Derived.Deep.QuietTactic
import Derived.BigQuiet
import Derived.Laws.OwnMore
namespace Go.Proofs.YtfflgkbemfichaaDoor
open Go.RowKit Go.Shelf Go.Maps
theorem take_snoc_get {α : Type} {l : List α} {k : Nat} {x : α} (h : l[k]? = some x) : l.take (k + 1) = l.take k ++ [x] := by
  rw [List.take_add_one, h]; rfl
/-- A slice of the call's own that holds these structs, k cells each. -/
def OwK {α : Type} (enc : α → List Value) (T : TypeId) (k : Nat) (w : World) (base : Nat) (v : Value) (xs : List α) : Prop := w.ownsRow base T k v xs.length (xs.flatMap enc)
section
variable {α : Type} {enc : α → List Value} {T : TypeId} {k : Nat} {w w' : World} {base : Nat} {v : Value} {xs : List α}
theorem OwK.nil (w : World) (base : Nat) : OwK enc T k w base (.slice none 0 0) [] := World.ownsRow_nil w base _ _
theorem OwK.grown {row : Option Nat} (h : OwK enc T k w base v xs) (hg : w.grownBy w' row) (hne : v.ownBlock = none ∨ v.ownBlock ≠ row) : OwK enc T k w' base v xs := World.ownsRow.kept h hg hne
theorem OwK.below (h : OwK enc T k w base v xs) (hb : Below w.heap.size w w') : OwK enc T k w' base v xs := by
  refine h.grown (only_of_below hb none) ?_
  cases v.ownBlock with
  | none => exact .inl rfl
  | some g => exact .inr (by simp)
theorem OwK.less {base' : Nat} (h : OwK enc T k w base v xs) (hb : base' ≤ base) : OwK enc T k w base' v xs := by
  obtain ⟨h1, h2⟩ := h
  refine ⟨h1, ?_⟩
  rcases h2 with h2 | ⟨g, cap, cur, a, b, c⟩
  · exact .inl h2
  · exact .inr ⟨g, cap, cur, a, Nat.le_trans hb b, c⟩
theorem OwK.lt (h : OwK enc T k w base v xs) {g : Nat} (hg : v.ownBlock = some g) : base ≤ g ∧ g < w.heap.size := World.ownsRow.lt h g hg
theorem flat_len (hk : ∀ x, (enc x).length = k) (xs : List α) : (xs.flatMap enc).length = xs.length * k := by
  induction xs with
  | nil => simp
  | cons x t ih => rw [List.flatMap_cons, List.length_append, hk, ih, List.length_cons, Nat.add_mul]; omega
theorem flat_get (hk : ∀ x, (enc x).length = k) : ∀ (xs : List α) (j : Nat) (x : α) (i : Nat) (u : Value), xs[j]? = some x → (enc x)[i]? = some u → (xs.flatMap enc)[j * k + i]? = some u
  | [], j, x, i, u, hx, _ => by simp at hx
  | y :: t, 0, x, i, u, hx, hu => by
    simp only [List.getElem?_cons_zero, Option.some.injEq] at hx
    subst hx
    have hi := (List.getElem?_eq_some_iff.1 hu).1
    rw [List.flatMap_cons, Nat.zero_mul, Nat.zero_add, List.getElem?_append_left hi]
    exact hu
  | y :: t, j + 1, x, i, u, hx, hu => by
    rw [List.getElem?_cons_succ] at hx
    have := flat_get hk t j x i u hx hu
    rw [List.flatMap_cons, List.getElem?_append_right (by rw [hk, Nat.add_mul]; omega), hk]
    rw [show (j + 1) * k + i - k = j * k + i by rw [Nat.add_mul]; omega]
    exact this
/-- Its elements, where there are any. -/
theorem OwK.form (hk : ∀ x, (enc x).length = k) (h : OwK enc T k w base v xs) (hne : xs ≠ []) : ∃ g cap, v = .slice (some ⟨g, 0, none⟩) xs.length cap ∧ base ≤ g ∧ g < w.heap.size ∧
    (∀ (j : Nat) (x : α) (i : Nat) (u : Value), xs[j]? = some x → (enc x)[i]? = some u → w.cell? ⟨g, j * k + i, none⟩ = some u) ∧ ∀ j, w.frozen? ⟨g, j, none⟩ = false := by
  have h0 := h
  obtain ⟨hlen, h1⟩ := h
  rcases h1 with ⟨_, hn⟩ | ⟨g, cap, cur, rfl, hb, hg, hnc, hm, hs, ht⟩
  · exact absurd (List.eq_nil_of_length_eq_zero hn) hne
  · refine ⟨g, cap, rfl, hb, (World.ownsRow.lt h0 g rfl).2, fun j x i u hx hu => ?_, fun j => World.ownsRow.frozenAt h0 j⟩
    have h2 := flat_get hk xs j x i u hx hu
    have h3 := (List.getElem?_eq_some_iff.1 h2).1
    rw [hlen] at h3
    exact (World.ownsRow.cellAt h0 _ h3).trans h2
theorem OwK.slice (h : OwK enc T k w base v xs) : ∃ p c, v = .slice p xs.length c := by
  obtain ⟨_, h1⟩ := h
  rcases h1 with ⟨rfl, hn⟩ | ⟨g, cap, cur, rfl, _⟩
  · rw [hn]; exact ⟨_, _, rfl⟩
  · exact ⟨_, _, rfl⟩
/-- What is owned reads. -/
theorem OwK.reads (hk : ∀ x, (enc x).length = k) (h : OwK enc T k w base v xs) : RdK enc k w v xs := by
  by_cases hne : xs = []
  · subst hne
    obtain ⟨p, c, rfl⟩ := h.slice
    exact ⟨p, c, rfl, fun j x hx => by simp at hx⟩
  · obtain ⟨g, cap, rfl, _, hl, hc, _⟩ := h.form hk hne
    exact ⟨_, cap, rfl, fun j x hx => ⟨g, 0, rfl, hl, fun i u hu => by rw [Nat.zero_add]; exact hc j x i u hx hu⟩⟩
end
/-- An owned row is put behind an owned row, whatever it holds. -/
theorem run_app {P : Program} (w : World) (t ty : TypeId) (base : Nat) (e : TypeId) (i : TypeInfo) (z : Value) (size bytes : Nat) (ht : P.underlying t = some (.slice e)) (hi : P.info? e = some i) (hz : i.zero = some z)
    (hsize : i.size = size) (hby : i.bytes = bytes) (hzs : z.cells.size = size) (hsz : 0 < size) (v : Value) (n : Nat) (xs : List Value) (hown : w.ownsRow base e size v n xs)
    (B : Nat) (u : Value) (m : Nat) (news : List Value) (hu : w.ownsRow B e size u m news) (h1 : ∀ q ∈ news, q.oneCell' = true) (h63 : n + m ≤ maxLen) (hbytes : (n + m) * bytes ≤ 140737488355328) (hbase : base ≤ w.heap.size) :
    ∃ v' w', (Builtin.append_ #[t, t] ty #[v, u]).run P w = .ok v' w' ∧ w'.ownsRow base e size v' (n + m) (xs ++ news) ∧ w.grownBy w' v.ownBlock := by
  have hc := fun g (hg : u.ownBlock = some g) => World.ownsRow.cells hu hg
  obtain ⟨hl, h2⟩ := hu
  rcases h2 with ⟨rfl, rfl⟩ | ⟨g, cap, cur, rfl, _⟩
  · obtain rfl : news = [] := List.eq_nil_of_length_eq_zero (by simpa using hl)
    exact ⟨v, w, run_append_owned_none (P := P) (w := w) base t ty e i size ht hi v n xs hown, by simpa using hown, World.grownBy.refl w _⟩
  · obtain ⟨v', w', k1, k2, k3, _⟩ := run_append_own_at (P := P) w base t ty e i z size bytes ht hi hz hsize hby hzs hsz v n xs hown ⟨g, 0, none⟩ m cap news hl (hc g rfl) h1 h63 hbytes hbase
    exact ⟨v', w', k1, k2, k3⟩
theorem wp_app {P : Program} {w : World} {o : Oper} {a : Act} {K : Act → World → Prop} {Q : Exit → Act → World → Prop} (s x : Operand) (t : TypeId)
    (ho : o.op = .call { callee := .builtin .append, args := #[s, x], argTypes := #[t, t] })
    (base : Nat) (e : TypeId) (i : TypeInfo) (z : Value) (size bytes : Nat) (ht : P.underlying t = some (.slice e)) (hi : P.info? e = some i) (hz : i.zero = some z)
    (hsize : i.size = size) (hby : i.bytes = bytes) (hzs : z.cells.size = size) (hsz : 0 < size) (v : Value) (n : Nat) (xs : List Value) (hs : a.eval s = v) (hown : w.ownsRow base e size v n xs)
    (B : Nat) (u : Value) (m : Nat) (news : List Value) (hx : a.eval x = u) (hu : w.ownsRow B e size u m news) (h1 : ∀ q ∈ news, q.oneCell' = true) (h63 : n + m ≤ maxLen) (hbytes : (n + m) * bytes ≤ 140737488355328) (hbase : base ≤ w.heap.size)
    (h : ∀ v' w', w'.ownsRow base e size v' (n + m) (xs ++ news) → w.grownBy w' v.ownBlock → K (a.put o.dst v') w') : o.wp P a w K Q := by
  obtain ⟨v', w', k1, k2, k3⟩ := run_app (P := P) w t o.type base e i z size bytes ht hi hz hsize hby hzs hsz v n xs hown B u m news hu h1 h63 hbytes hbase
  unfold Oper.wp execOp
  simp only [ho, resolve, invoke, builtin, Sem.run_bind, Sem.run_pure, Result.andThen_ok, List.map_toArray, List.map_cons, List.map_nil, hs, hx, k1]
  exact h v' w' k2 k3
theorem list_app {P : Program} {w : World} {ops : Array Oper} {rest : List Oper} {o : Oper} {a : Act} {Q : Exit → Act → World → Prop} (hgd : o.guard = none) (s x : Operand) (t : TypeId)
    (ho : o.op = .call { callee := .builtin .append, args := #[s, x], argTypes := #[t, t] })
    (base : Nat) (e : TypeId) (i : TypeInfo) (z : Value) (size bytes : Nat) (ht : P.underlying t = some (.slice e)) (hi : P.info? e = some i) (hz : i.zero = some z)
    (hsize : i.size = size) (hby : i.bytes = bytes) (hzs : z.cells.size = size) (hsz : 0 < size) (v : Value) (n : Nat) (xs : List Value) (hs : a.eval s = v) (hown : w.ownsRow base e size v n xs)
    (B : Nat) (u : Value) (m : Nat) (news : List Value) (hx : a.eval x = u) (hu : w.ownsRow B e size u m news) (h1 : ∀ q ∈ news, q.oneCell' = true) (h63 : n + m ≤ maxLen) (hbytes : (n + m) * bytes ≤ 140737488355328) (hbase : base ≤ w.heap.size)
    (h : ∀ v' w', w'.ownsRow base e size v' (n + m) (xs ++ news) → w.grownBy w' v.ownBlock → wpList P ops Q rest (a.put o.dst v') w') : wpList P ops Q (o :: rest) a w :=
  wpList_plain hgd fun _ hK => wp_app s x t ho base e i z size bytes ht hi hz hsize hby hzs hsz v n xs hs hown B u m news hx hu h1 h63 hbytes hbase fun v' w' h2 h3 => hK _ _ (h v' w' h2 h3)
theorem step_app {P : Program} {w : World} {ops : Array Oper} {o : Oper} {a : Act} {K : Act → World → Prop} {Q : Exit → Act → World → Prop} {E : Prop} (hgd : o.guard = none) (s x : Operand) (t : TypeId)
    (ho : o.op = .call { callee := .builtin .append, args := #[s, x], argTypes := #[t, t] })
    (base : Nat) (e : TypeId) (i : TypeInfo) (z : Value) (size bytes : Nat) (ht : P.underlying t = some (.slice e)) (hi : P.info? e = some i) (hz : i.zero = some z)
    (hsize : i.size = size) (hby : i.bytes = bytes) (hzs : z.cells.size = size) (hsz : 0 < size) (v : Value) (n : Nat) (xs : List Value) (hs : a.eval s = v) (hown : w.ownsRow base e size v n xs)
    (B : Nat) (u : Value) (m : Nat) (news : List Value) (hx : a.eval x = u) (hu : w.ownsRow B e size u m news) (h1 : ∀ q ∈ news, q.oneCell' = true) (h63 : n + m ≤ maxLen) (hbytes : (n + m) * bytes ≤ 140737488355328) (hbase : base ≤ w.heap.size)
    (h : ∀ v' w', w'.ownsRow base e size v' (n + m) (xs ++ news) → w.grownBy w' v.ownBlock → K (a.put o.dst v') w') : if Region.wanted o (yielded ops a.tmps) = true then Oper.wp P o a w K Q else E := by
  have hw : Region.wanted o (yielded ops a.tmps) = true := by simp [Region.wanted, hgd]
  rw [if_pos hw]
  exact wp_app s x t ho base e i z size bytes ht hi hz hsize hby hzs hsz v n xs hs hown B u m news hx hu h1 h63 hbytes hbase h
def encH (h : Hd) : List Value := [.int .i64 h.win, .string h.p.name, .string h.p.typ, .string h.p.data]
def encP (p : Pr) : List Value := [.string p.name, .string p.typ, .string p.data]
theorem encH_len (h : Hd) : (encH h).length = 4 := rfl
theorem encP_len (h : Pr) : (encP h).length = 3 := rfl
theorem RdH.of {w : World} {v : Value} {L : List Hd} (h : RdK encH 4 w v L) : RdH w v L := h
theorem oneCell_encH (v : Hd) : ∀ u ∈ encH v, u.oneCell' = true := by
  intro u hu
  simp only [encH, List.mem_cons, List.not_mem_nil, or_false] at hu
  rcases hu with rfl | rfl | rfl | rfl <;> rfl
theorem oneCell_encP (v : Pr) : ∀ u ∈ encP v, u.oneCell' = true := by
  intro u hu
  simp only [encP, List.mem_cons, List.not_mem_nil, or_false] at hu
  rcases hu with rfl | rfl | rfl <;> rfl
theorem heldInfo : (Tryd.prog.info? 70).map (fun i => (i.zero, i.size, i.bytes)) = some (some (.agg #[.int .i64 0, .string ByteArray.empty, .string ByteArray.empty, .string ByteArray.empty]), 4, 56) := by kernel_rfl
abbrev OH (w : World) (B : Nat) (v : Value) (L : List Hd) : Prop := OwK encH 70 4 w B v L
theorem OH.rd {w : World} {B : Nat} {v : Value} {L : List Hd} (h : OH w B v L) : RdH w v L := RdH.of (OwK.reads encH_len h)
def dropH (i : Int) (L : List Hd) : List Hd := L.filter (fun h => !decide (h.win = i))
def remH (i : Int) (s : ByteArray) (L : List Hd) : List Hd := L.filter (fun h => !isP i s h)
theorem filter_snoc {α : Type} (f : α → Bool) {L : List α} {k : Nat} {x : α} (hx : L[k]? = some x) : (L.take (k + 1)).filter f = if f x = true then (L.take k).filter f ++ [x] else (L.take k).filter f := by
  rw [take_snoc_get hx, List.filter_append]
  cases h : f x <;> simp [h]
theorem filter_len {α : Type} (f : α → Bool) (L : List α) (k : Nat) : ((L.take k).filter f).length ≤ L.length := by
  refine Nat.le_trans (List.length_filter_le _ _) ?_
  rw [List.length_take]; omega
/-- The rounds: held properties gathered. -/
def GhS (w : World) (wr : World) (v : Value) (xs : List Hd) : Prop := OH wr w.heap.size v xs ∧ Below w.heap.size w wr
theorem GhS.put {w wr w1 : World} {v v' : Value} {xs : List Hd} {u : Hd} {o : Obj} (h : GhS w wr v xs) (ho : w1.ownsRow w.heap.size 70 4 v' (xs.length + 1) (xs.flatMap encH ++ encH u)) (hg : (wr.alloc o).grownBy w1 v.ownBlock) : GhS w w1 v' (xs ++ [u]) := by
  refine ⟨?_, below_only (h.2.alloc h.2.size _) hg (by have := h.2.size; simp; omega) (fun k hk => (h.1.lt hk).1)⟩
  show w1.ownsRow w.heap.size 70 4 v' (xs ++ [u]).length ((xs ++ [u]).flatMap encH)
  rw [List.length_append, List.flatMap_append]
  simpa using ho
section
variable {w : World} {v : Value} {L : List Hd}
set_option maxRecDepth 100000 in
set_option maxHeartbeats 4000000 in
theorem rdrop_c (h : RdH w v L) (hL : L.length ≤ 1048576) (i : Int) :
    Calls Tryd.prog 14 #[v, .int .i64 i] w fun e w' => ∃ v', e = .returned (v') ∧ OH w' w.heap.size v' (dropH i L) ∧ Below w.heap.size w w' := by
  obtain ⟨i0, hi0, hz0, hz1, hz2⟩ := info_parts heldInfo
  obtain ⟨p, c, rfl, hc⟩ := h
  obtain ⟨n, hn⟩ : ∃ n, n = L.length := ⟨_, rfl⟩
  rw [← hn] at hL ⊢
  have HC := Lib.hid (fun (wr : World) (hr : Below w.heap.size w wr) (j : Nat) (x : Hd) (hx : L[j]? = some x) => (show ∃ b o, p = some ⟨b, o, none⟩ ∧ ∀ (i : Nat) (u : Value), x.cells[i]? = some u → wr.cell? ⟨b, o + j * 4 + i, none⟩ = some u from by
    obtain ⟨b, o, h1, h2, h3⟩ := hc j x hx
    exact ⟨b, o, h1, fun i u hu => (hr.cell (p := ⟨b, o + j * 4 + i, none⟩) h2).trans (h3 i u hu)⟩))
  have HN := Lib.hid hn
  have HLL := Lib.hid (fun k => (show (dropH i (L.take k)).length ≤ L.length from filter_len _ L k))
  have hm0 : (n : Int) ≤ 1048576 := by omega
  clear hc hn
  go_enter Tryd.func14, Tryd.ntmps14
  go_wp2_with fail
  go_loopw [5, 6] (fun y z wr => ∃ k : Nat, k ≤ n ∧ z = .int .i64 k ∧ GhS w wr y (dropH i (L.take k))) (fun _ z _ => n - (intOf z).toNat)
  case atStart => exact ⟨0, Nat.zero_le _, rfl, OwK.nil _ _, Below.refl _ _⟩
  case round =>
    obtain ⟨k, hk, rfl, hG⟩ := hrel
    have HG := Lib.hid hG
    have hi0' : (0 : Int) ≤ (k : Int) := by omega
    by_cases hlt : k < n
    · obtain ⟨x, hx⟩ : ∃ x, L[k]? = some x := ⟨_, List.getElem?_eq_getElem (by rw [← HN.out]; exact hlt)⟩
      obtain ⟨b, o, rfl, hb2⟩ := HC.out wr hG.2 k x hx
      have r0 := hb2 0 _ rfl
      have r1 := hb2 1 _ rfl
      have r2 := hb2 2 _ rfl
      have r3 := hb2 3 _ rfl
      simp only [Nat.add_zero] at r0
      have hsn := filter_snoc (fun h => !decide (h.win = i)) hx
      clear hb2 hG hx
      have hi1 : (k : Int) < (n : Int) := by omega
      by_cases hvi : x.win = i
      · have h1 : (x.win == i) = true := by simpa using hvi
        have h2 : (x.win != i) = false := by simpa using hvi
        have HSN := Lib.hid (hsn.trans (if_neg (by simp [hvi])))
        clear hsn
        go_wp2_with fail
        go_roundw
        case rel => exact ⟨k + 1, by omega, by go_num, by show GhS w _ _ ((L.take (k + 1)).filter _); rw [HSN.out]; exact HG.out⟩
        case measure => simp [intOf]; omega
      · have h1 : (x.win == i) = false := by simpa using hvi
        have h2 : (x.win != i) = true := by simpa using hvi
        have HSN := Lib.hid (hsn.trans (if_pos (by simp [hvi])))
        clear hsn
        go_wp2_with (at_builtin; refine wpList_append_own_at _ rfl (.tmp 20) (.tmp 25) 25 rfl w.heap.size 70 i0 (.agg #[.int .i64 0, .string ByteArray.empty, .string ByteArray.empty, .string ByteArray.empty]) 4 56 Tryd.underlying25 hi0 hz0 hz1 hz2 rfl (by decide) _ _ _ rfl (World.ownsRow.alloc HG.out.1 _) ⟨_, 0, none⟩ 1 1 (encH x) rfl rfl (cell_list_at _ _ (encH x) _ rfl) (oneCell_encH x) (by unfold maxLen; have := HLL.out k; have := HN.out; omega) (by have := HLL.out k; have := HN.out; omega) (by have := HG.out.2.size; simp; omega) ?_; intro v3 w3 ho3 hg3 _ _; have HP := Lib.hid (HG.out.put ho3 hg3); clear ho3 hg3)
        go_roundw
        case rel => exact ⟨k + 1, by omega, by go_num, by show GhS w _ _ ((L.take (k + 1)).filter _); rw [HSN.out]; exact HP.out⟩
        case measure => simp [intOf]; omega
    · obtain rfl : k = n := by omega
      clear hG
      go_wp2_with fail
      go_ret
      exact ⟨_, rfl, by have h := HG.out.1; rw [HN.out, List.take_length] at h; exact h, HG.out.2⟩
set_option maxRecDepth 100000 in
set_option maxHeartbeats 4000000 in
theorem rremove_c (h : RdH w v L) (hL : L.length ≤ 1048576) (i : Int) (s : ByteArray) :
    Calls Tryd.prog 12 #[v, .int .i64 i, .string s] w fun e w' => ∃ v', e = .returned (.tuple #[v', .bool (decide ((remH i s L).length < L.length))]) ∧ OH w' w.heap.size v' (remH i s L) ∧ Below w.heap.size w w' := by
  obtain ⟨i0, hi0, hz0, hz1, hz2⟩ := info_parts heldInfo
  obtain ⟨p, c, rfl, hc⟩ := h
  obtain ⟨n, hn⟩ : ∃ n, n = L.length := ⟨_, rfl⟩
  rw [← hn] at hL ⊢
  have HC := Lib.hid (fun (wr : World) (hr : Below w.heap.size w wr) (j : Nat) (x : Hd) (hx : L[j]? = some x) => (show ∃ b o, p = some ⟨b, o, none⟩ ∧ ∀ (i : Nat) (u : Value), x.cells[i]? = some u → wr.cell? ⟨b, o + j * 4 + i, none⟩ = some u from by
    obtain ⟨b, o, h1, h2, h3⟩ := hc j x hx
    exact ⟨b, o, h1, fun i u hu => (hr.cell (p := ⟨b, o + j * 4 + i, none⟩) h2).trans (h3 i u hu)⟩))
  have HN := Lib.hid hn
  have HLL := Lib.hid (fun k => (show (remH i s (L.take k)).length ≤ L.length from filter_len _ L k))
  have hm0 : (n : Int) ≤ 1048576 := by omega
  clear hc hn
  go_enter Tryd.func12, Tryd.ntmps12
  go_wp2_with fail
  go_loopw [8, 9] (fun y z wr => ∃ k : Nat, k ≤ n ∧ z = .int .i64 k ∧ GhS w wr y (remH i s (L.take k))) (fun _ z _ => n - (intOf z).toNat)
  case atStart => exact ⟨0, Nat.zero_le _, rfl, OwK.nil _ _, Below.refl _ _⟩
  case round =>
    obtain ⟨k, hk, rfl, hG⟩ := hrel
    have HG := Lib.hid hG
    have hi0' : (0 : Int) ≤ (k : Int) := by omega
    by_cases hlt : k < n
    · obtain ⟨x, hx⟩ : ∃ x, L[k]? = some x := ⟨_, List.getElem?_eq_getElem (by rw [← HN.out]; exact hlt)⟩
      obtain ⟨b, o, rfl, hb2⟩ := HC.out wr hG.2 k x hx
      have r0 := hb2 0 _ rfl
      have r1 := hb2 1 _ rfl
      have r2 := hb2 2 _ rfl
      have r3 := hb2 3 _ rfl
      simp only [Nat.add_zero] at r0
      have hsn := filter_snoc (fun h => !isP i s h) hx
      clear hb2 hG hx
      have hi1 : (k : Int) < (n : Int) := by omega
      by_cases hvi : x.win = i
      · have h1 : (x.win == i) = true := by simpa using hvi
        have h2 : (x.win != i) = false := by simpa using hvi
        by_cases hvs : x.p.name = s
        · have h3 : (x.p.name.toList == s.toList) = true := by rw [hvs]; simp
          have h4 : (x.p.name.toList != s.toList) = false := by rw [hvs]; simp
          have HSN := Lib.hid (hsn.trans (if_neg (by simp [isP, hvi, hvs])))
          clear hsn hvi hvs
          go_wp2_with fail
          go_roundw
          case rel => exact ⟨k + 1, by omega, by go_num, by show GhS w _ _ ((L.take (k + 1)).filter _); rw [HSN.out]; exact HG.out⟩
          case measure => simp [intOf]; omega
        · have h5 := tl_ne hvs
          have h3 : (x.p.name.toList == s.toList) = false := by simpa using h5
          have h4 : (x.p.name.toList != s.toList) = true := by simpa using h5
          have HSN := Lib.hid (hsn.trans (if_pos (by simp [isP, hvs])))
          clear hsn hvi hvs
          go_wp2_with (at_builtin; refine wpList_append_own_at _ rfl (.tmp 33) (.tmp 38) 25 rfl w.heap.size 70 i0 (.agg #[.int .i64 0, .string ByteArray.empty, .string ByteArray.empty, .string ByteArray.empty]) 4 56 Tryd.underlying25 hi0 hz0 hz1 hz2 rfl (by decide) _ _ _ rfl (World.ownsRow.alloc HG.out.1 _) ⟨_, 0, none⟩ 1 1 (encH x) rfl rfl (cell_list_at _ _ (encH x) _ rfl) (oneCell_encH x) (by unfold maxLen; have := HLL.out k; have := HN.out; omega) (by have := HLL.out k; have := HN.out; omega) (by have := HG.out.2.size; simp; omega) ?_; intro v3 w3 ho3 hg3 _ _; have HP := Lib.hid (HG.out.put ho3 hg3); clear ho3 hg3)
          go_roundw
          case rel => exact ⟨k + 1, by omega, by go_num, by show GhS w _ _ ((L.take (k + 1)).filter _); rw [HSN.out]; exact HP.out⟩
          case measure => simp [intOf]; omega
      · have h1 : (x.win == i) = false := by simpa using hvi
        have h2 : (x.win != i) = true := by simpa using hvi
        have HSN := Lib.hid (hsn.trans (if_pos (by simp [isP, hvi])))
        clear hsn hvi
        go_wp2_with (at_builtin; refine wpList_append_own_at _ rfl (.tmp 33) (.tmp 38) 25 rfl w.heap.size 70 i0 (.agg #[.int .i64 0, .string ByteArray.empty, .string ByteArray.empty, .string ByteArray.empty]) 4 56 Tryd.underlying25 hi0 hz0 hz1 hz2 rfl (by decide) _ _ _ rfl (World.ownsRow.alloc HG.out.1 _) ⟨_, 0, none⟩ 1 1 (encH x) rfl rfl (cell_list_at _ _ (encH x) _ rfl) (oneCell_encH x) (by unfold maxLen; have := HLL.out k; have := HN.out; omega) (by have := HLL.out k; have := HN.out; omega) (by have := HG.out.2.size; simp; omega) ?_; intro v3 w3 ho3 hg3 _ _; have HP := Lib.hid (HG.out.put ho3 hg3); clear ho3 hg3)
        go_roundw
        case rel => exact ⟨k + 1, by omega, by go_num, by show GhS w _ _ ((L.take (k + 1)).filter _); rw [HSN.out]; exact HP.out⟩
        case measure => simp [intOf]; omega
    · obtain rfl : k = n := by omega
      clear hG
      have hT : remH i s (L.take k) = remH i s L := by rw [HN.out, List.take_length]
      have hGG := HG.out
      rw [hT] at hGG
      obtain ⟨pp, cc, rfl⟩ := OwK.slice hGG.1
      obtain ⟨m, hm⟩ : ∃ m, m = (remH i s L).length := ⟨_, rfl⟩
      have HM := Lib.hid hm
      have HGG := Lib.hid hGG
      rw [← hm] at HGG ⊢
      have HL := Lib.hid (show decide ((m : Int) < (k : Int)) = decide (m < k) by by_cases h : m < k <;> simp [h])
      clear hm hGG HG hT
      go_wp2_with fail
      refine bodyPost_ret (v := .tuple #[.slice pp m cc, .bool (decide (m < k))]) (by simp [results, Tryd.results12, go_sem]) rfl ?_
      exact ⟨.slice pp m cc, by rw [← HM.out], HGG.out.1, HGG.out.2⟩
end
end Go.Proofs.YtfflgkbemfichaaDoor
