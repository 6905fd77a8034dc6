/- Plain: what a strut more leaves free; rows that are read, put behind rows of one's own. -/
import Derived.Test.YteaeccmlibmmmaaArT
import Derived.Test.YteaeccmlibmmmaaGeoH
import Derived.Maps.AppendAt
import Derived.Laws.OwnMore
import Derived.OwnWalk
namespace Go.Proofs.Yteaeccmlibmmmaa.Ar
open Go.RowKit Go.Shelf Go.Maps
/-- One strut more. -/
def mor (n : ByteArray) (f : Str → Int) (m : Int) (s : Str) : Int := if isOf n s = true then max m (f s) else m
theorem stg_eq (n : ByteArray) (f : Str → Int) (l : List Str) : stg n f l = l.foldl (mor n f) 0 := rfl
theorem mor_comm (n : ByteArray) (f : Str → Int) (m : Int) (s t : Str) : mor n f (mor n f m s) t = mor n f (mor n f m t) s := by
  unfold mor
  split <;> split <;> first | rfl | omega
theorem mor_out (n : ByteArray) (f : Str → Int) (s : Str) : ∀ (l : List Str) (m : Int), l.foldl (mor n f) (mor n f m s) = mor n f (l.foldl (mor n f) m) s
  | [], _ => rfl
  | t :: l, m => by rw [List.foldl_cons, List.foldl_cons, mor_comm, mor_out n f s l]
theorem stg_end (n : ByteArray) (f : Str → Int) (l : List Str) (s : Str) : stg n f (l ++ [s]) = mor n f (stg n f l) s := by
  rw [stg_eq, stg_eq, List.foldl_append]; rfl
theorem stg_head (n : ByteArray) (f : Str → Int) (l : List Str) (s : Str) : stg n f ([s] ++ l) = mor n f (stg n f l) s := by
  rw [stg_eq, stg_eq, List.singleton_append, List.foldl_cons, mor_out]
theorem mor_ge (n : ByteArray) (f : Str → Int) (m : Int) (s : Str) : m ≤ mor n f m s := by
  unfold mor; split <;> omega
theorem mor_not {n : ByteArray} {f : Str → Int} {m : Int} {s : Str} (h : isOf n s = false) : mor n f m s = m := by
  unfold mor; rw [h]; rfl
theorem work_head (o : Out) (l : List Str) (s : Str) : workI o ([s] ++ l) = workI o (l ++ [s]) := by
  unfold workI
  simp only [stg_head, stg_end]
theorem work_not {o : Out} {l : List Str} {s : Str} (h : isOf o.n s = false) : workI o (l ++ [s]) = workI o l := by
  unfold workI
  simp only [stg_end, mor_not h]
theorem trim_in {x w l r l' r' : Int} (hx : -32768 ≤ x ∧ x ≤ 32767 ∧ 0 ≤ w ∧ x + w ≤ 32768) (h1 : l ≤ l') (h3 : r ≤ r') (hne : 1 ≤ trimN w l' r') :
    (-32768 ≤ trimS x w l ∧ trimS x w l ≤ 32767 ∧ 0 ≤ trimN w l r ∧ trimS x w l + trimN w l r ≤ 32768) ∧ trimS x w l ≤ trimS x w l' ∧ trimS x w l' + trimN w l' r' ≤ trimS x w l + trimN w l r := by
  unfold trimS trimN at *
  obtain ⟨a, ha⟩ : ∃ a, a = spanI l 0 w := ⟨_, rfl⟩
  obtain ⟨a', ha'⟩ : ∃ a, a = spanI l' 0 w := ⟨_, rfl⟩
  have k1 : 0 ≤ a ∧ a ≤ a' ∧ a' ≤ w := by rw [ha, ha']; unfold spanI; omega
  rw [← ha'] at hne ⊢
  rw [← ha]
  obtain ⟨b, hb⟩ : ∃ b, b = spanI r 0 (w - a) := ⟨_, rfl⟩
  obtain ⟨b', hb'⟩ : ∃ b, b = spanI r' 0 (w - a') := ⟨_, rfl⟩
  rw [← hb'] at hne ⊢
  rw [← hb]
  have k2 : 0 ≤ b ∧ b ≤ w - a := by rw [hb]; unfold spanI; omega
  have k3 : 0 ≤ b' := by rw [hb']; unfold spanI; omega
  have k4 : b ≤ b' := by rw [hb']; rw [hb'] at hne; rw [hb]; unfold spanI at *; omega
  have k5 : spanI (x + a) (-32768) 32767 = x + a := by unfold spanI; omega
  have k6 : spanI (x + a') (-32768) 32767 = x + a' := by unfold spanI; omega
  rw [k5, k6]
  omega
theorem inset_in {x y w h l t r b l' t' r' b' : Int} (hr : rightB x y w h = true) (h1 : l ≤ l') (h2 : t ≤ t') (h3 : r ≤ r') (h4 : b ≤ b') :
    insideB (insetR x y w h l' t' r' b').x (insetR x y w h l' t' r' b').y (insetR x y w h l' t' r' b').w (insetR x y w h l' t' r' b').h (insetR x y w h l t r b).x (insetR x y w h l t r b).y (insetR x y w h l t r b).w (insetR x y w h l t r b).h = true := by
  have hr' := (rightB_iff x y w h).1 hr
  unfold insetR
  rw [if_pos hr, if_pos hr]
  simp only
  unfold insideB
  rw [Bool.or_eq_true]
  cases he : emptyB (trimS x w l') (trimS y h t') (trimN w l' r') (trimN h t' b')
  · right
    obtain ⟨⟨_, _, e1, _⟩, _, _, e2, _⟩ := (emptyB_iff _ _ _ _).1 he
    have k1 := trim_in hr'.1 h1 h3 e1
    have k2 := trim_in hr'.2 h2 h4 e2
    rw [Bool.and_eq_true, rightB_iff, decide_eq_true_iff]
    exact ⟨⟨k1.1, k2.1⟩, k1.2.1, k2.2.1, k1.2.2, k2.2.2⟩
  · exact .inl rfl
theorem inset_self {x y w h l t r b : Int} (hr : rightB x y w h = true) :
    insideB (insetR x y w h l t r b).x (insetR x y w h l t r b).y (insetR x y w h l t r b).w (insetR x y w h l t r b).h x y w h = true := by
  have hr' := (rightB_iff x y w h).1 hr
  unfold insetR
  rw [if_pos hr]
  simp only
  unfold insideB
  rw [Bool.or_eq_true]
  cases he : emptyB (trimS x w l) (trimS y h t) (trimN w l r) (trimN h t b)
  · right
    have he' := (emptyB_iff _ _ _ _).1 he
    rw [Bool.and_eq_true, rightB_iff, decide_eq_true_iff]
    unfold trimS trimN spanI at he' ⊢
    omega
  · exact .inl rfl
theorem work_in {o : Out} (l : List Str) (s : Str) (hr : rightB o.x o.y o.w o.h = true) : insideB (workI o (l ++ [s])).x (workI o (l ++ [s])).y (workI o (l ++ [s])).w (workI o (l ++ [s])).h (workI o l).x (workI o l).y (workI o l).w (workI o l).h = true := by
  unfold workI
  simp only [stg_end]
  exact inset_in hr (mor_ge _ _ _ _) (mor_ge _ _ _ _) (mor_ge _ _ _ _) (mor_ge _ _ _ _)
theorem work_self {o : Out} (l : List Str) (hr : rightB o.x o.y o.w o.h = true) : insideB (workI o l).x (workI o l).y (workI o l).w (workI o l).h o.x o.y o.w o.h = true := inset_self hr
theorem work_wrong {o : Out} {l : List Str} (hr : rightB o.x o.y o.w o.h = false) : workI o l = zeroR := by
  unfold workI insetR; rw [hr]; rfl
/-- A row of struts of the call's own. -/
abbrev OwS (w : World) (base : Nat) (v : Value) (xs : List Str) : Prop := w.ownsRow base 46 5 v xs.length (xs.flatMap encS)
theorem flatS_len (xs : List Str) : (xs.flatMap encS).length = xs.length * 5 := by
  induction xs with
  | nil => simp
  | cons x t ih => rw [List.flatMap_cons, List.length_append, ih, List.length_cons]; simp only [encS, List.length_cons, List.length_nil]; omega
theorem flatS_get : ∀ (xs : List Str) (j : Nat) (x : Str) (i : Nat) (u : Value), xs[j]? = some x → (encS x)[i]? = some u → (xs.flatMap encS)[j * 5 + i]? = some u
  | [], j, x, i, u, hx, _ => by simp at hx
  | y :: t, 0, x, i, u, hx, hu => by
    simp only [List.getElem?_cons_zero, Option.some.injEq] at hx
    subst hx
    have hi := (List.getElem?_eq_some_iff.1 hu).1
    rw [List.flatMap_cons, Nat.zero_mul, Nat.zero_add, List.getElem?_append_left hi]
    exact hu
  | y :: t, j + 1, x, i, u, hx, hu => by
    rw [List.getElem?_cons_succ] at hx
    have := flatS_get t j x i u hx hu
    have e5 : (encS y).length = 5 := rfl
    rw [List.flatMap_cons, List.getElem?_append_right (by rw [e5]; omega), e5]
    rw [show (j + 1) * 5 + i - 5 = j * 5 + i by omega]
    exact this
theorem flatS_put : ∀ (xs : List Str) (m : Nat) (u : Value), (xs.flatMap encS)[m]? = some u → ∃ (j : Nat) (x : Str) (i : Nat), m = j * 5 + i ∧ xs[j]? = some x ∧ (encS x)[i]? = some u
  | [], m, u, h => by simp at h
  | y :: t, m, u, h => by
    have e5 : (encS y).length = 5 := rfl
    rw [List.flatMap_cons] at h
    by_cases hm : m < 5
    · rw [List.getElem?_append_left (by rw [e5]; exact hm)] at h
      exact ⟨0, y, m, by omega, rfl, h⟩
    · rw [List.getElem?_append_right (by rw [e5]; omega), e5] at h
      obtain ⟨j, x, i, e, hx, hu⟩ := flatS_put t _ u h
      exact ⟨j + 1, x, i, by omega, by rw [List.getElem?_cons_succ]; exact hx, hu⟩
theorem OwS.slice {w : World} {base : Nat} {v : Value} {xs : List Str} (h : OwS w base v xs) : ∃ p c, v = .slice p xs.length c := by
  obtain ⟨_, h1⟩ := h
  rcases h1 with ⟨rfl, hn⟩ | ⟨g, cap, cur, rfl, _⟩
  · rw [hn]; exact ⟨_, _, rfl⟩
  · exact ⟨_, _, rfl⟩
theorem OwS.reads {w : World} {base : Nat} {v : Value} {xs : List Str} (h : OwS w base v xs) : RdK encS 5 w v xs := by
  have h0 := h
  obtain ⟨hlen, h1⟩ := h
  rcases h1 with ⟨rfl, hn⟩ | ⟨g, cap, cur, rfl, hb, hg, hnc, hm, hs, ht⟩
  · refine ⟨none, 0, by rw [hn], fun j x hx => ?_⟩
    have := (List.getElem?_eq_some_iff.1 hx).1; omega
  · refine ⟨some ⟨g, 0, none⟩, cap, rfl, fun j x hx => ⟨g, 0, rfl, (World.ownsRow.lt h0 g rfl).2, fun i u hu => ?_⟩⟩
    have h2 := flatS_get xs j x i u hx hu
    have h3 := (List.getElem?_eq_some_iff.1 h2).1
    rw [hlen] at h3
    rw [Nat.zero_add]
    exact (World.ownsRow.cellAt h0 _ h3).trans h2
theorem OwS.keep {w w' : World} {base : Nat} {v : Value} {xs : List Str} (h : OwS w base v xs) (hb : Below w.heap.size w w') : OwS w' base v xs := by
  refine World.ownsRow.kept h (only_of_below hb none) ?_
  cases v.ownBlock with
  | none => exact .inl rfl
  | some g => exact .inr (by simp)
theorem OwS.far {w : World} {base : Nat} {v : Value} {xs : List Str} (h : OwS w base v xs) {g : Nat} {t : TypeId} {cs : Array Value} (hg : Blk w g t cs) (ht : t ≠ 46) : some g ≠ v.ownBlock := by
  obtain ⟨_, h1⟩ := h
  rcases h1 with ⟨rfl, hn⟩ | ⟨g', cap, cur, rfl, _, hg', _⟩
  · exact fun e => by cases e
  · intro e
    have e : g = g' := Option.some.inj e
    subst e
    have : Blk w g 46 cur := hg'
    exact hg.ne_ this ht rfl
theorem OwS.one {w : World} {g base : Nat} {s : Str} (h : Blk w g 46 (StrC s)) (hb : base ≤ g) : OwS w base (.slice (some ⟨g, 0, none⟩) 1 1) [s] :=
  ⟨rfl, .inr ⟨g, 1, _, rfl, hb, h, Nat.le_refl _, by decide, rfl, rfl⟩⟩
theorem OwS.none {w : World} {g base : Nat} (h : Blk w g 46 #[]) (hb : base ≤ g) : OwS w base (.slice (some ⟨g, 0, none⟩) 0 0) [] :=
  ⟨rfl, .inr ⟨g, 0, _, rfl, hb, h, Nat.le_refl _, by decide, rfl, rfl⟩⟩
theorem strInfo9 : (Try.prog.info? 46).map (fun i => (i.zero, i.size, i.bytes)) = some (some (.agg #[.string ⟨#[]⟩, .int .i64 0, .int .i64 0, .int .i64 0, .int .i64 0]), 5, 48) := by kernel_rfl
theorem oneS (L : List Str) : ∀ q ∈ L.flatMap encS, q.oneCell' = true := fun q hq => by
  obtain ⟨v, -, hv⟩ := List.mem_flatMap.1 hq
  simp only [encS, List.mem_cons, List.not_mem_nil, or_false] at hv
  rcases hv with rfl | rfl | rfl | rfl | rfl <;> rfl
/-- What is read is put behind what is owned. -/
theorem run_read (w : World) (ty : TypeId) (base : Nat) (v : Value) (xs : List Str) (hown : OwS w base v xs) (u : Value) (L : List Str) (hu : RdK encS 5 w u L) (hnil : ∀ n c, u = .slice none n c → c = 0)
    (h63 : (xs.length + L.length) * 48 ≤ 140737488355328) (hbase : base ≤ w.heap.size) :
    ∃ v' w', (Builtin.append_ #[32, 32] ty #[v, u]).run Try.prog w = .ok v' w' ∧ OwS w' base v' (xs ++ L) ∧ w.grownBy w' v.ownBlock := by
  obtain ⟨i0, hi0, hz0, hz1, hz2⟩ := info_parts strInfo9
  obtain ⟨p, c, rfl, hcell⟩ := hu
  cases p with
  | none =>
    obtain rfl : L = [] := by
      cases L with
      | nil => rfl
      | cons x t => obtain ⟨b, o, e, _⟩ := hcell 0 x rfl; cases e
    obtain rfl := hnil _ _ rfl
    exact ⟨v, w, run_append_owned_none (P := Try.prog) (w := w) base 32 ty 46 i0 5 Try.underlying32 hi0 v xs.length _ hown, by simpa using hown, World.grownBy.refl w _⟩
  | some a =>
    obtain ⟨v', w', k1, k2, k3, _⟩ := run_append_own_at (P := Try.prog) w base 32 ty 46 i0 _ 5 48 Try.underlying32 hi0 hz0 hz1 hz2 rfl (by decide) v xs.length _ hown a L.length c (L.flatMap encS) (flatS_len L) (fun j q hq => by
        obtain ⟨j', x, i, rfl, hx, hu⟩ := flatS_put L j q hq
        obtain ⟨b, o, e, _, h⟩ := hcell j' x hx
        obtain rfl := Option.some.inj e
        rw [Addr.add_lit, ← Nat.add_assoc]
        exact h i q hu) (oneS L) (by unfold maxLen; omega) h63 hbase
    exact ⟨v', w', k1, by unfold OwS; rw [List.length_append, List.flatMap_append]; exact k2, k3⟩
theorem step_read {w : World} {ops : Array Oper} {o : Oper} {a : Act} {K : Act → World → Prop} {E : Prop} (hgd : o.guard = none) (s x : Operand)
    (ho : o.op = .call { callee := .builtin .append, args := #[s, x], argTypes := #[32, 32] }) {Q : Exit → Act → World → Prop}
    (base : Nat) (v : Value) (xs : List Str) (hs : a.eval s = v) (hown : OwS w base v xs) (u : Value) (L : List Str) (hx : a.eval x = u) (hu : RdK encS 5 w u L) (hnil : ∀ n c, u = .slice none n c → c = 0)
    (h63 : (xs.length + L.length) * 48 ≤ 140737488355328) (hbase : base ≤ w.heap.size)
    (h : ∀ v' w', OwS w' base v' (xs ++ L) → w.grownBy w' v.ownBlock → K (a.put o.dst v') w') : if Region.wanted o (yielded ops a.tmps) = true then Oper.wp Try.prog o a w K Q else E := by
  have hw : Region.wanted o (yielded ops a.tmps) = true := by simp [Region.wanted, hgd]
  rw [if_pos hw]
  obtain ⟨v', w', k1, k2, k3⟩ := run_read w o.type base v xs hown u L hu hnil h63 hbase
  unfold Oper.wp execOp
  simp only [ho, resolve, invoke, builtin, Sem.run_bind, Sem.run_pure, Result.andThen_ok, List.map_toArray, List.map_cons, List.map_nil, hs, hx, k1]
  exact h v' w' k2 k3
end Go.Proofs.Yteaeccmlibmmmaa.Ar
