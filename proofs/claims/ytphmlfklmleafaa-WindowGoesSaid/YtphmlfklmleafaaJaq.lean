/- The reference's Create: its row, walked. The reference's Create, walked. -/
import Derived.Test.YtphmlfklmleafaaJap
import Derived.Laws.OwnMore
import Derived.Test.YtphmlfklmleafaaJaa
import Derived.Deep.AppendLies
import Derived.Deep.RegionHeld3
import Derived.Deep.RegionLaw
section
namespace Go.Proofs.Ytphmlfklmleafaa
open Go.RowKit Go.Shelf Go.Maps
/-- An owned row is put behind an owned row, whatever it holds. -/
theorem run_app {P : Program} (w : World) (t ty : TypeId) (base : Nat) (e : TypeId) (i : TypeInfo) (z : Value) (size bytes : Nat) (ht : P.underlying t = some (.slice e)) (hi : P.info? e = some i) (hz : i.zero = some z)
    (hsize : i.size = size) (hby : i.bytes = bytes) (hzs : z.cells.size = size) (hsz : 0 < size) (v : Value) (n : Nat) (xs : List Value) (hown : w.ownsRow base e size v n xs)
    (B : Nat) (u : Value) (m : Nat) (news : List Value) (hu : w.ownsRow B e size u m news) (h1 : ∀ q ∈ news, q.oneCell' = true) (h63 : n + m ≤ maxLen) (hbytes : (n + m) * bytes ≤ 140737488355328) (hbase : base ≤ w.heap.size) :
    ∃ v' w', (Builtin.append_ #[t, t] ty #[v, u]).run P w = .ok v' w' ∧ w'.ownsRow base e size v' (n + m) (xs ++ news) ∧ w.grownBy w' v.ownBlock := by
  have hc := fun g (hg : u.ownBlock = some g) => World.ownsRow.cells hu hg
  obtain ⟨hl, h2⟩ := hu
  rcases h2 with ⟨rfl, rfl⟩ | ⟨g, cap, cur, rfl, _⟩
  · obtain rfl : news = [] := List.eq_nil_of_length_eq_zero (by simpa using hl)
    exact ⟨v, w, run_append_owned_none (P := P) (w := w) base t ty e i size ht hi v n xs hown, by simpa using hown, World.grownBy.refl w _⟩
  · obtain ⟨v', w', k1, k2, k3, _⟩ := run_append_own_at (P := P) w base t ty e i z size bytes ht hi hz hsize hby hzs hsz v n xs hown ⟨g, 0, none⟩ m cap news hl (hc g rfl) h1 h63 hbytes hbase
    exact ⟨v', w', k1, k2, k3⟩
theorem wp_app {P : Program} {w : World} {o : Oper} {a : Act} {K : Act → World → Prop} {Q : Exit → Act → World → Prop} (s x : Operand) (t : TypeId)
    (ho : o.op = .call { callee := .builtin .append, args := #[s, x], argTypes := #[t, t] })
    (base : Nat) (e : TypeId) (i : TypeInfo) (z : Value) (size bytes : Nat) (ht : P.underlying t = some (.slice e)) (hi : P.info? e = some i) (hz : i.zero = some z)
    (hsize : i.size = size) (hby : i.bytes = bytes) (hzs : z.cells.size = size) (hsz : 0 < size) (v : Value) (n : Nat) (xs : List Value) (hs : a.eval s = v) (hown : w.ownsRow base e size v n xs)
    (B : Nat) (u : Value) (m : Nat) (news : List Value) (hx : a.eval x = u) (hu : w.ownsRow B e size u m news) (h1 : ∀ q ∈ news, q.oneCell' = true) (h63 : n + m ≤ maxLen) (hbytes : (n + m) * bytes ≤ 140737488355328) (hbase : base ≤ w.heap.size)
    (h : ∀ v' w', w'.ownsRow base e size v' (n + m) (xs ++ news) → w.grownBy w' v.ownBlock → K (a.put o.dst v') w') : o.wp P a w K Q := by
  obtain ⟨v', w', k1, k2, k3⟩ := run_app (P := P) w t o.type base e i z size bytes ht hi hz hsize hby hzs hsz v n xs hown B u m news hu h1 h63 hbytes hbase
  unfold Oper.wp execOp
  simp only [ho, resolve, invoke, builtin, Sem.run_bind, Sem.run_pure, Result.andThen_ok, List.map_toArray, List.map_cons, List.map_nil, hs, hx, k1]
  exact h v' w' k2 k3
theorem list_app {P : Program} {w : World} {ops : Array Oper} {rest : List Oper} {o : Oper} {a : Act} {Q : Exit → Act → World → Prop} (hgd : o.guard = none) (s x : Operand) (t : TypeId)
    (ho : o.op = .call { callee := .builtin .append, args := #[s, x], argTypes := #[t, t] })
    (base : Nat) (e : TypeId) (i : TypeInfo) (z : Value) (size bytes : Nat) (ht : P.underlying t = some (.slice e)) (hi : P.info? e = some i) (hz : i.zero = some z)
    (hsize : i.size = size) (hby : i.bytes = bytes) (hzs : z.cells.size = size) (hsz : 0 < size) (v : Value) (n : Nat) (xs : List Value) (hs : a.eval s = v) (hown : w.ownsRow base e size v n xs)
    (B : Nat) (u : Value) (m : Nat) (news : List Value) (hx : a.eval x = u) (hu : w.ownsRow B e size u m news) (h1 : ∀ q ∈ news, q.oneCell' = true) (h63 : n + m ≤ maxLen) (hbytes : (n + m) * bytes ≤ 140737488355328) (hbase : base ≤ w.heap.size)
    (h : ∀ v' w', w'.ownsRow base e size v' (n + m) (xs ++ news) → w.grownBy w' v.ownBlock → wpList P ops Q rest (a.put o.dst v') w') : wpList P ops Q (o :: rest) a w :=
  wpList_plain hgd fun _ hK => wp_app s x t ho base e i z size bytes ht hi hz hsize hby hzs hsz v n xs hs hown B u m news hx hu h1 h63 hbytes hbase fun v' w' h2 h3 => hK _ _ (h v' w' h2 h3)
theorem step_app {P : Program} {w : World} {ops : Array Oper} {o : Oper} {a : Act} {K : Act → World → Prop} {Q : Exit → Act → World → Prop} {E : Prop} (hgd : o.guard = none) (s x : Operand) (t : TypeId)
    (ho : o.op = .call { callee := .builtin .append, args := #[s, x], argTypes := #[t, t] })
    (base : Nat) (e : TypeId) (i : TypeInfo) (z : Value) (size bytes : Nat) (ht : P.underlying t = some (.slice e)) (hi : P.info? e = some i) (hz : i.zero = some z)
    (hsize : i.size = size) (hby : i.bytes = bytes) (hzs : z.cells.size = size) (hsz : 0 < size) (v : Value) (n : Nat) (xs : List Value) (hs : a.eval s = v) (hown : w.ownsRow base e size v n xs)
    (B : Nat) (u : Value) (m : Nat) (news : List Value) (hx : a.eval x = u) (hu : w.ownsRow B e size u m news) (h1 : ∀ q ∈ news, q.oneCell' = true) (h63 : n + m ≤ maxLen) (hbytes : (n + m) * bytes ≤ 140737488355328) (hbase : base ≤ w.heap.size)
    (h : ∀ v' w', w'.ownsRow base e size v' (n + m) (xs ++ news) → w.grownBy w' v.ownBlock → K (a.put o.dst v') w') : if Region.wanted o (yielded ops a.tmps) = true then Oper.wp P o a w K Q else E := by
  have hw : Region.wanted o (yielded ops a.tmps) = true := by simp [Region.wanted, hgd]
  rw [if_pos hw]
  exact wp_app s x t ho base e i z size bytes ht hi hz hsize hby hzs hsz v n xs hs hown B u m news hx hu h1 h63 hbytes hbase h
/-- A row of windows owned. -/
abbrev RO (w : World) (sv : Value) (L : List Win) : Prop := OwK encW 50 7 w 0 sv L
theorem RO.rd {w : World} {sv : Value} {L : List Win} (h : RO w sv L) : RW w sv L := OwK.reads encW_len h
theorem flatW_one (L : List Win) : ∀ q ∈ L.flatMap encW, q.oneCell' = true := fun q hq => by
  obtain ⟨v, -, hv⟩ := List.mem_flatMap.1 hq
  exact oneCell_encW v q hv
theorem OwK.app {w : World} {B : Nat} {v : Value} {L M : List Win} (h : w.ownsRow B 50 7 v (L.length + M.length) (L.flatMap encW ++ M.flatMap encW)) : OwK encW 50 7 w B v (L ++ M) := by
  unfold OwK
  rw [List.length_append, List.flatMap_append]; exact h
theorem own_one {w : World} {g : Nat} {v : Win} (h : Blk w g 50 #[.int .i64 v.id, .int .i64 v.par, .int .i64 v.x, .int .i64 v.y, .int .i64 v.w, .int .i64 v.h, .bool v.on]) : OwK encW 50 7 w g (.slice (some ⟨g, 0, none⟩) 1 1) [v] := by
  refine ⟨rfl, .inr ⟨g, 1, _, rfl, Nat.le_refl _, h, Nat.le_refl _, by decide, rfl, rfl⟩⟩
theorem set6 {B g : Nat} {a w : World} (h : Below B a w) (hg : B ≤ g) (v0 v1 v2 v3 v4 v5 : Value) : Below B a ((((((w.setCell ⟨g, 0, none⟩ v0).setCell ⟨g, 1, none⟩ v1).setCell ⟨g, 2, none⟩ v2).setCell ⟨g, 3, none⟩ v3).setCell ⟨g, 4, none⟩ v4).setCell ⟨g, 5, none⟩ v5) :=
  (((((h.setCell hg _).setCell hg _).setCell hg _).setCell hg _).setCell hg _).setCell hg _
end Go.Proofs.Ytphmlfklmleafaa
end
section
namespace Go.Proofs.Ytphmlfklmleafaa
open Go.RowKit Go.Shelf Go.Maps
theorem Blk.at6 {w : World} {g : Nat} {t : TypeId} {v0 v1 v2 v3 v4 v5 : Value} (h : Blk w g t #[v0, v1, v2, v3, v4, v5]) : (w.cell? ⟨g, 0, none⟩ = some v0 ∧ w.cell? ⟨g, 1, none⟩ = some v1 ∧ w.cell? ⟨g, 2, none⟩ = some v2 ∧ w.cell? ⟨g, 3, none⟩ = some v3 ∧ w.cell? ⟨g, 4, none⟩ = some v4 ∧ w.cell? ⟨g, 5, none⟩ = some v5) ∧ (w.frozen? ⟨g, 0, none⟩ = false ∧ w.frozen? ⟨g, 1, none⟩ = false ∧ w.frozen? ⟨g, 2, none⟩ = false ∧ w.frozen? ⟨g, 3, none⟩ = false ∧ w.frozen? ⟨g, 4, none⟩ = false ∧ w.frozen? ⟨g, 5, none⟩ = false) :=
  ⟨⟨h.at_ rfl, h.at_ rfl, h.at_ rfl, h.at_ rfl, h.at_ rfl, h.at_ rfl⟩, h.frozen _, h.frozen _, h.frozen _, h.frozen _, h.frozen _, h.frozen _⟩
abbrev zeroT : Array Value := #[.int .i64 0, .int .i64 0, .int .i64 0, .int .i64 0, .int .i64 0, .slice none 0 0]
/-- The boxes of Create. -/
def CbX (R : RT) (sv : Value) (x y a e : Int) (g : Nat) (wb W : World) : Prop :=
  Blk W g 36 (refA R sv) ∧ Blk W (g + 1) 23 #[.int .i64 x, .int .i64 y, .int .i64 a, .int .i64 e] ∧ Blk W (g + 1 + 1) 36 zeroT ∧ Below wb.heap.size wb W
theorem CbX.next {R : RT} {sv : Value} {x y a e : Int} {g : Nat} {wb W W' : World} (h : CbX R sv x y a e g wb W) (hb : Below W.heap.size W W') : CbX R sv x y a e g wb W' := ⟨h.1.next hb, h.2.1.next hb, h.2.2.1.next hb, hb.on h.2.2.2 h.2.2.2.size⟩
/-- What Create answers. -/
def CrR (w : World) (R' : RT) (L' : List Win) (id err : Int) (ex : Ending) (w' : World) : Prop := ∃ sv', ex = .returned (.tuple #[refV R' sv', .int .i64 id, .int .i64 err]) ∧ RO w' sv' L' ∧ Below w.heap.size w w'
section
variable {w : World} {R : RT} {sv : Value} {L : List Win}
set_option maxRecDepth 100000 in
set_option maxHeartbeats 8000000 in
theorem rcreate_no (h : RO w sv L) (hL : L.length ≤ 1048576) {par x y a e : Int} {k : Int} (hk : (isL L par = false ∧ k = 6) ∨ (isL L par = true ∧ rightB x y a e = false ∧ k = 10) ∨ (isL L par = true ∧ rightB x y a e = true ∧ 1024 ≤ L.length ∧ k = 2)) :
    Calls Try.prog 35 #[refV R sv, .int .i64 par, .agg #[.int .i64 x, .int .i64 y, .int .i64 a, .int .i64 e]] w fun ex w' => CrR w R L 0 k ex w' := by
  obtain ⟨wb, hwb⟩ : ∃ wb, wb = ((w.alloc (.cells (refA R sv) 36)).alloc (.cells #[.int .i64 x, .int .i64 y, .int .i64 a, .int .i64 e] 23)).alloc (.cells zeroT 36) := ⟨_, rfl⟩
  have hbel : Below w.heap.size w wb := by rw [hwb]; exact (((Below.refl _ _).alloc (Nat.le_refl _) _).alloc (by simp) _).alloc (by simp; omega) _
  have hbx : CbX R sv x y a e w.heap.size wb wb := by
    refine ⟨by rw [hwb]; exact ((Blk.new w _ _).alloc _).alloc _, ?_, ?_, Below.refl _ _⟩
    · rw [hwb]
      have := (Blk.new (w.alloc (.cells (refA R sv) 36)) 23 #[.int .i64 x, .int .i64 y, .int .i64 a, .int .i64 e]).alloc (.cells zeroT 36)
      rwa [World.size_alloc] at this
    · rw [hwb]
      have := Blk.new ((w.alloc (.cells (refA R sv) 36)).alloc (.cells #[.int .i64 x, .int .i64 y, .int .i64 a, .int .i64 e] 23)) 36 zeroT
      rwa [World.size_alloc, World.size_alloc] at this
  obtain ⟨b, hb⟩ : ∃ b, b = isL L par := ⟨_, rfl⟩
  obtain ⟨q, hq⟩ : ∃ q, q = rightB x y a e := ⟨_, rfl⟩
  obtain ⟨p, c, hsv⟩ := OwK.slice h
  obtain ⟨n, hn⟩ : ∃ n, n = L.length := ⟨_, rfl⟩
  have HI := Lib.hid (show Calls Try.prog 58 #[refV R sv, .int .i64 par] wb fun e w' => e = .returned (.bool b) ∧ Below wb.heap.size wb w' from by rw [hb]; exact is_c (h.rd.below hbel) hL par)
  have HQ := Lib.hid (fun W => (show Calls Try.prog 31 #[.agg #[.int .i64 x, .int .i64 y, .int .i64 a, .int .i64 e]] W fun e w' => e = .returned (.bool q) ∧ Below W.heap.size W w' from by rw [hq]; exact rright_c _ _ _ _ W))
  rw [← hb, ← hq, ← hn] at hk
  rw [← hn] at hsv
  have HF := Lib.hid (fun W (hW : Below w.heap.size w W) => (show RO W sv L from OwK.below h hW))
  obtain ⟨⟨x0, x1, x2, x3, x4, x5⟩, -⟩ := hbx.1.at6
  have H0 := Lib.hid hbx
  have HB := Lib.hid hbel
  have HW := Lib.hid hwb
  subst hsv
  have hn0 : (n : Int) ≤ 1048576 := by omega
  clear h hbel hbx hb hq hn
  rcases hk with ⟨rfl, rfl⟩ | ⟨rfl, rfl, rfl⟩ | ⟨rfl, rfl, hn1, rfl⟩
  · go_enter Try.func35, Try.ntmps35
    go_upto_region 1 with fail
    rw [← HW.out]
    clear hwb
    go_wp2_with (go_at_call 58; ((with_reducible refine (HI.out).mono ?_); rintro e w1 ⟨rfl, hb⟩); have H1 := Lib.hid (H0.out.next hb); obtain ⟨⟨x0, x1, x2, x3, x4, x5⟩, -⟩ := H1.out.1.at6; obtain ⟨⟨z0, z1, z2, z3, z4, z5⟩, ⟨f0, f1, f2, f3, f4, f5⟩⟩ := H1.out.2.2.1.at6; clear hb)
    refine bodyPost_ret (v := .tuple #[refV R (.slice p n c), .int .i64 0, .int .i64 6]) (by simp [results, Try.results35, go_sem, z0, z1, z2, z3, z4, z5]) rfl ?_
    have hb := set6 (H1.out.2.2.2.on HB.out HB.out.size) (g := w.heap.size + 1 + 1) (by omega) (.int .i64 R.x) (.int .i64 R.y) (.int .i64 R.w) (.int .i64 R.h) (.int .i64 R.last) (.slice p n c)
    exact ⟨_, rfl, HF.out _ hb, hb⟩
  · go_enter Try.func35, Try.ntmps35
    go_upto_region 1 with fail
    rw [← HW.out]
    clear hwb
    go_wp2_with (first
      | (go_at_call 58; ((with_reducible refine (HI.out).mono ?_); rintro e w1 ⟨rfl, hb⟩); have H1 := Lib.hid (H0.out.next hb); obtain ⟨⟨r0, r1, r2, r3⟩, -⟩ := H1.out.2.1.c4; clear hb)
      | (go_at_call 31; ((with_reducible refine (HQ.out _).mono ?_); rintro e w2 ⟨rfl, hb⟩); have H2 := Lib.hid (H1.out.next hb); obtain ⟨⟨x0, x1, x2, x3, x4, x5⟩, -⟩ := H2.out.1.at6; obtain ⟨⟨z0, z1, z2, z3, z4, z5⟩, ⟨f0, f1, f2, f3, f4, f5⟩⟩ := H2.out.2.2.1.at6; clear hb))
    refine bodyPost_ret (v := .tuple #[refV R (.slice p n c), .int .i64 0, .int .i64 10]) (by simp [results, Try.results35, go_sem, z0, z1, z2, z3, z4, z5]) rfl ?_
    have hb := set6 (H2.out.2.2.2.on HB.out HB.out.size) (g := w.heap.size + 1 + 1) (by omega) (.int .i64 R.x) (.int .i64 R.y) (.int .i64 R.w) (.int .i64 R.h) (.int .i64 R.last) (.slice p n c)
    exact ⟨_, rfl, HF.out _ hb, hb⟩
  · have hn2 : (1024 : Int) ≤ (n : Int) := by omega
    go_enter Try.func35, Try.ntmps35
    go_upto_region 1 with fail
    rw [← HW.out]
    clear hwb
    go_wp2_with (first
      | (go_at_call 58; ((with_reducible refine (HI.out).mono ?_); rintro e w1 ⟨rfl, hb⟩); have H1 := Lib.hid (H0.out.next hb); obtain ⟨⟨r0, r1, r2, r3⟩, -⟩ := H1.out.2.1.c4; clear hb)
      | (go_at_call 31; ((with_reducible refine (HQ.out _).mono ?_); rintro e w2 ⟨rfl, hb⟩); have H2 := Lib.hid (H1.out.next hb); obtain ⟨⟨x0, x1, x2, x3, x4, x5⟩, -⟩ := H2.out.1.at6; obtain ⟨⟨z0, z1, z2, z3, z4, z5⟩, ⟨f0, f1, f2, f3, f4, f5⟩⟩ := H2.out.2.2.1.at6; clear hb))
    refine bodyPost_ret (v := .tuple #[refV R (.slice p n c), .int .i64 0, .int .i64 2]) (by simp [results, Try.results35, go_sem, z0, z1, z2, z3, z4, z5]) rfl ?_
    have hb := set6 (H2.out.2.2.2.on HB.out HB.out.size) (g := w.heap.size + 1 + 1) (by omega) (.int .i64 R.x) (.int .i64 R.y) (.int .i64 R.w) (.int .i64 R.h) (.int .i64 R.last) (.slice p n c)
    exact ⟨_, rfl, HF.out _ hb, hb⟩
end
end Go.Proofs.Ytphmlfklmleafaa
end
