/- Set again, its refusals; Drop; Remove. -/
import Derived.Test.YtfdgpbdppenhmaaGreatSax
section
namespace Go.Proofs.YtfdgpbdppenhmaaGreat.Pp
open Go.RowKit Go.Maps
theorem MapI.del {w : World} {b n : Nat} {nb : Int → Option Nat} (h : MapI w b nb n) {i : Int} (hi : I64 i) (ty : TypeId) :
    ∃ w', (Builtin.delete_ #[106, 3] ty #[.map (some b), .int .i64 i]).run Tryz.prog w = .ok (.tuple #[]) w' ∧ (∃ n', n' ≤ n ∧ MapI w' b (upI nb i none) n') ∧ w.grownBy w' (some b) := by
  obtain ⟨D, h, hs, r⟩ := h
  obtain ⟨w', h1, h2, h3⟩ := h.drop keyedI Tryz.underlying106 (keyI_of hi) ty
  have h4 := Maps.size_del (k := keyI i) (h.tidy keyedI)
  refine ⟨w', h1, ⟨Maps.size (D.del (keyI i)), by omega, _, ?_, rfl, fun j hj => ?_⟩, h3.grown⟩
  · exact tight h2
  · by_cases hij : j = i
    · subst hij
      rw [upI_same]
      exact ⟨Maps.atKey_del_same _, Maps.has_del_same⟩
    · rw [upI_other _ _ hij]
      exact ⟨(Maps.atKey_del_other (keyI_ne hij) _).trans (r j hj).1, (Maps.has_del_other (keyI_ne hij)).trans (r j hj).2⟩
theorem MapS.del {w : World} {b n : Nat} {m : ByteArray → Option Pr} (h : MapS w b m n) {s : ByteArray} (hs : s.size ≤ maxLen) (hin : (m s).isSome = true) (ty : TypeId) :
    ∃ w', (Builtin.delete_ #[125, 9] ty #[.map (some b), .string s]).run Tryz.prog w = .ok (.tuple #[]) w' ∧ MapS w' b (upS m s none) (n - 1) ∧ w.grownBy w' (some b) ∧ 1 ≤ n := by
  obtain ⟨D, h, hsz, r⟩ := h
  obtain ⟨w', h1, h2, h3⟩ := h.drop keyedS Tryz.underlying125 (keyS_of hs) ty
  have h4 := Maps.size_del (k := keyS s) (h.tidy keyedS)
  rw [(r s hs).2, hin, hsz] at h4
  simp only [if_true] at h4
  have h5 : Maps.size (D.del (keyS s)) = n - 1 := by omega
  refine ⟨w', h1, ⟨_, ?_, h5, fun j hj => ?_⟩, h3.grown, by omega⟩
  · have := tight h2; rwa [h5] at this
  · by_cases hij : j = s
    · subst hij
      rw [upS_same]
      exact ⟨Maps.atKey_del_same _, Maps.has_del_same⟩
    · rw [upS_other _ _ hij]
      exact ⟨(Maps.atKey_del_other (keyS_ne hij) _).trans (r j hj).1, (Maps.has_del_other (keyS_ne hij)).trans (r j hj).2⟩
theorem MapS.zero {w : World} {b : Nat} {m : ByteArray → Option Pr} (h : MapS w b m 0) {s : ByteArray} (hs : s.size ≤ maxLen) : m s = none := by
  obtain ⟨D, h, hsz, r⟩ := h
  have h4 := Maps.size_del (k := keyS s) (h.tidy keyedS)
  rw [hsz, (r s hs).2] at h4
  cases hm : m s with
  | none => rfl
  | some v => rw [hm] at h4; simp at h4
section
variable {w w' : World} {t bm cnt : Nat} {nb : Int → Option Nat} {ms : Int → ByteArray → Option Pr} {ns : Int → Nat}
theorem TabH.dropI (h : TabH w t bm nb cnt ms ns) {i : Int} (hi : I64 i) (ty : TypeId) :
    ∃ w', (Builtin.delete_ #[106, 3] ty #[.map (some bm), .int .i64 i]).run Tryz.prog w = .ok (.tuple #[]) w' ∧ (∃ c', c' ≤ cnt ∧ TabH w' t bm (upI nb i none) c' (upI ms i (fun _ => none)) (upI ns i 0)) ∧ w.grownBy w' (some bm) := by
  obtain ⟨w', h1, ⟨c', hc, h2⟩, h3⟩ := h.map.del hi ty
  have htb := blk_map_ne h.tab h.map
  refine ⟨w', h1, ⟨c', hc, ⟨h.tab.grown h3 (fun e => htb (Option.some.inj e)), h2, fun j c hj hc => ?_, fun j k c hj hk e1 e2 => ?_, fun j c hj hc => ?_, fun j s hj => ?_⟩⟩, h3⟩
  · by_cases hji : j = i
    · subst hji
      rw [upI_same] at hc; cases hc
    · rw [upI_other _ _ hji] at hc
      rw [upI_other _ _ hji, upI_other _ _ hji]
      have hin := h.inner j c hj hc
      exact hin.same (h3.block c hin.lt (fun e => h.far j c hj hc (Option.some.inj e)))
  · by_cases h4 : j = i
    · rw [h4, upI_same] at e1; cases e1
    · by_cases h5 : k = i
      · rw [h5, upI_same] at e2; cases e2
      · rw [upI_other _ _ h4] at e1
        rw [upI_other _ _ h5] at e2
        exact h.apart j k c hj hk e1 e2
  · by_cases hji : j = i
    · rw [hji, upI_same] at hc; cases hc
    · rw [upI_other _ _ hji] at hc
      exact h.far j c hj hc
  · by_cases hji : j = i
    · rw [hji, upI_same]
    · rw [upI_other _ _ hji] at hj ⊢
      exact h.bare j s hj
theorem TabH.delS (h : TabH w t bm nb cnt ms ns) {i : Int} (hi : I64 i) {b : Nat} (hb : nb i = some b) {s : ByteArray} (hs : s.size ≤ maxLen) (hm : (ms i s).isSome = true) (ty : TypeId) :
    ∃ w', (Builtin.delete_ #[125, 9] ty #[.map (some b), .string s]).run Tryz.prog w = .ok (.tuple #[]) w' ∧ TabH w' t bm nb cnt (upI ms i (upS (ms i) s none)) (upI ns i (ns i - 1)) ∧ w.grownBy w' (some b) ∧ 1 ≤ ns i := by
  have hin := h.inner i b hi hb
  obtain ⟨w', h1, h2, h3, h4⟩ := hin.del hs hm ty
  have htb := blk_mapS_ne h.tab hin
  refine ⟨w', h1, ⟨h.tab.grown h3 (fun e => htb (Option.some.inj e)), h.map.same (h3.block bm h.map.lt (fun e => h.far i b hi hb (Option.some.inj e).symm)), fun j c hj hc => ?_, h.apart, h.far, fun j s' hj => ?_⟩, h3, h4⟩
  · by_cases hji : j = i
    · subst hji
      rw [hb] at hc
      injection hc with hc
      subst hc
      rw [upI_same, upI_same]
      exact h2
    · rw [upI_other _ _ hji, upI_other _ _ hji]
      have hin' := h.inner j c hj hc
      exact hin'.same (h3.block c hin'.lt (fun e => hji (h.apart j i b hj hi (Option.some.inj e ▸ hc) hb)))
  · by_cases hji : j = i
    · subst hji
      rw [hb] at hj; cases hj
    · rw [upI_other _ _ hji]
      exact h.bare j s' hj
theorem wpList_delete_any {P : Program} (hP : P = Tryz.prog) {w : World} {ops : Array Oper} {rest : List Oper} {o : Oper} {a : Act} {Q : Exit → Act → World → Prop} (hg : o.guard = none) (m x : Operand) {tm tk : TypeId}
    (hop : o.op = Op.call { callee := Callee.builtin Builtin.delete, args := #[m, x], argTypes := #[tm, tk] }) {vm vx : Value}
    (hm : a.eval m = vm) (hx : a.eval x = vx) {R : World → Prop} (h : ∀ ty, ∃ w', (Builtin.delete_ #[tm, tk] ty #[vm, vx]).run Tryz.prog w = .ok (.tuple #[]) w' ∧ R w')
    (hK : ∀ w', R w' → wpList P ops Q rest (a.put o.dst (.tuple #[])) w') :
    wpList P ops Q (o :: rest) a w := by
  subst hP
  refine wpList_plain hg fun K' hK' => ?_
  obtain ⟨w', hrun, r1⟩ := h o.type
  unfold Oper.wp
  simp [execOp, hop, resolve, invoke, builtin, hm, hx, hrun, Result.andThen]
  exact hK' _ _ (hK w' r1)
theorem drop_c (h : TabH w t bm nb cnt ms ns) {i : Int} (hi : I64 i) : Calls Tryz.prog 111 #[tabP t, .int .i64 i] w fun e w' => e = .returned (.tuple #[]) ∧ (∃ c', c' ≤ cnt ∧ TabH w' t bm (upI nb i none) c' (upI ms i (fun _ => none)) (upI ns i 0)) ∧ w.grownBy w' (some bm) := by
  have HD := Lib.hid (fun ty => h.dropI hi ty)
  obtain ⟨c0, -⟩ := h.tab.c1
  clear h hi
  go_enter Tryz.func111, Tryz.ntmps111
  go_wp2_with (at_delete; refine wpList_delete_any rfl rfl _ _ rfl rfl rfl HD.out ?_; rintro w3 ⟨hM3, hg3⟩; have HM := Lib.hid hM3; have HG := Lib.hid hg3; clear hM3 hg3)
  go_end0
  exact ⟨rfl, HM.out, HG.out⟩
theorem has_any (h : TabH w t bm nb cnt ms ns) {i : Int} (hi : I64 i) {s : ByteArray} (hs : s.size ≤ maxLen) (W : World) (hW : Below w.heap.size w W) : Calls Tryz.prog 136 #[mapOf (nb i), .string s] W fun e w' => e = .returned (.bool (ms i s).isSome) ∧ Below W.heap.size W w' := by
  cases hn : nb i with
  | none =>
    rw [h.bare i s hn]
    exact has_nil hs W
  | some b => exact has_some hs W ((h.next hW).inner i b hi hn)
/-- What Remove leaves. -/
def RemR (w : World) (t bm : Nat) (nb : Int → Option Nat) (cnt : Nat) (ms : Int → ByteArray → Option Pr) (ns : Int → Nat) (i : Int) (s : ByteArray) (b : Nat) (w' : World) : Prop :=
  ∃ nb' cnt', cnt' ≤ cnt ∧ TabH w' t bm nb' cnt' (upI ms i (upS (ms i) s none)) (upI ns i (ns i - 1)) ∧ (∀ j c, nb' j = some c → nb j = some c) ∧ (∀ j, nb' j = none → (j ≠ i ∧ nb j = none) ∨ (j = i ∧ ns i - 1 = 0)) ∧ (∀ g T cs, Blk w g T cs → Blk w' g T cs) ∧ ∀ B w0, Below B w0 w → B ≤ w.heap.size → B ≤ b → B ≤ bm → Below B w0 w'
set_option maxRecDepth 100000 in
set_option maxHeartbeats 4000000 in
theorem set_badname (h : TabH w t bm nb cnt ms ns) {i : Int} (hi : I64 i) (p : Pr) (z1 : p.name.size ≤ 9223372036854775807) (z2 : p.typ.size ≤ 9223372036854775807) (h1 : nameB p.name = false) :
    Calls Tryz.prog 119 #[tabP t, .int .i64 i, prV p] w fun e w' => e = .returned (.int .i64 70) ∧ Below w.heap.size w w' := by
  obtain ⟨bt, h2⟩ : ∃ bt, nameB p.typ = bt := ⟨_, rfl⟩
  have hmm := @run_makeMap Tryz.prog
  obtain ⟨wb, hwb⟩ : ∃ wb, wb = w.alloc (.cells #[.string p.name, .string p.typ, .string p.data] 35) := ⟨_, rfl⟩
  have hbel : Below w.heap.size w wb := by rw [hwb]; exact (Below.refl _ _).alloc (Nat.le_refl _) _
  have hbx : Blk wb w.heap.size 35 #[.string p.name, .string p.typ, .string p.data] := by rw [hwb]; exact Blk.new w _ _
  have hof := of_c (h.next hbel) hi
  obtain ⟨v, hv⟩ : ∃ v, v = mapOf (nb i) := ⟨_, rfl⟩
  rw [← hv] at hof
  have em1 : ∀ W : World, (binOp .eql 106 (.map (some bm)) (.map none)).run Tryz.prog W = .ok (.bool false) W := fun W => by kernel_rfl
  have HOF := Lib.hid hof
  have HN1 := Lib.hid (fun W => (show Calls Tryz.prog 135 #[.string p.name] W fun e w' => e = .returned (.bool false) ∧ Below W.heap.size W w' from h1 ▸ name_c p.name W (by omega)))
  have HN2 := Lib.hid (fun W => (show Calls Tryz.prog 135 #[.string p.typ] W fun e w' => e = .returned (.bool bt) ∧ Below W.heap.size W w' from h2 ▸ name_c p.typ W (by omega)))
  have HX := Lib.hid hbx
  have HT := Lib.hid (h.next hbel)
  have HB := Lib.hid hbel
  have HW := Lib.hid hwb
  obtain ⟨c0, -⟩ := HT.out.tab.c1
  obtain ⟨⟨x0, x1, x2⟩, -⟩ := hbx.c3
  clear h hi h1 h2 hv hof hbel hbx z1 z2
  go_enter Tryz.func119, Tryz.ntmps119
  go_upto_region 1 with fail
  rw [← HW.out]
  clear hwb
  go_upto_region 4 with (go_at_call 72; ((with_reducible refine (HOF.out).mono ?_); rintro e w1 ⟨rfl, rfl⟩))
  go_wp2_with (go_at_call 135; ((with_reducible refine (HN1.out _).mono ?_); rintro e w2 ⟨rfl, hb2⟩); have HB2 := Lib.hid hb2; clear hb2; clear x0 x1 x2; obtain ⟨⟨x0, x1, x2⟩, -⟩ := (HX.out.next HB2.out).c3)
  go_ret
  exact ⟨rfl, HB2.out.on HB.out HB.out.size⟩
set_option maxRecDepth 100000 in
set_option maxHeartbeats 4000000 in
theorem set_badtype (h : TabH w t bm nb cnt ms ns) {i : Int} (hi : I64 i) (p : Pr) (z1 : p.name.size ≤ 9223372036854775807) (z2 : p.typ.size ≤ 9223372036854775807) (h1 : nameB p.name = true) (h2 : nameB p.typ = false) :
    Calls Tryz.prog 119 #[tabP t, .int .i64 i, prV p] w fun e w' => e = .returned (.int .i64 70) ∧ Below w.heap.size w w' := by
  have hmm := @run_makeMap Tryz.prog
  obtain ⟨wb, hwb⟩ : ∃ wb, wb = w.alloc (.cells #[.string p.name, .string p.typ, .string p.data] 35) := ⟨_, rfl⟩
  have hbel : Below w.heap.size w wb := by rw [hwb]; exact (Below.refl _ _).alloc (Nat.le_refl _) _
  have hbx : Blk wb w.heap.size 35 #[.string p.name, .string p.typ, .string p.data] := by rw [hwb]; exact Blk.new w _ _
  have hof := of_c (h.next hbel) hi
  obtain ⟨v, hv⟩ : ∃ v, v = mapOf (nb i) := ⟨_, rfl⟩
  rw [← hv] at hof
  have em1 : ∀ W : World, (binOp .eql 106 (.map (some bm)) (.map none)).run Tryz.prog W = .ok (.bool false) W := fun W => by kernel_rfl
  have HOF := Lib.hid hof
  have HN1 := Lib.hid (fun W => (show Calls Tryz.prog 135 #[.string p.name] W fun e w' => e = .returned (.bool true) ∧ Below W.heap.size W w' from h1 ▸ name_c p.name W (by omega)))
  have HN2 := Lib.hid (fun W => (show Calls Tryz.prog 135 #[.string p.typ] W fun e w' => e = .returned (.bool false) ∧ Below W.heap.size W w' from h2 ▸ name_c p.typ W (by omega)))
  have HX := Lib.hid hbx
  have HT := Lib.hid (h.next hbel)
  have HB := Lib.hid hbel
  have HW := Lib.hid hwb
  obtain ⟨c0, -⟩ := HT.out.tab.c1
  obtain ⟨⟨x0, x1, x2⟩, -⟩ := hbx.c3
  clear h hi h1 h2 hv hof hbel hbx z1 z2
  go_enter Tryz.func119, Tryz.ntmps119
  go_upto_region 1 with fail
  rw [← HW.out]
  clear hwb
  go_upto_region 4 with (go_at_call 72; ((with_reducible refine (HOF.out).mono ?_); rintro e w1 ⟨rfl, rfl⟩))
  go_wp2_with (first
    | (go_at_call 135; ((with_reducible refine (HN1.out _).mono ?_); rintro e w2 ⟨rfl, hb2⟩); have HB2 := Lib.hid hb2; clear hb2; clear x0 x1 x2; obtain ⟨⟨x0, x1, x2⟩, -⟩ := (HX.out.next HB2.out).c3)
    | (go_at_call 135; ((with_reducible refine (HN2.out _).mono ?_); rintro e w3 ⟨rfl, hb3⟩); have HB3 := Lib.hid (hb3.on HB2.out HB2.out.size); clear hb3; clear x0 x1 x2; obtain ⟨⟨x0, x1, x2⟩, -⟩ := (HX.out.next HB3.out).c3))
  go_ret
  exact ⟨rfl, HB3.out.on HB.out HB.out.size⟩
set_option maxRecDepth 100000 in
set_option maxHeartbeats 4000000 in
theorem set_long (h : TabH w t bm nb cnt ms ns) {i : Int} (hi : I64 i) (p : Pr) (z1 : p.name.size ≤ 9223372036854775807) (z2 : p.typ.size ≤ 9223372036854775807) (h1 : nameB p.name = true) (h2 : nameB p.typ = true) (h3 : 256 < p.data.size) :
    Calls Tryz.prog 119 #[tabP t, .int .i64 i, prV p] w fun e w' => e = .returned (.int .i64 71) ∧ Below w.heap.size w w' := by
  have h4 : (256 : Int) < (p.data.size : Int) := by omega
  have hmm := @run_makeMap Tryz.prog
  obtain ⟨wb, hwb⟩ : ∃ wb, wb = w.alloc (.cells #[.string p.name, .string p.typ, .string p.data] 35) := ⟨_, rfl⟩
  have hbel : Below w.heap.size w wb := by rw [hwb]; exact (Below.refl _ _).alloc (Nat.le_refl _) _
  have hbx : Blk wb w.heap.size 35 #[.string p.name, .string p.typ, .string p.data] := by rw [hwb]; exact Blk.new w _ _
  have hof := of_c (h.next hbel) hi
  obtain ⟨v, hv⟩ : ∃ v, v = mapOf (nb i) := ⟨_, rfl⟩
  rw [← hv] at hof
  have em1 : ∀ W : World, (binOp .eql 106 (.map (some bm)) (.map none)).run Tryz.prog W = .ok (.bool false) W := fun W => by kernel_rfl
  have HOF := Lib.hid hof
  have HN1 := Lib.hid (fun W => (show Calls Tryz.prog 135 #[.string p.name] W fun e w' => e = .returned (.bool true) ∧ Below W.heap.size W w' from h1 ▸ name_c p.name W (by omega)))
  have HN2 := Lib.hid (fun W => (show Calls Tryz.prog 135 #[.string p.typ] W fun e w' => e = .returned (.bool true) ∧ Below W.heap.size W w' from h2 ▸ name_c p.typ W (by omega)))
  have HX := Lib.hid hbx
  have HT := Lib.hid (h.next hbel)
  have HB := Lib.hid hbel
  have HW := Lib.hid hwb
  obtain ⟨c0, -⟩ := HT.out.tab.c1
  obtain ⟨⟨x0, x1, x2⟩, -⟩ := hbx.c3
  clear h hi h1 h2 h3 hv hof hbel hbx z1 z2
  go_enter Tryz.func119, Tryz.ntmps119
  go_upto_region 1 with fail
  rw [← HW.out]
  clear hwb
  go_upto_region 4 with (go_at_call 72; ((with_reducible refine (HOF.out).mono ?_); rintro e w1 ⟨rfl, rfl⟩))
  go_wp2_with (first
    | (go_at_call 135; ((with_reducible refine (HN1.out _).mono ?_); rintro e w2 ⟨rfl, hb2⟩); have HB2 := Lib.hid hb2; clear hb2; clear x0 x1 x2; obtain ⟨⟨x0, x1, x2⟩, -⟩ := (HX.out.next HB2.out).c3)
    | (go_at_call 135; ((with_reducible refine (HN2.out _).mono ?_); rintro e w3 ⟨rfl, hb3⟩); have HB3 := Lib.hid (hb3.on HB2.out HB2.out.size); clear hb3; clear x0 x1 x2; obtain ⟨⟨x0, x1, x2⟩, -⟩ := (HX.out.next HB3.out).c3))
  go_ret
  exact ⟨rfl, HB3.out.on HB.out HB.out.size⟩
set_option maxRecDepth 100000 in
set_option maxHeartbeats 4000000 in
theorem set_full (h : TabH w t bm nb cnt ms ns) {i : Int} (hi : I64 i) (p : Pr) {b : Nat} (hnb : nb i = some b) (h1 : nameB p.name = true) (h2 : nameB p.typ = true) (h3 : p.data.size ≤ 256) (hm : (ms i p.name).isSome = false) (hf : 32 ≤ ns i) :
    Calls Tryz.prog 119 #[tabP t, .int .i64 i, prV p] w fun e w' => e = .returned (.int .i64 2) ∧ Below w.heap.size w w' := by
  have hs1 : p.name.size ≤ 32 := by have := (of_decide_eq_true h1).1.2; exact this
  have hs2 : p.typ.size ≤ 32 := by have := (of_decide_eq_true h2).1.2; exact this
  have hmm := @run_makeMap Tryz.prog
  obtain ⟨wb, hwb⟩ : ∃ wb, wb = w.alloc (.cells #[.string p.name, .string p.typ, .string p.data] 35) := ⟨_, rfl⟩
  have hbel : Below w.heap.size w wb := by rw [hwb]; exact (Below.refl _ _).alloc (Nat.le_refl _) _
  have hbx : Blk wb w.heap.size 35 #[.string p.name, .string p.typ, .string p.data] := by rw [hwb]; exact Blk.new w _ _
  have hof := of_c (h.next hbel) hi
  rw [hnb, show mapOf (some b) = Value.map (some b) from rfl] at hof
  have em1 : ∀ W : World, (binOp .eql 106 (.map (some bm)) (.map none)).run Tryz.prog W = .ok (.bool false) W := fun W => by kernel_rfl
  have HOF := Lib.hid hof
  have HN1 := Lib.hid (fun W => (show Calls Tryz.prog 135 #[.string p.name] W fun e w' => e = .returned (.bool true) ∧ Below W.heap.size W w' from h1 ▸ name_c p.name W (by omega)))
  have HN2 := Lib.hid (fun W => (show Calls Tryz.prog 135 #[.string p.typ] W fun e w' => e = .returned (.bool true) ∧ Below W.heap.size W w' from h2 ▸ name_c p.typ W (by omega)))
  have HX := Lib.hid hbx
  have HT := Lib.hid (h.next hbel)
  have HB := Lib.hid hbel
  have HW := Lib.hid hwb
  obtain ⟨c0, -⟩ := HT.out.tab.c1
  obtain ⟨⟨x0, x1, x2⟩, -⟩ := hbx.c3
  have h4 : ¬ (256 : Int) < (p.data.size : Int) := by omega
  have HHS := Lib.hid (fun W (hW : Below wb.heap.size wb W) => (show Calls Tryz.prog 136 #[.map (some b), .string p.name] W fun e w' => e = .returned (.bool false) ∧ Below W.heap.size W w' from hm ▸ has_some (by unfold maxLen; omega) W (((h.next hbel).next hW).inner i b hi hnb)))
  obtain ⟨nn, hnn⟩ : ∃ nn, ns i = nn := ⟨_, rfl⟩
  rw [hnn] at hf
  have hf2 : (32 : Int) ≤ (nn : Int) := by omega
  have HNN := Lib.hid hnn
  have HI := Lib.hid (And.intro hi (And.intro hnb trivial))
  clear h hi hnb h1 h2 h3 hm hf hnn hof hbel hbx hs1 hs2
  go_enter Tryz.func119, Tryz.ntmps119
  go_upto_region 1 with fail
  rw [← HW.out]
  clear hwb
  go_upto_region 4 with (go_at_call 72; ((with_reducible refine (HOF.out).mono ?_); rintro e w1 ⟨rfl, rfl⟩))
  go_upto_region 8 with (first
    | (go_at_call 135; ((with_reducible refine (HN1.out _).mono ?_); rintro e w2 ⟨rfl, hb2⟩); have HB2 := Lib.hid hb2; clear hb2; clear x0 x1 x2; obtain ⟨⟨x0, x1, x2⟩, -⟩ := (HX.out.next HB2.out).c3)
    | (go_at_call 135; ((with_reducible refine (HN2.out _).mono ?_); rintro e w3 ⟨rfl, hb3⟩); have HB3 := Lib.hid (hb3.on HB2.out HB2.out.size); clear hb3; clear x0 x1 x2; obtain ⟨⟨x0, x1, x2⟩, -⟩ := (HX.out.next HB3.out).c3))
  go_wp2_with (go_at_call 136; ((with_reducible refine (HHS.out _ HB3.out).mono ?_); rintro e w4 ⟨rfl, hb4⟩); have HB4 := Lib.hid (hb4.on HB3.out HB3.out.size); clear hb4; clear x0 x1 x2; obtain ⟨⟨x0, x1, x2⟩, -⟩ := (HX.out.next HB4.out).c3; have elen := fun ty => ((HT.out.next HB4.out).inner i b HI.out.1 HI.out.2.1).len ty; rw [HNN.out] at elen)
  go_ret
  exact ⟨rfl, HB4.out.on HB.out HB.out.size⟩
set_option maxRecDepth 100000 in
set_option maxHeartbeats 4000000 in
theorem set_has (h : TabH w t bm nb cnt ms ns) {i : Int} (hi : I64 i) (p : Pr) {b : Nat} (hnb : nb i = some b) (h1 : nameB p.name = true) (h2 : nameB p.typ = true) (h3 : p.data.size ≤ 256) (hm : (ms i p.name).isSome = true) (hns : ns i < 1048576) :
    Calls Tryz.prog 119 #[tabP t, .int .i64 i, prV p] w fun e w' => e = .returned (.int .i64 0) ∧ TabH w' t bm nb cnt (upI ms i (upS (ms i) p.name (some p))) (upI ns i (ns i)) ∧ w.grownBy w' (some b) := by
  have hs1 : p.name.size ≤ 32 := by have := (of_decide_eq_true h1).1.2; exact this
  have hs2 : p.typ.size ≤ 32 := by have := (of_decide_eq_true h2).1.2; exact this
  have hmm := @run_makeMap Tryz.prog
  obtain ⟨wb, hwb⟩ : ∃ wb, wb = w.alloc (.cells #[.string p.name, .string p.typ, .string p.data] 35) := ⟨_, rfl⟩
  have hbel : Below w.heap.size w wb := by rw [hwb]; exact (Below.refl _ _).alloc (Nat.le_refl _) _
  have hbx : Blk wb w.heap.size 35 #[.string p.name, .string p.typ, .string p.data] := by rw [hwb]; exact Blk.new w _ _
  have hof := of_c (h.next hbel) hi
  rw [hnb, show mapOf (some b) = Value.map (some b) from rfl] at hof
  have em1 : ∀ W : World, (binOp .eql 106 (.map (some bm)) (.map none)).run Tryz.prog W = .ok (.bool false) W := fun W => by kernel_rfl
  have HOF := Lib.hid hof
  have HN1 := Lib.hid (fun W => (show Calls Tryz.prog 135 #[.string p.name] W fun e w' => e = .returned (.bool true) ∧ Below W.heap.size W w' from h1 ▸ name_c p.name W (by omega)))
  have HN2 := Lib.hid (fun W => (show Calls Tryz.prog 135 #[.string p.typ] W fun e w' => e = .returned (.bool true) ∧ Below W.heap.size W w' from h2 ▸ name_c p.typ W (by omega)))
  have HX := Lib.hid hbx
  have HT := Lib.hid (h.next hbel)
  have HB := Lib.hid hbel
  have HW := Lib.hid hwb
  obtain ⟨c0, -⟩ := HT.out.tab.c1
  obtain ⟨⟨x0, x1, x2⟩, -⟩ := hbx.c3
  have h4 : ¬ (256 : Int) < (p.data.size : Int) := by omega
  have HHS := Lib.hid (fun W (hW : Below wb.heap.size wb W) => (show Calls Tryz.prog 136 #[.map (some b), .string p.name] W fun e w' => e = .returned (.bool true) ∧ Below W.heap.size W w' from hm ▸ has_some (by unfold maxLen; omega) W (((h.next hbel).next hW).inner i b hi hnb)))
  have em2 : ∀ W : World, (binOp .eql 125 (.map (some b)) (.map none)).run Tryz.prog W = .ok (.bool false) W := fun W => by kernel_rfl
  have HNS := Lib.hid (show p.name.size ≤ maxLen by unfold maxLen; omega)
  have HCP := Lib.hid (fun W => copied_c p W ⟨by omega, by omega, by omega⟩)
  have HLT := Lib.hid (And.intro h.tab.lt (And.intro h.map.lt (fun i b hi hn => (h.inner i b hi hn).lt)))
  have HM := Lib.hid hm
  have HI := Lib.hid (And.intro hi (And.intro hnb hns))
  clear h hi hnb h1 h2 h3 hm hns hof hbel hbx hs1 hs2
  go_enter Tryz.func119, Tryz.ntmps119
  go_upto_region 1 with fail
  rw [← HW.out]
  clear hwb
  go_upto_region 4 with (go_at_call 72; ((with_reducible refine (HOF.out).mono ?_); rintro e w1 ⟨rfl, rfl⟩))
  go_upto_region 8 with (first
    | (go_at_call 135; ((with_reducible refine (HN1.out _).mono ?_); rintro e w2 ⟨rfl, hb2⟩); have HB2 := Lib.hid hb2; clear hb2; clear x0 x1 x2; obtain ⟨⟨x0, x1, x2⟩, -⟩ := (HX.out.next HB2.out).c3)
    | (go_at_call 135; ((with_reducible refine (HN2.out _).mono ?_); rintro e w3 ⟨rfl, hb3⟩); have HB3 := Lib.hid (hb3.on HB2.out HB2.out.size); clear hb3; clear x0 x1 x2; obtain ⟨⟨x0, x1, x2⟩, -⟩ := (HX.out.next HB3.out).c3))
  go_upto_region 13 with (go_at_call 136; ((with_reducible refine (HHS.out _ HB3.out).mono ?_); rintro e w4 ⟨rfl, hb4⟩); have HB4 := Lib.hid (hb4.on HB3.out HB3.out.size); clear hb4; clear x0 x1 x2; obtain ⟨⟨x0, x1, x2⟩, -⟩ := (HX.out.next HB4.out).c3)
  go_upto_region 14 with (go_at_call 73; ((with_reducible refine (HCP.out _).mono ?_); rintro e w7 ⟨rfl, hb7⟩); have HB7 := Lib.hid (hb7.on HB4.out HB4.out.size); obtain ⟨⟨z0, z1, z2⟩, ⟨f0, f1, f2⟩⟩ := (HX.out.next HB7.out).c3; clear hb7)
  have hx8 := (HX.out.next HB7.out).put3 (.string p.name) (.string p.typ) (.string p.data)
  have ht7 := HT.out.next HB7.out
  have h8 : ∀ g, g ≠ w.heap.size → ((((w7.setCell ⟨w.heap.size, 0, none⟩ (.string p.name)).setCell ⟨w.heap.size, 1, none⟩ (.string p.typ)).setCell ⟨w.heap.size, 2, none⟩ (.string p.data))).heap[g]? = w7.heap[g]? := fun g hg => by
    rw [Below.heap_setCell _ _ _ _ hg, Below.heap_setCell _ _ _ _ hg, Below.heap_setCell _ _ _ _ hg]
  have ht8 : TabH ((((w7.setCell ⟨w.heap.size, 0, none⟩ (.string p.name)).setCell ⟨w.heap.size, 1, none⟩ (.string p.typ)).setCell ⟨w.heap.size, 2, none⟩ (.string p.data))) t bm nb cnt ms ns := ht7.kept fun g _ hg => h8 g (by
    have h1 := HLT.out.1
    have h2 := HLT.out.2.1
    rcases hg with rfl | rfl | ⟨j, hj, hc⟩
    · omega
    · omega
    · have := HLT.out.2.2 j g hj hc; omega)
  have hg8 : w.grownBy ((((w7.setCell ⟨w.heap.size, 0, none⟩ (.string p.name)).setCell ⟨w.heap.size, 1, none⟩ (.string p.typ)).setCell ⟨w.heap.size, 2, none⟩ (.string p.data))) (some b) := by
    have k1 : w.grownBy w7 (some b) := only_of_below (HB7.out.on HB.out HB.out.size) _
    exact only_setCell (only_setCell (only_setCell k1 (.inr (Nat.le_refl _)) _) (.inr (Nat.le_refl _)) _) (.inr (Nat.le_refl _)) _
  generalize (((w7.setCell ⟨w.heap.size, 0, none⟩ (.string p.name)).setCell ⟨w.heap.size, 1, none⟩ (.string p.typ)).setCell ⟨w.heap.size, 2, none⟩ (.string p.data)) = w8 at hx8 ht8 hg8 ⊢
  obtain ⟨w9, hput9, ht9, hg9⟩ := ht8.putS HI.out.1 HI.out.2.1 (s := p.name) HNS.out HI.out.2.2 p
  rw [HM.out] at ht9
  have HT9 := Lib.hid ht9
  have HG9 := Lib.hid (only_trans hg8 hg9)
  obtain ⟨⟨v0, v1, v2⟩, -⟩ := hx8.c3
  clear z0 z1 z2 f0 f1 f2 x0 x1 x2 ht7 h8 ht8 hg8 hx8 ht9 hg9 c0
  go_wp2_with fail
  go_ret
  exact ⟨rfl, HT9.out, HG9.out⟩
set_option maxRecDepth 100000 in
set_option maxHeartbeats 4000000 in
theorem set_more (h : TabH w t bm nb cnt ms ns) {i : Int} (hi : I64 i) (p : Pr) {b : Nat} (hnb : nb i = some b) (h1 : nameB p.name = true) (h2 : nameB p.typ = true) (h3 : p.data.size ≤ 256) (hm : (ms i p.name).isSome = false) (hf : ns i < 32) (hns : ns i < 1048576) :
    Calls Tryz.prog 119 #[tabP t, .int .i64 i, prV p] w fun e w' => e = .returned (.int .i64 0) ∧ TabH w' t bm nb cnt (upI ms i (upS (ms i) p.name (some p))) (upI ns i (ns i + 1)) ∧ w.grownBy w' (some b) := by
  have hs1 : p.name.size ≤ 32 := by have := (of_decide_eq_true h1).1.2; exact this
  have hs2 : p.typ.size ≤ 32 := by have := (of_decide_eq_true h2).1.2; exact this
  have hmm := @run_makeMap Tryz.prog
  obtain ⟨wb, hwb⟩ : ∃ wb, wb = w.alloc (.cells #[.string p.name, .string p.typ, .string p.data] 35) := ⟨_, rfl⟩
  have hbel : Below w.heap.size w wb := by rw [hwb]; exact (Below.refl _ _).alloc (Nat.le_refl _) _
  have hbx : Blk wb w.heap.size 35 #[.string p.name, .string p.typ, .string p.data] := by rw [hwb]; exact Blk.new w _ _
  have hof := of_c (h.next hbel) hi
  rw [hnb, show mapOf (some b) = Value.map (some b) from rfl] at hof
  have em1 : ∀ W : World, (binOp .eql 106 (.map (some bm)) (.map none)).run Tryz.prog W = .ok (.bool false) W := fun W => by kernel_rfl
  have HOF := Lib.hid hof
  have HN1 := Lib.hid (fun W => (show Calls Tryz.prog 135 #[.string p.name] W fun e w' => e = .returned (.bool true) ∧ Below W.heap.size W w' from h1 ▸ name_c p.name W (by omega)))
  have HN2 := Lib.hid (fun W => (show Calls Tryz.prog 135 #[.string p.typ] W fun e w' => e = .returned (.bool true) ∧ Below W.heap.size W w' from h2 ▸ name_c p.typ W (by omega)))
  have HX := Lib.hid hbx
  have HT := Lib.hid (h.next hbel)
  have HB := Lib.hid hbel
  have HW := Lib.hid hwb
  obtain ⟨c0, -⟩ := HT.out.tab.c1
  obtain ⟨⟨x0, x1, x2⟩, -⟩ := hbx.c3
  have h4 : ¬ (256 : Int) < (p.data.size : Int) := by omega
  have HHS := Lib.hid (fun W (hW : Below wb.heap.size wb W) => (show Calls Tryz.prog 136 #[.map (some b), .string p.name] W fun e w' => e = .returned (.bool false) ∧ Below W.heap.size W w' from hm ▸ has_some (by unfold maxLen; omega) W (((h.next hbel).next hW).inner i b hi hnb)))
  have em2 : ∀ W : World, (binOp .eql 125 (.map (some b)) (.map none)).run Tryz.prog W = .ok (.bool false) W := fun W => by kernel_rfl
  have HNS := Lib.hid (show p.name.size ≤ maxLen by unfold maxLen; omega)
  have HCP := Lib.hid (fun W => copied_c p W ⟨by omega, by omega, by omega⟩)
  have HLT := Lib.hid (And.intro h.tab.lt (And.intro h.map.lt (fun i b hi hn => (h.inner i b hi hn).lt)))
  have HM := Lib.hid hm
  obtain ⟨nn, hnn⟩ : ∃ nn, ns i = nn := ⟨_, rfl⟩
  rw [hnn] at hf
  have hf2 : ¬ (32 : Int) ≤ (nn : Int) := by omega
  have HNN := Lib.hid hnn
  have HI := Lib.hid (And.intro hi (And.intro hnb hns))
  clear h hi hnb h1 h2 h3 hm hns hof hbel hbx hs1 hs2 hf hnn
  go_enter Tryz.func119, Tryz.ntmps119
  go_upto_region 1 with fail
  rw [← HW.out]
  clear hwb
  go_upto_region 4 with (go_at_call 72; ((with_reducible refine (HOF.out).mono ?_); rintro e w1 ⟨rfl, rfl⟩))
  go_upto_region 8 with (first
    | (go_at_call 135; ((with_reducible refine (HN1.out _).mono ?_); rintro e w2 ⟨rfl, hb2⟩); have HB2 := Lib.hid hb2; clear hb2; clear x0 x1 x2; obtain ⟨⟨x0, x1, x2⟩, -⟩ := (HX.out.next HB2.out).c3)
    | (go_at_call 135; ((with_reducible refine (HN2.out _).mono ?_); rintro e w3 ⟨rfl, hb3⟩); have HB3 := Lib.hid (hb3.on HB2.out HB2.out.size); clear hb3; clear x0 x1 x2; obtain ⟨⟨x0, x1, x2⟩, -⟩ := (HX.out.next HB3.out).c3))
  go_upto_region 13 with (go_at_call 136; ((with_reducible refine (HHS.out _ HB3.out).mono ?_); rintro e w4 ⟨rfl, hb4⟩); have HB4 := Lib.hid (hb4.on HB3.out HB3.out.size); clear hb4; clear x0 x1 x2; obtain ⟨⟨x0, x1, x2⟩, -⟩ := (HX.out.next HB4.out).c3; have elen := fun ty => ((HT.out.next HB4.out).inner i b HI.out.1 HI.out.2.1).len ty; rw [HNN.out] at elen)
  go_upto_region 14 with (go_at_call 73; ((with_reducible refine (HCP.out _).mono ?_); rintro e w7 ⟨rfl, hb7⟩); have HB7 := Lib.hid (hb7.on HB4.out HB4.out.size); obtain ⟨⟨z0, z1, z2⟩, ⟨f0, f1, f2⟩⟩ := (HX.out.next HB7.out).c3; clear hb7)
  have hx8 := (HX.out.next HB7.out).put3 (.string p.name) (.string p.typ) (.string p.data)
  have ht7 := HT.out.next HB7.out
  have h8 : ∀ g, g ≠ w.heap.size → ((((w7.setCell ⟨w.heap.size, 0, none⟩ (.string p.name)).setCell ⟨w.heap.size, 1, none⟩ (.string p.typ)).setCell ⟨w.heap.size, 2, none⟩ (.string p.data))).heap[g]? = w7.heap[g]? := fun g hg => by
    rw [Below.heap_setCell _ _ _ _ hg, Below.heap_setCell _ _ _ _ hg, Below.heap_setCell _ _ _ _ hg]
  have ht8 : TabH ((((w7.setCell ⟨w.heap.size, 0, none⟩ (.string p.name)).setCell ⟨w.heap.size, 1, none⟩ (.string p.typ)).setCell ⟨w.heap.size, 2, none⟩ (.string p.data))) t bm nb cnt ms ns := ht7.kept fun g _ hg => h8 g (by
    have h1 := HLT.out.1
    have h2 := HLT.out.2.1
    rcases hg with rfl | rfl | ⟨j, hj, hc⟩
    · omega
    · omega
    · have := HLT.out.2.2 j g hj hc; omega)
  have hg8 : w.grownBy ((((w7.setCell ⟨w.heap.size, 0, none⟩ (.string p.name)).setCell ⟨w.heap.size, 1, none⟩ (.string p.typ)).setCell ⟨w.heap.size, 2, none⟩ (.string p.data))) (some b) := by
    have k1 : w.grownBy w7 (some b) := only_of_below (HB7.out.on HB.out HB.out.size) _
    exact only_setCell (only_setCell (only_setCell k1 (.inr (Nat.le_refl _)) _) (.inr (Nat.le_refl _)) _) (.inr (Nat.le_refl _)) _
  generalize (((w7.setCell ⟨w.heap.size, 0, none⟩ (.string p.name)).setCell ⟨w.heap.size, 1, none⟩ (.string p.typ)).setCell ⟨w.heap.size, 2, none⟩ (.string p.data)) = w8 at hx8 ht8 hg8 ⊢
  obtain ⟨w9, hput9, ht9, hg9⟩ := ht8.putS HI.out.1 HI.out.2.1 (s := p.name) HNS.out HI.out.2.2 p
  rw [HM.out] at ht9
  have HT9 := Lib.hid ht9
  have HG9 := Lib.hid (only_trans hg8 hg9)
  obtain ⟨⟨v0, v1, v2⟩, -⟩ := hx8.c3
  clear z0 z1 z2 f0 f1 f2 x0 x1 x2 ht7 h8 ht8 hg8 hx8 ht9 hg9 c0
  go_wp2_with fail
  go_ret
  exact ⟨rfl, HT9.out, HG9.out⟩
end
end Go.Proofs.YtfdgpbdppenhmaaGreat.Pp
end
