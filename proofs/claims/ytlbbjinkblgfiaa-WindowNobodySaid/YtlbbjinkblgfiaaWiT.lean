/- Destroy, walked. -/
import Derived.Test.YtlbbjinkblgfiaaWiR
namespace Go.Proofs.Ytlbbjinkblgfiaa
open Go.RowKit Go.Shelf Go.Maps
/-- What is left of a tree. -/
def wipe (nd : Int → Option Nd) (xs : List Int) : Int → Option Nd := fun j => if j ∈ xs then none else nd j
theorem wipe_nil (nd : Int → Option Nd) : wipe nd [] = nd := by
  funext j; unfold wipe; simp
theorem wipe_snoc (nd : Int → Option Nd) (xs : List Int) (x : Int) : wipe nd (xs ++ [x]) = upd (wipe nd xs) x none := by
  funext j
  unfold wipe upd
  by_cases h1 : j = x
  · subst h1; simp
  · by_cases h2 : j ∈ xs <;> simp [h1, h2]
theorem wpList_delete_at {P : Program} (hP : P = Try.prog) {w : World} {ops : Array Oper} {rest : List Oper} {o : Oper} {a : Act} {Q : Exit → Act → World → Prop} (hg : o.guard = none) (m x : Operand)
    (hop : o.op = Op.call { callee := Callee.builtin Builtin.delete, args := #[m, x], argTypes := #[66, 3] }) {bm n : Nat} {nb : Int → Option Nat} (h : MapAt w bm nb n)
    (hm : a.eval m = .map (some bm)) {i : Int} (hx : a.eval x = .int .i64 i) (hi : I64 i) {b : Nat} (hb : nb i = some b)
    (hK : ∀ w', MapAt w' bm (upd nb i none) (n - 1) → w.grownBy w' (some bm) → 1 ≤ n → wpList P ops Q rest (a.put o.dst (.tuple #[])) w') :
    wpList P ops Q (o :: rest) a w := by
  subst hP
  refine wpList_plain hg fun K' hK' => ?_
  obtain ⟨w', hrun, r1, r2, r3⟩ := h.del hi hb o.type
  unfold Oper.wp
  simp [execOp, hop, resolve, invoke, builtin, hm, hx, hrun, Result.andThen]
  exact hK' _ _ (hK w' r1 r2 r3)
section
variable {w w' : World} {t : Nat} {l : Lay} {nd : Int → Option Nd} {made : Int} {cnt : Nat}
/-- A node less. -/
theorem TreeH.del (h : TreeH w t l nd made cnt) {k : Int} (hm : MapAt w' l.bm (upd l.nb k none) (cnt - 1)) (hg : w.grownBy w' (some l.bm)) :
    TreeH w' t { l with nb := upd l.nb k none } (upd nd k none) made (cnt - 1) ∧ Turn (l.foot t) (({ l with nb := upd l.nb k none } : Lay).foot t) w w' := by
  have old : ∀ {i : Int} {b : Nat}, upd l.nb k none i = some b → i ≠ k ∧ l.nb i = some b := fun {i b} hb => by
    by_cases hik : i = k
    · rw [hik, upd_same] at hb; cases hb
    · rw [upd_other _ _ hik] at hb; exact ⟨hik, hb⟩
  have old2 : ∀ {i : Int}, (upd l.nb k none i).isSome = true → (l.nb i).isSome = true := fun {i} hi => by
    obtain ⟨b, hb⟩ := Option.isSome_iff_exists.1 hi
    rw [(old hb).2]; rfl
  refine ⟨⟨h.tree.grown hg (fun e => by injection e with e; exact blk_not_map h.tree h.map e), hm, fun i => ?_, fun i b d hb hd => ?_, fun i j b hi hj => h.inj i j b (old hi).2 (old hj).2, fun i j b hi hj h1 h2 => h.apart i j b (old2 hi) (old2 hj) h1 h2⟩,
    ⟨hg.os, hg.tape, hg.output, hg.size, fun i hi hn => hg.block i hi (fun e => hn (.inr (.inl (by injection e)))), fun i hi => .inl ?_⟩⟩
  · show (upd l.nb k none i).isSome = _
    unfold upd
    split
    · rfl
    · exact h.dom i
  · obtain ⟨hik, hb'⟩ := old hb
    rw [upd_other _ _ hik] at hd
    obtain ⟨h1, h2⟩ := h.node i b d hb' hd
    refine ⟨h1.grown hg (fun e => by injection e with e; exact blk_not_map h1 h.map e), row_same h2 fun r hr => ?_⟩
    obtain ⟨cs, hc⟩ := row_type h2 hr
    exact hg.block r hc.lt (fun e => by injection e with e; exact blk_not_map hc h.map e)
  · rcases hi with rfl | rfl | ⟨j, hj⟩ | ⟨j, hj, hr⟩
    · exact .inl rfl
    · exact .inr (.inl rfl)
    · exact .inr (.inr (.inl ⟨j, (old hj).2⟩))
    · exact .inr (.inr (.inr ⟨j, old2 hj, hr⟩))
theorem below_none {w w' : World} (h : w.grownBy w' none) : Below w.heap.size w w' := ⟨h.os, h.tape, h.output, h.size, fun i hi => h.block i hi (by simp)⟩
theorem nodup_take {xs : List Int} (h : xs.Nodup) {k : Nat} {x : Int} (hx : xs[k]? = some x) : x ∉ xs.take k := by
  intro hm
  obtain ⟨j, hj⟩ := List.getElem?_of_mem hm
  have h1 := (List.getElem?_eq_some_iff.1 hj).1
  rw [List.length_take] at h1
  rw [List.getElem?_take_of_lt (by omega)] at hj
  have h2 := (List.getElem?_eq_some_iff.1 hx).1
  have := (List.getElem?_inj (by omega) h).1 (hj.trans hx.symm)
  omega
/-- The rounds of Destroy. -/
def DeS (w : World) (t : Nat) (l : Lay) (bm : Nat) (nd1 : Int → Option Nd) (made : Int) (cnt : Nat) (v : Value) (xs : List Int) (k : Nat) (wr : World) : Prop :=
  ∃ l', l'.bm = bm ∧ TreeH wr t l' (wipe nd1 (xs.take k)) made (cnt - k) ∧ Turn (l.foot t) (l'.foot t) w wr ∧ wr.ownsRow 0 3 1 v xs.length (intsV xs)
/-- What Destroy answers. -/
def DestR (w : World) (t : Nat) (l : Lay) (nd1 : Int → Option Nd) (made : Int) (cnt : Nat) (xs : List Int) (e : Ending) (w' : World) : Prop :=
  ∃ v, e = .returned (.tuple #[v, .int .i64 0]) ∧ w'.ownsRow 0 3 1 v xs.length (intsV xs) ∧ (∀ r, v.ownBlock = some r → w.heap.size ≤ r) ∧ ∃ l', TreeH w' t l' (wipe nd1 xs) made (cnt - xs.length) ∧ Turn (l.foot t) (l'.foot t) w w'
set_option maxRecDepth 100000 in
set_option maxHeartbeats 4000000 in
theorem destroy_c (h : TreeH w t l nd made cnt) (hw : Wide nd) {r : Nat} (h0 : l.nb 0 = some r) {i : Int} (hi : I64 i) {b bp : Nat} {d dp : Nd} (hb : l.nb i = some b) (hd : nd i = some d) (hz : i ≠ 0) (hbp : l.nb d.win.par = some bp) (hdp : nd d.win.par = some dp)
    (n : Nat) (nd1 : Int → Option Nd) (hn1 : nd1 = upd nd d.win.par (some ⟨dp.win, strike d.win.id dp.kids⟩)) (hT : Tall nd1 n i) (hlen : (allL nd1 n i).length ≤ 1048576) (hnd : (allL nd1 n i).Nodup) (hin : ∀ x ∈ allL nd1 n i, ∃ dx, nd1 x = some dx) :
    Calls Try.prog 20 #[treeP t, .int .i64 i] w fun e w' => DestR w t l nd1 made cnt (allL nd1 n i) e w' := by
  have hw1 : Wide nd1 := by
    intro j dj hj
    rw [hn1] at hj
    by_cases hjp : j = d.win.par
    · rw [hjp, upd_same] at hj
      injection hj with hj
      subst hj
      have := hw _ _ hdp
      rw [hjp]; exact this
    · rw [upd_other _ _ hjp] at hj; exact hw _ _ hj
  have HC := Lib.hid (changeable_some h h0 hi hb hz)
  have hlv := leave_c h hbp hb hdp hd rfl (hw _ _ hd).2
  rw [← hn1] at hlv
  have HL := Lib.hid hlv
  obtain ⟨xs, hxs⟩ : ∃ xs, xs = allL nd1 n i := ⟨_, rfl⟩
  have HGA := Lib.hid (fun (W : World) (l1 : Lay) (T1 : TreeH W t l1 nd1 made cnt) => gather_c hw1 n i (.slice none 0 0) [] W T1 hT (World.ownsRow_nil _ _ _ _) (fun r hr => by cases hr) (by simpa using hlen))
  rw [List.nil_append, ← hxs] at HGA
  rw [← hxs] at hlen hnd hin ⊢
  have HIN := Lib.hid (And.intro hin (And.intro hnd hw1))
  have HLEN := Lib.hid hlen
  clear h hw h0 hi hb hd hz hbp hdp hn1 hT hlen hnd hin hw1 hlv hxs
  go_enter Try.func20, Try.ntmps20
  go_upto_region 6 with (first
    | (go_at_call 47; ((with_reducible refine (HC.out).mono ?_); rintro e w' ⟨rfl, rfl⟩))
    | (go_at_call 48; ((with_reducible refine (HL.out).mono ?_); rintro e w1 ⟨rfl, l1, hl1, T1, U1⟩); have HG1 := Lib.hid (HGA.out w1 l1 T1); have HT1 := Lib.hid T1; have HU1 := Lib.hid U1; clear T1 U1 hl1)
    | (go_at_call 49; ((with_reducible refine (HG1.out).mono ?_); rintro e w2 ⟨v, rfl, hG⟩); have HG := Lib.hid hG; clear hG))
  have hv0 := HG.out.1
  obtain ⟨p, c, rfl, hcell⟩ := row_reads hv0
  have HNEW := Lib.hid (fun r (hr : (Value.slice p xs.length c).ownBlock = some r) => (show w.heap.size ≤ r from by
    rcases HG.out.2.2 r hr with h1 | h1
    · cases h1
    · exact Nat.le_trans HU1.out.size h1))
  have hU2 : Turn (l.foot t) (l1.foot t) w w2 := HU1.out.then_below (below_none HG.out.2.1)
  have hS0 : DeS w t l l1.bm nd1 made cnt (.slice p xs.length c) xs 0 w2 := ⟨l1, rfl, by
    rw [List.take_zero, wipe_nil]
    exact HT1.out.beside HG.out.2.1 (fun r hr => by cases hr), hU2, hv0⟩
  have HS0 := Lib.hid hS0
  clear hS0 hU2 hv0 hcell
  obtain ⟨m, hm⟩ : ∃ m, m = xs.length := ⟨_, rfl⟩
  rw [← hm] at HS0 HNEW HLEN ⊢
  have HM := Lib.hid hm
  have hm0 : (m : Int) ≤ 1048576 := by have := HLEN.out; omega
  clear hm
  go_wp2_with fail
  go_loopw [28] (fun z wr => ∃ k : Nat, k ≤ m ∧ z = .int .i64 k ∧ DeS w t l l1.bm nd1 made cnt (.slice p m c) xs k wr) (fun z _ => m - (intOf z).toNat)
  case atStart => exact ⟨0, Nat.zero_le _, rfl, HS0.out⟩
  case round =>
    obtain ⟨k, hk, rfl, hS⟩ := hrel
    by_cases hlt : k < m
    · obtain ⟨x, hx⟩ : ∃ x, xs[k]? = some x := ⟨_, List.getElem?_eq_getElem (by rw [← HM.out]; exact hlt)⟩
      obtain ⟨l', hbm, hT', hU', hv'⟩ := hS
      obtain ⟨p', c', hpe, hcell⟩ := row_reads hv'
      obtain ⟨g, hp, hg, hcx⟩ := hcell k x hx
      simp only [Value.slice.injEq] at hpe
      obtain ⟨rfl, -, rfl⟩ := hpe
      subst hp
      obtain ⟨⟨c0, -⟩, -⟩ := hT'.tree.c2
      rw [hbm] at c0
      obtain ⟨dx, hdx⟩ := HIN.out.1 x (List.mem_of_getElem? hx)
      have hxt : x ∉ xs.take k := nodup_take HIN.out.2.1 hx
      obtain ⟨bx, hbx⟩ := hT'.block (i := x) (d := dx) (by unfold wipe; rw [if_neg hxt]; exact hdx)
      have hxi := (HIN.out.2.2 x dx hdx).1
      have hM := hT'.map
      rw [hbm] at hM
      have HNX := Lib.hid (fun (W : World) (hM3 : MapAt W l1.bm (upd l'.nb x none) (cnt - k - 1)) (hg3 : wr.grownBy W (some l1.bm)) (_hp : 1 ≤ cnt - k) => (show DeS w t l l1.bm nd1 made cnt (.slice (some ⟨g, 0, none⟩) m c) xs (k + 1) W from by
        have hd := hT'.del (k := x) (hbm ▸ hM3) (hbm ▸ hg3)
        refine ⟨{ l' with nb := upd l'.nb x none }, hbm, ?_, hU'.trans hd.2, ?_⟩
        · have e1 : xs.take (k + 1) = xs.take k ++ [x] := take_snoc_get hx
          have e2 : cnt - (k + 1) = cnt - k - 1 := by omega
          rw [e1, wipe_snoc, e2]
          exact hd.1
        · exact row_same hv' fun r hr => by
            obtain ⟨cs, hc⟩ := row_type hv' hr
            exact hg3.block r hc.lt (fun e => by injection e with e; exact blk_not_map hc hM e)))
      have HMM := Lib.hid hM
      have HBX := Lib.hid hbx
      have hi0' : (0 : Int) ≤ (k : Int) := by omega
      have hi1 : (k : Int) < (m : Int) := by omega
      clear hT' hU' hv' hcell hx hdx hxt hbx hM hg hbm
      go_wp2_with (at_delete; refine wpList_delete_at rfl rfl _ _ rfl HMM.out rfl rfl hxi HBX.out ?_; intro w3 hM3 hg3 hp3; have HN := Lib.hid (HNX.out w3 hM3 hg3 hp3); clear hM3 hg3 hp3)
      go_roundw
      case rel => exact ⟨k + 1, by omega, by go_num, HN.out⟩
      case measure => simp [intOf]; omega
    · obtain rfl : k = m := by omega
      have HS := Lib.hid hS
      clear hS
      go_wp2_with fail
      go_ret2
      obtain ⟨l', hbm, hT', hU', hv'⟩ := HS.out
      rw [HM.out, List.take_length] at hT'
      exact ⟨_, rfl, hv', HNEW.out, l', hT', hU'⟩
end
end Go.Proofs.Ytlbbjinkblgfiaa
