/- List of a window that has properties, walked. -/
import Derived.Test.YtfflgkbemfichaaDoorPsB
import Derived.Test.YtfflgkbemfichaaDoorPrL
import Derived.Test.YtfflgkbemfichaaDoorPrV
namespace Go.Proofs.YtfflgkbemfichaaDoor
open Go.RowKit Go.Maps Go.Sort Go.Shelf
/-- The names of a window's properties, ascending. -/
structure Names (m : ByteArray → Option Pr) (ss : List (List UInt8)) : Prop where
  up : ss.Pairwise (fun a b => leB a b = true)
  once : ss.Nodup
  mem : ∀ x, x ∈ ss ↔ (x.length ≤ maxLen ∧ (m (txt x)).isSome = true)
theorem tr_leB : ∀ a b c : List UInt8, leB a b = true → leB b c = true → leB a c = true := fun a b c h1 h2 => by simp only [leB, decide_eq_true_eq] at *; exact List.le_trans h1 h2
theorem to_leB : ∀ a b : List UInt8, (leB a b || leB b a) = true := fun a b => by simp only [leB, Bool.or_eq_true, decide_eq_true_eq]; exact List.le_total a b
theorem keyS_txt (x : List UInt8) : keyS (txt x) = .string x := rfl
theorem txt_size (x : List UInt8) : (txt x).size = x.length := by show x.toArray.size = _; simp
theorem keys_of {w : World} {b n : Nat} {D : DataW Unit} {m : ByteArray → Option Pr} (h : w.ownsMap Tryd.prog 9 elemP b n D) (r : ∀ s, s.size ≤ maxLen → D.atKey (keyS s) (litP noP) = litO (m s) ∧ Maps.has D (keyS s) = (m s).isSome) {ss : List (List UInt8)} (hp : ss.Perm (strKeys D)) :
    Names m (ss.mergeSort leB) ∧ (ss.mergeSort leB).length = Maps.size D := by
  obtain ⟨es, hD, hpw, _⟩ := h.entries keyedS
  obtain ⟨es', hD', hko⟩ := h.keysOf
  obtain rfl : es = es' := by rw [hD] at hD'; simpa using hD'
  have hle := strKeys_le h Tryd.underlying9
  subst hD
  have hk : ∀ p ∈ es, ∃ x, p.1 = .string x := fun p hp => by obtain ⟨v, hv⟩ := hko p hp; obtain ⟨x, _, hx, _⟩ := Maps.keyOf_str Tryd.underlying9 hv; exact ⟨x, hx⟩
  have hnd : (strKeys (.map es)).Nodup := List.pairwise_map.2 (hpw.imp_of_mem fun {p q} hp' hq' hne e => hne (by
    obtain ⟨a, ha⟩ := hk p hp'
    obtain ⟨b, hb⟩ := hk q hq'
    rw [ha, hb] at e ⊢
    exact congrArg _ e))
  have hmem : ∀ x, x ∈ strKeys (.map es) ↔ Maps.has (.map es) (.string x) = true := fun x => by
    rw [Maps.has_eq, List.any_eq_true]
    show x ∈ es.map (fun p => strOf p.1) ↔ _
    rw [List.mem_map]
    constructor
    · rintro ⟨p, hp', rfl⟩
      obtain ⟨a, ha⟩ := hk p hp'
      exact ⟨p, hp', by rw [ha]; simp [Lit.sameKey, strOf]⟩
    · rintro ⟨p, hp', hs⟩
      obtain ⟨a, ha⟩ := hk p hp'
      rw [ha] at hs
      exact ⟨p, hp', by rw [ha]; simpa [Lit.sameKey, strOf] using hs⟩
  have hperm := (List.mergeSort_perm ss leB).trans hp
  refine ⟨⟨List.pairwise_mergeSort tr_leB to_leB ss, hperm.nodup_iff.2 hnd, fun x => ?_⟩, ?_⟩
  · rw [hperm.mem_iff, hmem x]
    constructor
    · intro hx
      have hl := hle x ((hmem x).2 hx)
      have := (r (txt x) (by rw [txt_size]; exact hl)).2
      rw [keyS_txt, hx] at this
      exact ⟨hl, this.symm⟩
    · rintro ⟨hl, hx⟩
      have := (r (txt x) (by rw [txt_size]; exact hl)).2
      rw [keyS_txt, hx] at this
      exact this
  · rw [hperm.length_eq]
    show (es.map (fun p => strOf p.1)).length = es.length
    rw [List.length_map]
theorem MapS.look1 {w : World} {b n : Nat} {m : ByteArray → Option Pr} (h : MapS w b m n) {s : ByteArray} (hs : s.size ≤ maxLen) : (Instr.lookup 71 (.map (some b)) (.string s) false).run Tryd.prog w = .ok (prV ((m s).getD noP)) w := by
  obtain ⟨D, h, _, r⟩ := h
  obtain ⟨v, ps, h1, h2⟩ := h.lookup keyedS Tryd.underlying71 (zeroP w) (elemP_of noP) (keyS_of hs)
  rw [(r s hs).1] at h2
  rw [h1, elemP_inv h2]
theorem sorted_c {w : World} {b n : Nat} {m : ByteArray → Option Pr} (h : MapS w b m n) (hn : n ≤ 1048576) :
    Calls Tryd.prog 36 #[iterV w.heap.size] (w.alloc (.cells #[.map (some b)] 71)) fun e w' => ∃ (v : Value) (ss : List (List UInt8)), e = .returned v ∧ Names m ss ∧ ss.length = n ∧
      w'.ownsRow (w.heap.size + 1) 9 1 v ss.length (ss.map encStr) ∧ Below (w.heap.size + 1) (w.alloc (.cells #[.map (some b)] 71)) w' := by
  obtain ⟨D, hD, hsz, r⟩ := h
  have hs := sorted_some b n D elemP w hD (by rw [hsz]; unfold maxLen; omega) (by rw [hsz]; omega)
  rw [World.size_alloc] at hs
  refine hs.mono ?_
  rintro e w' ⟨v, ss, he, hp, ho, -, hb⟩
  obtain ⟨h1, h2⟩ := keys_of hD r hp
  exact ⟨v, _, he, h1, h2.trans hsz, by rw [List.length_mergeSort]; exact ho, hb⟩
abbrev encX (x : List UInt8) : List Value := [.string (txt x)]
theorem encX_len (x : List UInt8) : (encX x).length = 1 := rfl
theorem flatX (ss : List (List UInt8)) : ss.flatMap encX = ss.map encStr := by
  induction ss with
  | nil => rfl
  | cons x l ih => rw [List.flatMap_cons, ih]; rfl
theorem apart_ne {α β : Type} {enc : α → List Value} {enc' : β → List Value} {T T' : TypeId} {k k' : Nat} {w : World} {v v' : Value} {xs : List α} {ys : List β} {B B' : Nat} (h1 : OwK enc T k w B v xs) (h2 : OwK enc' T' k' w B' v' ys) (hT : T ≠ T') : v.ownBlock = none ∨ v.ownBlock ≠ v'.ownBlock := by
  rcases h1.2 with ⟨k1, _⟩ | ⟨g, cap, cur, k1, _, k2, _⟩
  · exact .inl (by rw [k1]; rfl)
  · right
    intro e
    rcases h2.2 with ⟨k3, _⟩ | ⟨g', cap', cur', k3, _, k4, _⟩
    · rw [k1, k3] at e; simp [Value.ownBlock] at e
    · rw [k1, k3] at e
      simp only [Value.ownBlock, Option.some.injEq] at e
      subst e
      rw [k2] at k4
      injection k4 with k4
      injection k4 with _ k5
      exact hT k5
/-- What List keeps: the names, the properties so far. -/
def Ls (w : World) (sv : Value) (ss : List (List UInt8)) (u : Value) (xs : List Pr) (wr : World) : Prop :=
  OwK encX 9 1 wr w.heap.size sv ss ∧ OwK encP 27 3 wr w.heap.size u xs ∧ Below w.heap.size w wr
section
variable {w wr w1 : World} {sv u v' : Value} {ss : List (List UInt8)} {xs : List Pr}
theorem Ls.next (h : Ls w sv ss u xs wr) (hb : Below wr.heap.size wr w1) : Ls w sv ss u xs w1 := ⟨h.1.below hb, h.2.1.below hb, hb.on h.2.2 h.2.2.size⟩
theorem Ls.put {q : Pr} {o : Obj} (h : Ls w sv ss u xs wr) (ho : w1.ownsRow w.heap.size 27 3 v' (xs.length + 1) (xs.flatMap encP ++ encP q)) (hg : (wr.alloc o).grownBy w1 u.ownBlock) : Ls w sv ss v' (xs ++ [q]) w1 := by
  have h2 := h.next ((Below.refl _ wr).alloc (Nat.le_refl _) o)
  refine ⟨h2.1.grown hg (apart_ne h2.1 h2.2.1 (by decide)), ?_, below_only h2.2.2 hg h2.2.2.size (fun k hk => (h2.2.1.lt hk).1)⟩
  show w1.ownsRow w.heap.size 27 3 v' (xs ++ [q]).length ((xs ++ [q]).flatMap encP)
  rw [List.length_append, List.flatMap_append]
  simpa using ho
end
def propsOf (m : ByteArray → Option Pr) (ss : List (List UInt8)) : List Pr := ss.map fun x => (m (txt x)).getD noP
set_option maxRecDepth 100000 in
set_option maxHeartbeats 4000000 in
theorem list_c {w : World} {t bm cnt : Nat} {nb : Int → Option Nat} {ms : Int → ByteArray → Option Pr} {ns : Int → Nat} (h : TabH w t bm nb cnt ms ns) {i : Int} (hi : I64 i) {b : Nat} (hnb : nb i = some b) (hn : ns i ≤ 1048576)
    (hq : ∀ s, ((ms i s).getD noP).name.size ≤ 281474976710656 ∧ ((ms i s).getD noP).typ.size ≤ 281474976710656 ∧ ((ms i s).getD noP).data.size ≤ 281474976710656) :
    Calls Tryd.prog 19 #[tabP t, .int .i64 i] w fun e w' => ∃ v ss, e = .returned v ∧ Names (ms i) ss ∧ ss.length = ns i ∧ OwK encP 27 3 w' w.heap.size v (propsOf (ms i) ss) ∧ Below w.heap.size w w' := by
  obtain ⟨i0, hi0, hz0, hz1, hz2⟩ := info_parts propInfo
  have hof := of_c h hi
  rw [hnb, show mapOf (some b) = Value.map (some b) from rfl] at hof
  obtain ⟨m, hm⟩ : ∃ m, m = ms i := ⟨_, rfl⟩
  obtain ⟨n, hnn⟩ : ∃ n, n = ns i := ⟨_, rfl⟩
  have hin := h.inner i b hi hnb
  rw [← hm, ← hnn] at hin
  rw [← hm] at hq
  rw [← hnn] at hn
  rw [← hm, ← hnn]
  have elen := fun ty => hin.len ty
  have hmk := fun W => make_props n hn W
  have HO := Lib.hid hof
  have HMAP := Lib.hid (fun W (hW : Below w.heap.size w W) => hin.same (hW.block b hin.lt))
  have HQ := Lib.hid hq
  have HN := Lib.hid hn
  clear hof hm hnn hin hq h hi hnb
  go_enter Tryd.func19, Tryd.ntmps19
  go_upto_region 2 with (go_at_call 33; ((with_reducible refine (HO.out).mono ?_); rintro e w1 ⟨rfl, rfl⟩))
  go_upto_region 3 with fail
  have hb2 := (Below.refl w.heap.size w).alloc (Nat.le_refl _) (.cells (madeCells #[.string ByteArray.empty, .string ByteArray.empty, .string ByteArray.empty] (n * 3)) 27)
  have hO2 : OwK encP 27 3 (w.alloc (.cells (madeCells #[.string ByteArray.empty, .string ByteArray.empty, .string ByteArray.empty] (n * 3)) 27)) w.heap.size (.slice (some ⟨w.heap.size, 0, none⟩) 0 n) [] := World.ownsRow_made _ _ _ (Nat.le_refl _) (by unfold maxLen; omega) (by rw [size_madeCells])
  generalize w.alloc (.cells (madeCells #[.string ByteArray.empty, .string ByteArray.empty, .string ByteArray.empty] (n * 3)) 27) = w2 at hb2 hO2 ⊢
  have HB2 := Lib.hid hb2
  have HO2 := Lib.hid hO2
  have HK := Lib.hid (keys_c (some b) w2)
  have HS := Lib.hid (sorted_c (HMAP.out w2 hb2) HN.out)
  clear hb2 hO2 elen hmk
  go_wp2_with (first
    | (go_at_call 37; ((with_reducible refine (HK.out).mono ?_); rintro e w3 ⟨rfl, rfl⟩))
    | (go_at_call 36; ((with_reducible refine (HS.out).mono ?_); rintro e w4 ⟨sv, ss, rfl, hN4, hl4, ho4, hb4⟩); have hx4 : OwK encX 9 1 w4 w.heap.size sv ss := (show OwK encX 9 1 w4 (w2.heap.size + 1) sv ss from by unfold OwK; rw [flatX]; exact ho4).less (Nat.le_trans HB2.out.size (Nat.le_succ _)); obtain ⟨pp, cc, rfl⟩ := OwK.slice hx4; rw [hl4] at hx4 ⊢; have hb24 : Below w2.heap.size w2 w4 := ((Below.refl _ w2).alloc (Nat.le_refl _) (.cells #[.map (some b)] 71)).trans (hb4.mono (Nat.le_succ _)); have HL4 := Lib.hid (show Ls w (.slice pp n cc) ss (.slice (some ⟨w.heap.size, 0, none⟩) 0 n) [] w4 from ⟨hx4, HO2.out.below hb24, hb24.on HB2.out HB2.out.size⟩); have HN4 := Lib.hid (And.intro hN4 hl4); clear hN4 hl4 ho4 hb4 hx4 hb24))
  go_loopw [6, 19] (fun y z wr => ∃ k : Nat, k ≤ n ∧ z = .int .i64 k ∧ Ls w (.slice pp n cc) ss y (propsOf m (ss.take k)) wr) (fun _ z _ => n - (intOf z).toNat)
  case atStart => exact ⟨0, Nat.zero_le _, rfl, HL4.out⟩
  case round =>
    obtain ⟨k, hk, rfl, hG⟩ := hrel
    have HG := Lib.hid hG
    have hk0 : (0 : Int) ≤ (k : Int) := by omega
    by_cases hlt : k < n
    · have hk1 : (k : Int) < (n : Int) := by omega
      obtain ⟨x, hx⟩ : ∃ x, ss[k]? = some x := ⟨_, List.getElem?_eq_getElem (by rw [HN4.out.2]; exact hlt)⟩
      obtain ⟨g, cap, hsv, -, -, hcl, -⟩ := OwK.form encX_len hG.1 (fun e => by rw [e] at hx; cases hx)
      have c0 := hcl k x 0 _ hx rfl
      rw [Nat.mul_one, Nat.add_zero] at c0
      rw [HN4.out.2] at hsv
      injection hsv with e1 e2 e3
      subst e1 e3
      have hxl : (txt x).size ≤ maxLen := by rw [txt_size]; exact ((HN4.out.1.mem x).1 (List.mem_of_getElem? hx)).1
      obtain ⟨s, hs⟩ : ∃ s, s = txt x := ⟨_, rfl⟩
      rw [← hs] at c0 hxl
      have e0 := (HMAP.out _ hG.2.2).look1 hxl
      obtain ⟨q, hqq⟩ : ∃ q, q = (m s).getD noP := ⟨_, rfl⟩
      rw [← hqq] at e0
      have HCP := Lib.hid (copied_c q wr (by rw [hqq]; exact HQ.out s))
      have HPX := Lib.hid (show propsOf m (ss.take (k + 1)) = propsOf m (ss.take k) ++ [q] from by
        unfold propsOf
        rw [take_snoc_get hx, List.map_append, hqq, hs]; rfl)
      have HPL := Lib.hid (show (propsOf m (ss.take k)).length = k from by
        unfold propsOf
        rw [List.length_map, List.length_take, HN4.out.2]; omega)
      clear hqq hs hcl hx hG hxl e2
      go_upto_region 6 with fail
      go_wp2_with (first
        | (go_at_call 35; ((with_reducible refine (HCP.out).mono ?_); rintro e w5 ⟨rfl, hb5⟩); have HL5 := Lib.hid (HG.out.next hb5); clear hb5)
        | (at_builtin; go_loud (refine wpList_append_own_at _ rfl (.tmp 23) (.tmp 28) 43 rfl w.heap.size 27 i0 (.agg #[.string ByteArray.empty, .string ByteArray.empty, .string ByteArray.empty]) 3 48 Tryd.underlying43 hi0 hz0 hz1 hz2 rfl (by decide) _ _ _ rfl (World.ownsRow.alloc HL5.out.2.1 _) ⟨_, 0, none⟩ 1 1 (encP q) rfl rfl (cell_list_at _ _ (encP q) _ rfl) (oneCell_encP q) (by unfold maxLen; have := HPL.out; have := HN.out; omega) (by have := HPL.out; have := HN.out; omega) (by have := HL5.out.2.2.size; simp; omega) ?_; intro v3 w6 ho6 hg6 _ _; have HP := Lib.hid (HL5.out.put ho6 hg6); clear ho6 hg6)))
      go_roundw
      case rel => exact ⟨k + 1, by omega, by go_num, by rw [HPX.out]; exact HP.out⟩
      case measure => simp [intOf]; omega
    · obtain rfl : k = n := by omega
      clear hG
      go_wp2_with fail
      go_ret
      have hh := HG.out
      rw [List.take_of_length_le (Nat.le_of_eq HN4.out.2)] at hh
      exact ⟨_, ss, rfl, HN4.out.1, HN4.out.2, hh.2.1, hh.2.2⟩
end Go.Proofs.YtfflgkbemfichaaDoor
