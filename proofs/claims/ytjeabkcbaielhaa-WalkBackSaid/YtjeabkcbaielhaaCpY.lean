/- The document's Find. -/
import Derived.Test.YtjeabkcbaielhaaCpX
namespace Go.Proofs.Ytjeabkcbaielhaa.Co
open Go.RowKit Go.Shelf Go.Maps
theorem shape_tree_kids {x y : Con} {u : List Nat} (h : treeB x = true) (hy : get x u = some y) : shape y u.length = true ∧ (clients y).Nodup := by
  obtain ⟨h1, h2, _⟩ := tree_parts h
  refine ⟨by have := shape_get h1 hy; rwa [Nat.zero_add] at this, ?_⟩
  have : ∀ (u : List Nat) (x y : Con) (d : Nat), shape x d = true → (clients x).Nodup → get x u = some y → (clients y).Nodup := by
    intro u
    induction u with
    | nil => intro x y d _ hn hy; simp only [get] at hy; have hy := Option.some.inj hy; subst hy; exact hn
    | cons i r ih =>
      intro x y d hs hn hy
      obtain ⟨a, ks⟩ := x
      obtain ⟨z, hz, hr⟩ := get_cons hy
      have hk : a.k ≠ 0 := fun e => by have := shape_leaf hs e; simp only [Tr.ks_mk] at this; rw [this] at hz; cases hz
      exact ih z y (d + 1) (shape_kid hs (List.mem_of_getElem? hz)) (nodup_kid' hk hn (List.mem_of_getElem? hz)) hr
  exact this u x y 0 h1 h2 hy
/-- On the way to a client, its kid is the only one that has it. -/
theorem way_step {x y z : Con} {c : Int} {u : List Nat} {k i : Nat} (h : treeB x = true) (hw : IsWay x c u) (hi : u[k]? = some i) (hy : get x (u.take k) = some y) (hz : y.ks[i]? = some z) :
    y.a.k ≠ 0 ∧ hasB z c = true ∧ ∀ (j : Nat) (q : Con), y.ks[j]? = some q → j ≠ i → hasB q c = false := by
  obtain ⟨v, j0, p, l, rfl, h1, h2, h3, h4, h5⟩ := hw
  obtain ⟨hs, hn⟩ := shape_tree_kids h hy
  obtain ⟨y', g1, g2⟩ := get_take h5 k
  rw [hy] at g1
  have g1 := Option.some.inj g1
  subst g1
  have hd : (v ++ [j0]).drop k = i :: (v ++ [j0]).drop (k + 1) := by
    obtain ⟨hl, rfl⟩ := List.getElem?_eq_some_iff.1 hi
    rw [List.drop_eq_getElem_cons hl]
  rw [hd] at g2
  obtain ⟨a, ks⟩ := y
  obtain ⟨z', hz', hr⟩ := get_cons g2
  have hz : ks[i]? = some z := hz
  rw [hz] at hz'
  have hz' := Option.some.inj hz'
  subst hz'
  have hk : a.k ≠ 0 := fun e => by have := shape_leaf hs e; simp only [Tr.ks_mk] at this; rw [this] at hz; cases hz
  have hc : hasB z c = true := hasB_iff.2 (List.mem_map.2 ⟨l, get_all (shape_kid hs (List.mem_of_getElem? hz)) hr h3, h4⟩)
  exact ⟨hk, hc, others_not hk hn hz hc⟩
theorem all_get_len {x y : Con} {u : List Nat} (hy : get x u = some y) : (all y).length ≤ (all x).length ∨ ∃ k, k < u.length ∧ ∃ q, get x (u.take k) = some q ∧ q.a.k = 0 := by
  induction u generalizing x with
  | nil => simp only [get] at hy; have hy := Option.some.inj hy; subst hy; exact .inl (Nat.le_refl _)
  | cons i r ih =>
    obtain ⟨a, ks⟩ := x
    obtain ⟨z, hz, hr⟩ := get_cons hy
    by_cases hk : a.k = 0
    · exact .inr ⟨0, by simp, _, rfl, hk⟩
    · rcases ih hr with h | ⟨k, h1, q, h2, h3⟩
      · left
        rw [all_kid hk]
        obtain ⟨l1, l2, e⟩ := List.append_of_mem (List.mem_of_getElem? hz)
        rw [e, List.flatMap_append, List.flatMap_cons]; simp; omega
      · exact .inr ⟨k + 1, by simp; omega, q, by rw [List.take_succ_cons, get_consI hz]; exact h2, h3⟩
theorem all_tree_len {x y : Con} {u : List Nat} (h : treeB x = true) (hy : get x u = some y) : (all y).length ≤ 128 := by
  obtain ⟨h1, _, h3⟩ := tree_parts h
  rcases all_get_len hy with h | ⟨k, hk, q, hq, hq0⟩
  · omega
  · have := shape_get h1 hq
    have h9 := shape_leaf this hq0
    obtain ⟨p, e1, e2⟩ := get_take hy k
    rw [hq] at e1; have e1 := Option.some.inj e1; subst e1
    cases hd : u.drop k with
    | nil => have := List.length_drop (i := k) (l := u); rw [hd] at this; simp at this; omega
    | cons j r =>
      rw [hd] at e2
      obtain ⟨a, ks⟩ := q
      obtain ⟨z, hz, _⟩ := get_cons e2
      simp only [Tr.ks_mk] at h9; rw [h9] at hz; cases hz
/-- What is found. -/
def FindD (x : Con) (c : Int) (w : World) (e : Ending) (w' : World) : Prop :=
  Below w.heap.size w w' ∧ ((findI x c = none ∧ e = .returned (.tuple #[.slice none 0 0, .bool false])) ∨ ∃ u v, findI x c = some u ∧ e = .returned (.tuple #[v, .bool true]) ∧ WI w' u v)
set_option maxHeartbeats 2000000 in
theorem FindR_c (Z : Nat → Prop) (x : Con) (sv : Value) (c : Int) (w : World) (hK : KV w Z x.ks sv) (hd : (all x).length ≤ 1000000) (hZ : ∀ b, Z b → b < w.heap.size) :
    Calls Try.prog 25 #[conV x.a sv, .int .i64 c] w (FindD x c w) := by
  obtain ⟨p, cap, rfl, -⟩ := hK.slice
  obtain ⟨m, hm⟩ : ∃ m, m = x.ks.length := ⟨_, rfl⟩
  rw [← hm] at hK ⊢
  obtain ⟨R, hR⟩ : ∃ R, R = FindD x c w := ⟨_, rfl⟩
  have hRe : ∀ e w', R e w' ↔ FindD x c w e w' := by rw [hR]; exact fun _ _ => Iff.rfl
  rw [← hR]
  have HR := Lib.hid hRe
  obtain ⟨wB, hwB⟩ : ∃ wB, wB = w.alloc (.cells #[.int .i64 x.a.k, .int .i64 x.a.w, .int .i64 x.a.c, .int .i64 x.a.s, .slice p m cap] 24) := ⟨_, rfl⟩
  have hb0 : Below w.heap.size w wB := by rw [hwB]; exact (Below.refl w.heap.size w).alloc (Nat.le_refl _) _
  have hq0 : Blk wB w.heap.size 24 #[.int .i64 x.a.k, .int .i64 x.a.w, .int .i64 x.a.c, .int .i64 x.a.s, .slice p m cap] := by rw [hwB]; exact Blk.new _ _ _
  have HS := Lib.hid (CheckR_c Z x (.slice p m cap) wB (hK.next hb0) hd (fun b hb => Nat.lt_of_lt_of_le (hZ b hb) hb0.size))
  have HI := Lib.hid (fun (w1 : World) (h : Below wB.heap.size wB w1) => Has_c Z x (.slice p m cap) c w1 ((hK.next hb0).next h) hd (fun b hb => Nat.lt_of_lt_of_le (Nat.lt_of_lt_of_le (hZ b hb) hb0.size) h.size))
  have HB := Lib.hid hb0
  have HQ := Lib.hid hq0
  have HWB := Lib.hid hwB
  have HSB : Hid (w.heap.size < wB.heap.size) := hq0.lt
  cases ht : treeB x
  · have HT : Hid (findI x c = none) := by show _ = _; unfold findI; rw [if_neg (by rw [ht]; simp)]
    rw [checkI_eq, if_pos ht] at HS
    clear hm hR hRe hb0 hK hZ hd ht hwB hq0 HI
    show Calls Try.prog 25 #[.agg #[.int .i64 x.a.k, .int .i64 x.a.w, .int .i64 x.a.c, .int .i64 x.a.s, .slice p m cap], .int .i64 c] w R
    go_enter Try.func25, Try.ntmps25
    go_wp2_with fail
    rw [← HWB.out]
    refine HS.out.mono ?_
    rintro e w1 ⟨rfl, hb⟩
    have HB1 := Lib.hid (HB.out.trans (hb.mono HB.out.size))
    clear hb
    go_wp2_with fail
    exact (HR.out _ _).2 ⟨HB1.out, .inl ⟨HT.out, rfl⟩⟩
  · rw [checkI_eq, if_neg (by rw [ht]; simp)] at HS
    rcases findI_spec (c := c) ht with ⟨hhb, hfi⟩ | ⟨hhb, u, hw, hfi⟩
    · rw [hhb] at HI
      have HT := Lib.hid hfi
      clear hm hR hRe hb0 hK hZ hd ht hwB hq0 hhb hfi
      show Calls Try.prog 25 #[.agg #[.int .i64 x.a.k, .int .i64 x.a.w, .int .i64 x.a.c, .int .i64 x.a.s, .slice p m cap], .int .i64 c] w R
      go_enter Try.func25, Try.ntmps25
      go_wp2_with fail
      rw [← HWB.out]
      refine HS.out.mono ?_
      rintro e w1 ⟨rfl, hb⟩
      have HB1 := Lib.hid (HB.out.trans (hb.mono HB.out.size))
      have HI1 := Lib.hid (HI.out w1 hb)
      obtain ⟨⟨q0, q1, q2, q3, q4⟩, -⟩ := c5 (HQ.out.next hb)
      clear hb HI
      go_wp2_with fail
      refine HI1.out.mono ?_
      rintro e w2 ⟨rfl, hb⟩
      have HB2 := Lib.hid (HB1.out.trans (hb.mono HB1.out.size))
      clear hb q0 q1 q2 q3 q4
      go_wp2_with fail
      exact (HR.out _ _).2 ⟨HB2.out, .inl ⟨HT.out, rfl⟩⟩
    · rw [hhb] at HI
      have HT := Lib.hid hfi
      have HTR := Lib.hid ht
      have HWY := Lib.hid hw
      have HK := Lib.hid hK
      have HZ := Lib.hid hZ
      obtain ⟨n, hn⟩ : ∃ n, n = u.length := ⟨_, rfl⟩
      have HN := Lib.hid hn
      have HL8 : Hid (n ≤ 8) := by
        show _ ≤ _
        obtain ⟨v, j0, p0, l0, _, _, _, _, _, h6⟩ := hw
        have := (shape_tree_kids ht h6).1
        rw [hn]
        obtain ⟨a, ks⟩ := l0
        simp only [shape, Bool.and_eq_true] at this
        have h7 := this.1
        unfold soundB at h7
        split at h7
        · cases h7
        · rename_i hh; omega
      clear hm hR hRe hb0 hK hZ hd ht hwB hq0 hhb hfi hw hn
      show Calls Try.prog 25 #[.agg #[.int .i64 x.a.k, .int .i64 x.a.w, .int .i64 x.a.c, .int .i64 x.a.s, .slice p m cap], .int .i64 c] w R
      go_enter Try.func25, Try.ntmps25
      go_wp2_with fail
      rw [← HWB.out]
      refine HS.out.mono ?_
      rintro e w1 ⟨rfl, hb⟩
      have HB1 := Lib.hid (HB.out.trans (hb.mono HB.out.size))
      have HI1 := Lib.hid (HI.out w1 hb)
      have HQ1 := Lib.hid (HQ.out.next hb)
      obtain ⟨⟨q0, q1, q2, q3, q4⟩, -⟩ := c5 (HQ.out.next hb)
      clear hb HI HS
      go_wp2_with fail
      refine HI1.out.mono ?_
      rintro e w2 ⟨rfl, hb⟩
      have HB2 := Lib.hid (HB1.out.trans (hb.mono HB1.out.size))
      have hq2 := HQ1.out.next hb
      clear hb q0 q1 q2 q3 q4 HI1 HQ1
      go_wp2_with fail
      go_loopw [6] (fun v wr => ∃ k : Nat, k ≤ n ∧ Below w.heap.size w wr ∧ wr.ownsRow (w.heap.size + 1) 3 1 v k (wayV (u.take k)) ∧ ∃ (y' : Con) (s' : Value), Asd (get x (u.take k) = some y') ∧ KV w Z y'.ks s' ∧ Blk wr w.heap.size 24 #[.int .i64 y'.a.k, .int .i64 y'.a.w, .int .i64 y'.a.c, .int .i64 y'.a.s, s']) (fun v _ => match v with | .slice _ l _ => n - l | _ => 0)
      case atStart => exact ⟨0, Nat.zero_le _, HB2.out, World.ownsRow_nil _ _ _ _, x, .slice p m cap, rfl, HK.out, hq2⟩
      case round =>
        clear hq2 HB2
        obtain ⟨wo, hwo⟩ : ∃ wo, wo = wr := ⟨_, rfl⟩
        subst hwo
        obtain ⟨k, hk, hWr, hrow, y', s', hy', hk', hq⟩ := hrel
        have HY := Lib.hid (show get x (u.take k) = some y' from hy')
        obtain ⟨pr, cr, rfl⟩ := row_slice hrow
        obtain ⟨pk, ck, rfl, -⟩ := hk'.slice
        obtain ⟨mk, hmk⟩ : ∃ q, q = y'.ks.length := ⟨_, rfl⟩
        rw [← hmk] at hk' hq
        clear hy'
        by_cases hlt : k < n
        · obtain ⟨i, hi⟩ : ∃ i, u[k]? = some i := ⟨_, List.getElem?_eq_getElem (by rw [← HN.out]; exact hlt)⟩
          obtain ⟨v0, j0, p0, l0, _, _, _, _, _, h6⟩ := HWY.out
          obtain ⟨y2, z, h1, h2, h3⟩ := get_step h6 hi
          rw [HY.out] at h1
          have h1 := Option.some.inj h1
          subst h1
          obtain ⟨hkk, hzc, hno⟩ := way_step HTR.out HWY.out hi HY.out h2
          have hil : i < mk := by rw [hmk]; exact (List.getElem?_eq_some_iff.1 h2).1
          have hke : (y'.a.k == 0) = false := by simpa using hkk
          have hil64 : i ≤ 1152921504606846976 := by have := hk'.slice; obtain ⟨_, _, e, h⟩ := this; injection e with e1 e2 e3; omega
          obtain ⟨-, kb, ko, s2, rfl, hzb, hb1, -, hk2, c0, c1, c2, c3, c4⟩ := hk'.kid h2
          obtain ⟨p2, k2, rfl, -⟩ := hk2.slice
          obtain ⟨n2, hn2⟩ : ∃ q, q = z.ks.length := ⟨_, rfl⟩
          rw [← hn2] at hk2 c4
          have HCELL : Hid (∀ (j : Nat) (q : Con) (W : World), y'.ks[j]? = some q → Below w.heap.size w W → ∃ sq, KV w Z q.ks sq ∧ (W.cell? ⟨kb, ko + j * 5, none⟩ = some (.int .i64 q.a.k) ∧ W.cell? ⟨kb, ko + j * 5 + 1, none⟩ = some (.int .i64 q.a.w) ∧ W.cell? ⟨kb, ko + j * 5 + 2, none⟩ = some (.int .i64 q.a.c) ∧ W.cell? ⟨kb, ko + j * 5 + 3, none⟩ = some (.int .i64 q.a.s) ∧ W.cell? ⟨kb, ko + j * 5 + 4, none⟩ = some sq)) := fun j q W hj hb => by
            obtain ⟨-, kb', ko', sq, e, _, hb1', -, hq2, d0, d1, d2, d3, d4⟩ := hk'.kid hj
            injection e with e
            injection e with e1 e2
            subst e1 e2
            exact ⟨sq, hq2, cells5 hb hb1' ⟨d0, d1, d2, d3, d4⟩⟩
          have HHAS : Hid (∀ (j : Nat) (q : Con) (sq : Value) (W : World), y'.ks[j]? = some q → Below w.heap.size w W → KV w Z q.ks sq → Calls Try.prog 52 #[conV q.a sq, .int .i64 c] W fun e w' => e = .returned (.bool (decide (j = i))) ∧ Below W.heap.size W w') := fun j q sq W hj hb hkq => by
            have hgq : get x (u.take k ++ [j]) = some q := by
              rw [get_append _ HY.out]; obtain ⟨a, ks⟩ := y'; rw [get_consI (show ks[j]? = some q from hj)]; rfl
            have hval : hasB q c = decide (j = i) := by
              by_cases hji : j = i
              · subst hji; rw [h2] at hj; have hj := Option.some.inj hj; subst hj; simpa using hzc
              · rw [hno j q hj hji]; simpa using hji
            rw [← hval]
            exact Has_c Z q sq c W (hkq.next hb) (Nat.le_trans (all_tree_len HTR.out hgq) (by omega)) (fun b h => Nat.lt_of_lt_of_le (HZ.out b h) hb.size)
          have HSOME : Hid (∀ j, j ≤ i → ∃ q, y'.ks[j]? = some q) := fun j hj => ⟨_, List.getElem?_eq_getElem (by rw [← hmk]; omega)⟩
          have H2 := Lib.hid h2
          have H3 := Lib.hid h3
          have HI9 := Lib.hid hi
          have HWr := Lib.hid hWr
          have HRW := Lib.hid hrow
          have HQr := Lib.hid hq
          have HK2 := Lib.hid hk2
          obtain ⟨⟨q0, q1, q2, q3, q4⟩, -⟩ := c5 hq
          clear hmk hkk hzc hno hk' h2 h3 hi hWr hrow hq hk2 hn2 c0 c1 c2 c3 c4 h6 hzb
          go_wp2_with fail
          go_loopw [7] (fun z wq => ∃ j : Nat, j ≤ i ∧ z = .int .i64 j ∧ Below wo.heap.size wo wq) (fun z _ => i - (intOf z).toNat)
          case atStart => exact ⟨0, Nat.zero_le _, rfl, Below.refl _ _⟩
          case round =>
            clear q0 q1 q2 q3 q4
            obtain ⟨j, hj, rfl, hbq⟩ := hrel
            have hWq := HWr.out.trans (hbq.mono HWr.out.size)
            obtain ⟨q9, hq9⟩ := HSOME.out j hj
            obtain ⟨sq, hkq, c0, c1, c2, c3, c4⟩ := HCELL.out j q9 wr hq9 hWq
            have HH := Lib.hid (HHAS.out j q9 sq wr hq9 hWq hkq)
            obtain ⟨p9, k9, rfl, -⟩ := hkq.slice
            obtain ⟨n9, hn9⟩ : ∃ q, q = q9.ks.length := ⟨_, rfl⟩
            rw [← hn9] at HH c4
            obtain ⟨⟨q0, q1, q2, q3, q4⟩, -⟩ := c5 (HQr.out.next hbq)
            have hjm : j < mk := by omega
            have HBQ := Lib.hid hbq
            have HWQ := Lib.hid hWq
            clear hn9 hkq hbq hWq hq9
            by_cases hji : j = i
            · rw [decide_eq_true hji] at HH
              subst hji
              go_wp2_with fail
              refine HH.out.mono ?_
              rintro e wz ⟨rfl, hb⟩
              have hBz := HBQ.out.trans (hb.mono HBQ.out.size)
              have hWz := HWr.out.trans (hBz.mono HWr.out.size)
              obtain ⟨i0, hi0, hz0, hz1, hz2⟩ := int_info
              obtain ⟨wA, hwA⟩ : ∃ wA, wA = wz.alloc (.cells #[.int .i64 (j : Int)] 3) := ⟨_, rfl⟩
              have hbA : Below wz.heap.size wz wA := by rw [hwA]; exact (Below.refl _ _).alloc (Nat.le_refl _) _
              have hnews : ∀ q v, [Value.int .i64 (j : Int)][q]? = some v → wA.cell? ((⟨wz.heap.size, 0, none⟩ : Addr).add q) = some v := by
                rw [hwA]; exact World.news_of_block (Blk.new wz 3 #[.int .i64 (j : Int)]).raw
              have hbrA := hBz.trans (hbA.mono hBz.size)
              have HO := Lib.hid (row_same' HRW.out fun b hb' => hbrA.block b (HRW.out.lt b hb').2)
              have HWA := Lib.hid hwA
              have HNW := Lib.hid hnews
              have hsA : w.heap.size + 1 ≤ wA.heap.size := Nat.le_trans (HQr.out.lt) hbrA.size
              have HSA := Lib.hid hsA
              have HQA := Lib.hid (HQr.out.next hbrA)
              have HBA := Lib.hid (HWr.out.trans (hbrA.mono HWr.out.size))
              have hk9 : k ≤ 8 := by have := HL8.out; omega
              clear hb hBz hWz hwA hbA hnews hbrA hsA c0 c1 c2 c3 c4 q0 q1 q2 q3 q4 HH
              go_wp2_with (at_builtin; rw [← HWA.out]; (refine wpList_append_lies _ rfl (.tmp 30) (.tmp 32) 34 rfl (w.heap.size + 1) 3 i0 (.int .i64 0) 1 8 Try.underlying34 hi0 hz0 hz1 hz2 rfl (by decide) _ k _ rfl HO.out ⟨_, 0, none⟩ 1 1 [.int .i64 (j : Int)] rfl rfl HNW.out (by simp [Value.oneCell']) (by decide) (by unfold maxLen; omega) (by omega) HSA.out _ rfl ?_; intro g7 cap7 w7 ho7 hg7 hh7 _; have HO7 := Lib.hid ho7; have HG7 : Hid (Below (w.heap.size + 1) wA w7) := ⟨hg7.os, hg7.tape, hg7.output, hg7.size, fun b hb => hg7.block b (Nat.lt_of_lt_of_le hb HSA.out) (fun e => by have := (HO.out.lt b e.symm).1; omega)⟩; have HB7 := Lib.hid (HBA.out.trans (HG7.out.mono (Nat.le_succ _))); have HQ7 := Lib.hid (HQA.out.below HG7.out (Nat.lt_succ_self _)); obtain ⟨⟨q0, q1, q2, q3, q4⟩, ⟨f0, f1, f2, f3, f4⟩⟩ := c5 HQ7.out; obtain ⟨sz, hkz, c0, c1, c2, c3, c4⟩ := HCELL.out j z w7 H2.out HB7.out; obtain ⟨pz, kz, rfl, -⟩ := hkz.slice; obtain ⟨nz, hnz⟩ : ∃ q, q = z.ks.length := ⟨_, rfl⟩; rw [← hnz] at c4 hkz; have HKZ := Lib.hid hkz; clear ho7 hg7 hh7 hkz hnz))
              obtain ⟨hb5, hq5, -⟩ := st5_next HB7.out (Nat.le_refl _) HQ7.out (.int .i64 z.a.k) (.int .i64 z.a.w) (.int .i64 z.a.c) (.int .i64 z.a.s) (.slice pz nz kz)
              have ho5 := row_same' (w' := st5 w7 w.heap.size (.int .i64 z.a.k) (.int .i64 z.a.w) (.int .i64 z.a.c) (.int .i64 z.a.s) (.slice pz nz kz)) HO7.out fun b hb' => far_st5 w7 w.heap.size (.int .i64 z.a.k) (.int .i64 z.a.w) (.int .i64 z.a.c) (.int .i64 z.a.s) (.slice pz nz kz) b (by have := (HO7.out.lt b hb').1; omega)
              obtain ⟨w5, hw5⟩ : ∃ w5, w5 = st5 w7 w.heap.size (.int .i64 z.a.k) (.int .i64 z.a.w) (.int .i64 z.a.c) (.int .i64 z.a.s) (.slice pz nz kz) := ⟨_, rfl⟩
              rw [← hw5] at hb5 hq5 ho5
              unfold st5 at hw5
              rw [← hw5]
              have e : wayV (u.take (k + 1)) = wayV (u.take k) ++ [.int .i64 (j : Int)] := by rw [take_snoc HI9.out]; simp [wayV]
              refine ⟨⟨k + 1, by omega, hb5, ?_, z, .slice pz nz kz, H3.out, HKZ.out, hq5⟩, ?_⟩
              · rw [e]; exact ho5
              · show n - (k + 1) < n - k
                omega
            · rw [decide_eq_false hji] at HH
              go_wp2_with fail
              refine HH.out.mono ?_
              rintro e wz ⟨rfl, hb⟩
              have hBz := HBQ.out.trans (hb.mono HBQ.out.size)
              clear hb
              go_wp2_with fail
              exact ⟨⟨j + 1, by omega, by go_num, hBz⟩, by simp [intOf]; omega⟩
        · have hkn : k = n := by omega
          subst hkn
          obtain ⟨v0, j0, p0, l0, _, _, _, h3, _, h6⟩ := HWY.out
          have hl : y' = l0 := by
            have h := HY.out
            rw [List.take_of_length_le (by have := HN.out; omega), h6] at h
            exact (Option.some.inj h).symm
          subst hl
          have hke : (y'.a.k == 0) = true := by simpa using h3
          have HRW := Lib.hid hrow
          have HWr := Lib.hid hWr
          obtain ⟨⟨q0, q1, q2, q3, q4⟩, -⟩ := c5 hq
          clear hrow hWr hq hk' hmk h3 h6
          go_wp2_with fail
          refine (HR.out _ _).2 ⟨HWr.out, .inr ⟨u, _, HT.out, rfl, ?_⟩⟩
          have h := HRW.out
          rw [List.take_of_length_le (by have := HN.out; omega)] at h
          exact WI.of_row h HN.out (by have := HL8.out; have := HN.out; omega)
end Go.Proofs.Ytjeabkcbaielhaa.Co
