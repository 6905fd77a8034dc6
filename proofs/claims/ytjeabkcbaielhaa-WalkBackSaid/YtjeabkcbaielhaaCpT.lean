/- The document's At; ways and rows of containers, as the document's calls make them. -/
import Derived.Test.YtjeabkcbaielhaaCpS
import Derived.RegionTactic
namespace Go.Proofs.Ytjeabkcbaielhaa.Co
open Go.RowKit Go.Shelf
/-- A way as it reads. -/
def WI (w : World) (u : List Nat) (v : Value) : Prop :=
  ∃ p c, v = .slice p u.length c ∧ u.length ≤ 1000000 ∧ u.length ≤ c ∧ ∀ (j i : Nat), u[j]? = some i → ∃ b o, p = some ⟨b, o, none⟩ ∧ b < w.heap.size ∧ w.cell? ⟨b, o + j, none⟩ = some (.int .i64 (i : Int))
theorem WI.next {w w' : World} {u : List Nat} {v : Value} (h : WI w u v) (hb : Below w.heap.size w w') : WI w' u v := by
  obtain ⟨p, c, h1, h2, h3, h4⟩ := h
  refine ⟨p, c, h1, h2, h3, fun j i hi => ?_⟩
  obtain ⟨b, o, h5, h6, h7⟩ := h4 j i hi
  exact ⟨b, o, h5, Nat.lt_of_lt_of_le h6 hb.size, (cell_same (hb.block b h6) _).trans h7⟩
theorem WI.nil (w : World) : WI w [] (.slice none 0 0) := ⟨none, 0, rfl, by simp, by simp, fun j i h => by simp at h⟩
theorem WI.of_row {w : World} {B n : Nat} {way : List Nat} {v : Value} (h : w.ownsRow B 3 1 v n (wayV way)) (hn : n = way.length) (hm : way.length ≤ 1000000) : WI w way v := by
  subst hn
  rcases Nat.eq_zero_or_pos way.length with h0 | h0
  · have e : way = [] := List.eq_nil_of_length_eq_zero h0
    subst e
    obtain ⟨p, c, hv⟩ := row_slice h
    exact ⟨p, c, hv, by simp, by simp, fun j i h => by simp at h⟩
  · obtain ⟨g, c, hv, h1, h2⟩ := h.form h0
    have hc : way.length ≤ c := by
      rcases h.2 with ⟨h3, h4⟩ | ⟨g', c', cur, h3, _, h5, h4, _⟩
      · omega
      · rw [hv] at h3; obtain ⟨-, -, rfl⟩ := Value.slice.inj h3; exact h4
    subst hv
    refine ⟨_, c, rfl, hm, hc, fun j i hi => ⟨g, 0, rfl, h2, ?_⟩⟩
    have := h.cells (g := g) rfl j (.int .i64 (i : Int)) (by simp [hi])
    rwa [show (⟨g, 0, none⟩ : Addr).add j = ⟨g, 0 + j, none⟩ by unfold Addr.add; split <;> simp_all] at this
theorem WV.wi {w : World} {Y : Nat → Prop} {u : List Nat} {v : Value} (h : WV w Y u v) (hm : u.length ≤ 1000000) : WI w u v := by
  obtain ⟨p, c, h1, h2, h2', h3, h4, h5⟩ := h
  refine ⟨p, c, h1, hm, h2', fun j i hi => ?_⟩
  obtain ⟨b, h6, h7⟩ := h5 j i hi
  obtain ⟨b', e, h8, _⟩ := h4 _ h6
  injection e with e
  subst e
  exact ⟨b, 0, h6, h8, by rw [Nat.zero_add]; exact h7⟩
/-- A way but its last place; but its first. -/
theorem WI.take {w : World} {u : List Nat} {p : Option Addr} {n c k : Nat} (h : WI w u (.slice p n c)) (hk : k ≤ n) : WI w (u.take k) (.slice p k c) := by
  obtain ⟨p', c', h1, h2, h3, h4⟩ := h
  obtain ⟨rfl, rfl, rfl⟩ := Value.slice.inj h1
  have hl : (u.take k).length = k := by simp; omega
  refine ⟨p, c, by rw [hl], by omega, by omega, fun j i hi => ?_⟩
  rw [List.getElem?_take] at hi
  split at hi
  · exact h4 j i hi
  · cases hi
theorem WI.tail {w : World} {i : Nat} {u : List Nat} {p : Option Addr} {n c : Nat} (h : WI w (i :: u) (.slice p n c)) : WI w u (.slice (if c = 1 then p else Option.map (fun a => a.add 1) p) (n - 1) (c - 1)) := by
  obtain ⟨p', c', h1, h2, h3, h4⟩ := h
  obtain ⟨rfl, rfl, rfl⟩ := Value.slice.inj h1
  simp only [List.length_cons] at h2 h3
  refine ⟨_, _, rfl, by omega, by omega, fun j q hq => ?_⟩
  have hj := (List.getElem?_eq_some_iff.1 hq).1
  obtain ⟨b, o, h5, h6, h7⟩ := h4 (j + 1) q (by simpa using hq)
  rw [if_neg (by omega), h5]
  refine ⟨b, o + 1, by simp [Addr.add], h6, ?_⟩
  rwa [show o + 1 + j = o + (j + 1) by omega]
theorem WI.at_ {w : World} {u : List Nat} {p : Option Addr} {n c j i : Nat} (h : WI w u (.slice p n c)) (hi : u[j]? = some i) : ∃ b o, p = some ⟨b, o, none⟩ ∧ b < w.heap.size ∧ w.cell? ⟨b, o + j, none⟩ = some (.int .i64 (i : Int)) := by
  obtain ⟨p', c', h1, h2, h3, h4⟩ := h
  obtain ⟨rfl, rfl, rfl⟩ := Value.slice.inj h1
  exact h4 j i hi
theorem WI.slice {w : World} {u : List Nat} {v : Value} (h : WI w u v) : ∃ p c, v = .slice p u.length c ∧ u.length ≤ 1000000 ∧ u.length ≤ c := by
  obtain ⟨p, c, h1, h2, h3, _⟩ := h; exact ⟨p, c, h1, h2, h3⟩
theorem get_next {x y z : Con} {u : List Nat} {k i : Nat} (h : get x (u.take k) = some y) (hi : u[k]? = some i) (hz : y.ks[i]? = some z) : get x (u.take (k + 1)) = some z := by
  rw [take_snoc hi, get_append _ h]
  obtain ⟨a, ks⟩ := y
  simp only [get]
  rw [show ks[i]? = some z from hz]
theorem get_step {x s : Con} {u : List Nat} {k i : Nat} (hs : get x u = some s) (hi : u[k]? = some i) : ∃ y z, get x (u.take k) = some y ∧ y.ks[i]? = some z ∧ get x (u.take (k + 1)) = some z := by
  obtain ⟨y, h1, h2⟩ := get_take hs k
  have hd : u.drop k = i :: u.drop (k + 1) := by
    obtain ⟨hl, rfl⟩ := List.getElem?_eq_some_iff.1 hi
    rw [List.drop_eq_getElem_cons hl]
  rw [hd] at h2
  obtain ⟨a, ks⟩ := y
  obtain ⟨z, hz, _⟩ := get_cons h2
  exact ⟨_, z, h1, hz, get_next h1 hi hz⟩
/-- A struct stored over another: what is left elsewhere. -/
theorem st5_next {a w : World} {B g : Nat} {u0 u1 u2 u3 u4 : Value} {T : TypeId} (hb : Below B a w) (hg : B ≤ g) (hq : Blk w g T #[u0, u1, u2, u3, u4]) (v0 v1 v2 v3 v4 : Value) :
    Below B a (st5 w g v0 v1 v2 v3 v4) ∧ Blk (st5 w g v0 v1 v2 v3 v4) g T #[v0, v1, v2, v3, v4] ∧ ∀ (b : Nat) (t : TypeId) (cs : Array Value), b ≠ g → Blk w b t cs → Blk (st5 w g v0 v1 v2 v3 v4) b t cs :=
  ⟨below_st5 hb hg v0 v1 v2 v3 v4, blk_st5 hq v0 v1 v2 v3 v4, fun b _ _ hne h => Eq.trans (far_st5 w g v0 v1 v2 v3 v4 b hne) h⟩
set_option maxHeartbeats 1000000 in
theorem At_c (Z : Nat → Prop) (x y : Con) (sv : Value) (way : List Nat) (v : Value) (w : World) (hK : KV w Z x.ks sv) (hZ : ∀ b, Z b → b < w.heap.size) (hW : WI w way v) (hg : get x way = some y) :
    Calls Try.prog 53 #[conV x.a sv, v] w fun e w' => Below w.heap.size w w' ∧ ∃ s', e = .returned (conV y.a s') ∧ KV w' Z y.ks s' := by
  obtain ⟨p, cap, rfl, hl⟩ := hK.slice
  obtain ⟨pw, cw, rfl, hw1, hw2⟩ := hW.slice
  obtain ⟨m, hm⟩ : ∃ m, m = x.ks.length := ⟨_, rfl⟩
  obtain ⟨n, hn⟩ : ∃ n, n = way.length := ⟨_, rfl⟩
  rw [← hm] at hK ⊢
  rw [← hn] at hW hw1 hw2 ⊢
  obtain ⟨R, hR⟩ : ∃ R, R = fun (e : Ending) (w' : World) => Below w.heap.size w w' ∧ ∃ s', e = .returned (conV y.a s') ∧ KV w' Z y.ks s' := ⟨_, rfl⟩
  have hRe : ∀ e w', R e w' ↔ (Below w.heap.size w w' ∧ ∃ s', e = .returned (conV y.a s') ∧ KV w' Z y.ks s') := by rw [hR]; exact fun _ _ => Iff.rfl
  rw [← hR]
  have HR := Lib.hid hRe
  have HN := Lib.hid hn
  have HK := Lib.hid hK
  have HZ := Lib.hid hZ
  have HW := Lib.hid hW
  have HG := Lib.hid hg
  have hB := ((Below.refl w.heap.size w).alloc (Nat.le_refl _) (.cells #[.int .i64 x.a.k, .int .i64 x.a.w, .int .i64 x.a.c, .int .i64 x.a.s, .slice p m cap] 24)).alloc (by simp) (.cells #[.int .i64 0, .int .i64 0, .int .i64 0, .int .i64 0, .slice none 0 0] 24)
  have hQ1 := (Blk.new w 24 #[.int .i64 x.a.k, .int .i64 x.a.w, .int .i64 x.a.c, .int .i64 x.a.s, .slice p m cap]).alloc (.cells #[.int .i64 0, .int .i64 0, .int .i64 0, .int .i64 0, .slice none 0 0] 24)
  have hQ2 := Blk.new (w.alloc (.cells #[.int .i64 x.a.k, .int .i64 x.a.w, .int .i64 x.a.c, .int .i64 x.a.s, .slice p m cap] 24)) 24 #[.int .i64 0, .int .i64 0, .int .i64 0, .int .i64 0, .slice none 0 0]
  rw [World.size_alloc] at hQ2
  clear hm hn hR hRe hK hZ hW hg hl
  show Calls Try.prog 53 #[.agg #[.int .i64 x.a.k, .int .i64 x.a.w, .int .i64 x.a.c, .int .i64 x.a.s, .slice p m cap], .slice pw n cw] w R
  go_enter Try.func53, Try.ntmps53
  go_wp2_with fail
  go_loopw [5] (fun z wr => ∃ k : Nat, k ≤ n ∧ z = .int .i64 k ∧ Below w.heap.size w wr ∧ Blk wr (w.heap.size + 1) 24 #[.int .i64 0, .int .i64 0, .int .i64 0, .int .i64 0, .slice none 0 0] ∧ ∃ (y' : Con) (s' : Value), Asd (get x (way.take k) = some y') ∧ KV w Z y'.ks s' ∧ Blk wr w.heap.size 24 #[.int .i64 y'.a.k, .int .i64 y'.a.w, .int .i64 y'.a.c, .int .i64 y'.a.s, s']) (fun z _ => n - (intOf z).toNat)
  case atStart => exact ⟨0, Nat.zero_le _, rfl, hB, hQ2, x, .slice p m cap, rfl, HK.out, hQ1⟩
  case round =>
    clear hB hQ1 hQ2
    obtain ⟨k, hk, rfl, hWr, hq2, y', s', hy', hk', hq1⟩ := hrel
    have HY := Lib.hid (show get x (way.take k) = some y' from hy')
    clear hy'
    by_cases hlt : k < n
    · obtain ⟨i, hi⟩ : ∃ i, way[k]? = some i := ⟨_, List.getElem?_eq_getElem (by rw [← HN.out]; exact hlt)⟩
      obtain ⟨y2, z, h1, h2, h3⟩ := get_step HG.out hi
      rw [HY.out] at h1
      have h1 := Option.some.inj h1
      subst h1
      obtain ⟨pk, ck, rfl, hlk⟩ := hk'.slice
      obtain ⟨mk, hmk⟩ : ∃ q, q = y'.ks.length := ⟨_, rfl⟩
      rw [← hmk] at hk' hq1 hlk
      have hil : i < mk := by rw [hmk]; exact (List.getElem?_eq_some_iff.1 h2).1
      obtain ⟨-, kb, ko, s2, rfl, hzb, hb1, -, hk2, c0, c1, c2, c3, c4⟩ := hk'.kid h2
      obtain ⟨wb, wo, rfl, hwb, cw1⟩ := HW.out.at_ hi
      have cw2 : wr.cell? ⟨wb, wo + k, none⟩ = some (.int .i64 (i : Int)) := (cell_same (hWr.block wb hwb) _).trans cw1
      have e := fun j => cell_same (hWr.block kb hb1) j
      rw [← e] at c0 c1 c2 c3 c4
      obtain ⟨⟨q0, q1, q2, q3, q4⟩, ⟨f0, f1, f2, f3, f4⟩⟩ := c5 hq1
      obtain ⟨p2, k2, rfl, -⟩ := hk2.slice
      obtain ⟨n2, hn2⟩ : ∃ q, q = z.ks.length := ⟨_, rfl⟩
      rw [← hn2] at hk2 c4
      have H3 := Lib.hid h3
      have HK2 := Lib.hid hk2
      have HWr := Lib.hid hWr
      have HQ1 := Lib.hid hq1
      have HQ2 := Lib.hid hq2
      have hkbn : kb ≠ w.heap.size := by omega
      have hwbn : wb ≠ w.heap.size := by omega
      clear hmk hn2 h2 h3 hk' hk2 hWr hq1 hq2 e cw1
      go_wp2_with fail
      go_region
      go_wp2_with fail
      obtain ⟨hb5, hq5, hf5⟩ := st5_next HWr.out (Nat.le_refl _) HQ1.out (.int .i64 z.a.k) (.int .i64 z.a.w) (.int .i64 z.a.c) (.int .i64 z.a.s) (.slice p2 n2 k2)
      have hr5 := hf5 _ _ _ (by omega) HQ2.out
      clear hf5
      obtain ⟨w5, hw5⟩ : ∃ w5, w5 = st5 wr w.heap.size (.int .i64 z.a.k) (.int .i64 z.a.w) (.int .i64 z.a.c) (.int .i64 z.a.s) (.slice p2 n2 k2) := ⟨_, rfl⟩
      rw [← hw5] at hb5 hq5 hr5
      unfold st5 at hw5
      rw [← hw5]
      exact ⟨⟨k + 1, by omega, by go_num, hb5.drew, hr5.drew, z, .slice p2 n2 k2, H3.out, HK2.out, hq5.drew⟩, by simp [intOf]; omega⟩
    · have hy2 : y' = y := by
        have h := HY.out
        rw [List.take_of_length_le (by have := HN.out; omega), HG.out] at h
        exact (Option.some.inj h).symm
      subst hy2
      obtain ⟨pk, ck, rfl, hlk⟩ := hk'.slice
      obtain ⟨mk, hmk⟩ : ∃ q, q = y'.ks.length := ⟨_, rfl⟩
      rw [← hmk] at hk' hq1 hlk
      obtain ⟨⟨q0, q1, q2, q3, q4⟩, -⟩ := c5 hq1
      obtain ⟨⟨r0, r1, r2, r3, r4⟩, ⟨f0, f1, f2, f3, f4⟩⟩ := c5 hq2
      have HWr := Lib.hid hWr
      have HK2 := Lib.hid hk'
      have HQ2 := Lib.hid hq2
      clear hmk hq1 hq2 hWr hk' hlk
      go_wp2_with fail
      obtain ⟨hb5, hq5, -⟩ := st5_next HWr.out (Nat.le_succ _) HQ2.out (.int .i64 y'.a.k) (.int .i64 y'.a.w) (.int .i64 y'.a.c) (.int .i64 y'.a.s) (.slice pk mk ck)
      obtain ⟨w5, hw5⟩ : ∃ w5, w5 = st5 wr (w.heap.size + 1) (.int .i64 y'.a.k) (.int .i64 y'.a.w) (.int .i64 y'.a.c) (.int .i64 y'.a.s) (.slice pk mk ck) := ⟨_, rfl⟩
      rw [← hw5] at hb5 hq5
      unfold st5 at hw5
      rw [← hw5]
      obtain ⟨⟨b0, b1, b2, b3, b4⟩, -⟩ := c5 hq5
      exact bodyPost_ret (v := .agg #[.int .i64 y'.a.k, .int .i64 y'.a.w, .int .i64 y'.a.c, .int .i64 y'.a.s, .slice pk mk ck]) (by simp [results, Try.results53, go_sem, b0, b1, b2, b3, b4]) rfl ((HR.out _ _).2 ⟨hb5, .slice pk mk ck, rfl, HK2.out.next hb5⟩)
end Go.Proofs.Ytjeabkcbaielhaa.Co
