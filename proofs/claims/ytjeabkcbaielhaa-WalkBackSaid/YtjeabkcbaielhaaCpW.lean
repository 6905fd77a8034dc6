/- The document's Put. -/
import Derived.Test.YtjeabkcbaielhaaCpV
namespace Go.Proofs.Ytjeabkcbaielhaa.Co
open Go.RowKit Go.Shelf Go.Maps
theorem KV.lt_ {w : World} {Z : Nat → Prop} {ks : List Con} {v : Value} (h : KV w Z ks v) : KV w (fun b => Z b ∧ b < w.heap.size) ks v := by
  induction h with
  | mk ks p cap sv hl hcp hc hk ih =>
    refine .mk ks p cap sv hl hcp (fun j x hx => ?_) ih
    obtain ⟨b, o, h1, h2, h3, h4, h5⟩ := hc j x hx
    exact ⟨b, o, h1, ⟨h2, h3⟩, h3, h4, h5⟩
set_option maxHeartbeats 2000000 in
theorem Put_c (z : Con) (zv : Value) (hzw : z.a.wide) : ∀ (u : List Nat) (Z : Nat → Prop) (x y : Con) (sv v : Value) (w : World), (∀ b, Z b → b < w.heap.size) → KV w Z x.ks sv → KV w Z z.ks zv → WI w u v → get x u = some y → fine x →
    Calls Try.prog 67 #[conV x.a sv, v, conV z.a zv] w fun e w' => Below w.heap.size w w' ∧ ∃ s', e = .returned (conV (put x u z).a s') ∧ KV w' (fun b => Z b ∨ w.heap.size ≤ b) (put x u z).ks s' := by
  intro u
  induction u with
  | nil =>
    intro Z x y sv v w hZz hK hZ hW hg hfi
    obtain ⟨p, cap, rfl, -⟩ := hK.slice
    obtain ⟨pz, cz, rfl, -⟩ := hZ.slice
    obtain ⟨pw, cw, rfl, -, -⟩ := hW.slice
    obtain ⟨m, hm⟩ : ∃ m, m = x.ks.length := ⟨_, rfl⟩
    obtain ⟨mz, hmz⟩ : ∃ m, m = z.ks.length := ⟨_, rfl⟩
    rw [← hm] at hK ⊢
    rw [← hmz] at hZ ⊢
    show Calls Try.prog 67 #[.agg #[.int .i64 x.a.k, .int .i64 x.a.w, .int .i64 x.a.c, .int .i64 x.a.s, .slice p m cap], .slice pw 0 cw, .agg #[.int .i64 z.a.k, .int .i64 z.a.w, .int .i64 z.a.c, .int .i64 z.a.s, .slice pz mz cz]] w fun e w' => Below w.heap.size w w' ∧ ∃ s', e = .returned (conV z.a s') ∧ KV w' (fun b => Z b ∨ w.heap.size ≤ b) z.ks s'
    obtain ⟨R, hR⟩ : ∃ R, R = fun (e : Ending) (w' : World) => Below w.heap.size w w' ∧ ∃ s', e = .returned (conV z.a s') ∧ KV w' (fun b => Z b ∨ w.heap.size ≤ b) z.ks s' := ⟨_, rfl⟩
    have hRe : ∀ e w', R e w' ↔ (Below w.heap.size w w' ∧ ∃ s', e = .returned (conV z.a s') ∧ KV w' (fun b => Z b ∨ w.heap.size ≤ b) z.ks s') := by rw [hR]; exact fun _ _ => Iff.rfl
    rw [← hR]
    have HR := Lib.hid hRe
    have HZ := Lib.hid hZ
    clear hm hmz hR hRe hK hZ hZz hW hg hfi
    go_enter Try.func67, Try.ntmps67
    go_wp2_with fail
    have hb := (((Below.refl w.heap.size w).alloc (Nat.le_refl _) (.cells #[.int .i64 x.a.k, .int .i64 x.a.w, .int .i64 x.a.c, .int .i64 x.a.s, .slice p m cap] 24)).alloc (by simp) (.cells #[.int .i64 z.a.k, .int .i64 z.a.w, .int .i64 z.a.c, .int .i64 z.a.s, .slice pz mz cz] 24)).alloc (by simp; omega) (.cells #[.int .i64 z.a.k, .int .i64 z.a.w, .int .i64 z.a.c, .int .i64 z.a.s, .slice pz mz cz] 24)
    have hq := Blk.new ((w.alloc (.cells #[.int .i64 x.a.k, .int .i64 x.a.w, .int .i64 x.a.c, .int .i64 x.a.s, .slice p m cap] 24)).alloc (.cells #[.int .i64 z.a.k, .int .i64 z.a.w, .int .i64 z.a.c, .int .i64 z.a.s, .slice pz mz cz] 24)) 24 #[.int .i64 z.a.k, .int .i64 z.a.w, .int .i64 z.a.c, .int .i64 z.a.s, .slice pz mz cz]
    simp only [World.size_alloc] at hq
    obtain ⟨w3, hw3⟩ : ∃ w3, w3 = ((w.alloc (.cells #[.int .i64 x.a.k, .int .i64 x.a.w, .int .i64 x.a.c, .int .i64 x.a.s, .slice p m cap] 24)).alloc (.cells #[.int .i64 z.a.k, .int .i64 z.a.w, .int .i64 z.a.c, .int .i64 z.a.s, .slice pz mz cz] 24)).alloc (.cells #[.int .i64 z.a.k, .int .i64 z.a.w, .int .i64 z.a.c, .int .i64 z.a.s, .slice pz mz cz] 24) := ⟨_, rfl⟩
    rw [← hw3] at hb hq ⊢
    obtain ⟨⟨b0, b1, b2, b3, b4⟩, -⟩ := c5 hq
    exact bodyPost_ret (v := .agg #[.int .i64 z.a.k, .int .i64 z.a.w, .int .i64 z.a.c, .int .i64 z.a.s, .slice pz mz cz]) (by simp [results, Try.results67, go_sem, b0, b1, b2, b3, b4]) rfl ((HR.out _ _).2 ⟨hb, .slice pz mz cz, rfl, (HZ.out.next hb).weak fun _ h => .inl h⟩)
  | cons i r ih =>
    intro Z x y sv v w hZz hK hZ hW hg hfi
    obtain ⟨a, ks⟩ := x
    obtain ⟨k, hk, hgr⟩ := get_cons hg
    obtain ⟨hfa, hfl, hfk⟩ := fine_kids hfi
    have hil := (List.getElem?_eq_some_iff.1 hk).1
    have hK : KV w Z ks sv := hK
    obtain ⟨p, cap, rfl, -⟩ := hK.slice
    obtain ⟨pz, cz, rfl, -⟩ := hZ.slice
    obtain ⟨pw, cw, rfl, hw1, hw2⟩ := hW.slice
    simp only [List.length_cons] at hw1 hw2 hW ⊢
    obtain ⟨m, hm⟩ : ∃ m, m = ks.length := ⟨_, rfl⟩
    obtain ⟨mz, hmz⟩ : ∃ m, m = z.ks.length := ⟨_, rfl⟩
    obtain ⟨n, hn⟩ : ∃ n, n = r.length := ⟨_, rfl⟩
    have hput : put (.mk a ks) (i :: r) z = .mk a (ks.set i (put k r z)) := put_cons hk
    have hset : ks.set i (put k r z) = ks.take i ++ [put k r z] ++ ks.drop (i + 1) := by rw [List.set_eq_take_append_cons_drop, if_pos hil]; simp
    rw [hput]
    simp only [Tr.a_mk, Tr.ks_mk]
    obtain ⟨N, hN⟩ : ∃ N, N = ks.set i (put k r z) := ⟨_, rfl⟩
    rw [← hN]
    rw [← hm] at hK hil ⊢
    rw [← hmz] at hZ ih ⊢
    rw [← hn] at hw1 hw2 hW ⊢
    obtain ⟨R, hR⟩ : ∃ R, R = fun (e : Ending) (w' : World) => Below w.heap.size w w' ∧ ∃ s', e = .returned (conV a s') ∧ KV w' (fun b => Z b ∨ w.heap.size ≤ b) N s' := ⟨_, rfl⟩
    have hRe : ∀ e w', R e w' ↔ (Below w.heap.size w w' ∧ ∃ s', e = .returned (conV a s') ∧ KV w' (fun b => Z b ∨ w.heap.size ≤ b) N s') := by rw [hR]; exact fun _ _ => Iff.rfl
    rw [← hR]
    have HR := Lib.hid hRe
    have HNE := Lib.hid (hN.trans hset)
    have hfz : (put k r z).a.wide := by
      cases r with
      | nil => exact hzw
      | cons j q =>
        obtain ⟨b, l⟩ := k
        obtain ⟨q2, hq2, _⟩ := get_cons hgr
        rw [put_cons hq2]
        exact (hfk _ (List.mem_of_getElem? hk) [] _ rfl).1
    have hw0 := hW.at_ (j := 0) rfl
    obtain ⟨wb, wo, hpw, hwb, cw0⟩ := hw0
    rw [Nat.add_zero] at cw0
    subst hpw
    have hWT := hW.tail
    obtain ⟨pt, hpt⟩ : ∃ pt, (if cw = 1 then (some ⟨wb, wo, none⟩ : Option Addr) else some ⟨wb, wo + 1, none⟩) = pt := ⟨_, rfl⟩
    have hWT : WI w r (.slice pt n (cw - 1)) := by rw [← hpt]; simpa [Addr.add] using hWT
    have h1n : (1 : Int) ≤ (n : Int) + 1 := by omega
    have hkid := hK.kid hk
    obtain ⟨-, kb, ko, ks', hpe, -, hkb, -, hkk, c0, c1, c2, c3, c4⟩ := hkid
    obtain ⟨p2, k2, rfl, -⟩ := hkk.slice
    obtain ⟨nk, hnk⟩ : ∃ q, q = k.ks.length := ⟨_, rfl⟩
    rw [← hnk] at hkk c4
    obtain ⟨w3, hw3⟩ : ∃ w3, w3 = ((w.alloc (.cells #[.int .i64 a.k, .int .i64 a.w, .int .i64 a.c, .int .i64 a.s, .slice p m cap] 24)).alloc (.cells #[.int .i64 z.a.k, .int .i64 z.a.w, .int .i64 z.a.c, .int .i64 z.a.s, .slice pz mz cz] 24)).alloc (.cells #[.int .i64 0, .int .i64 0, .int .i64 0, .int .i64 0, .slice none 0 0] 24) := ⟨_, rfl⟩
    have hb3 : Below w.heap.size w w3 := by rw [hw3]; exact (((Below.refl w.heap.size w).alloc (Nat.le_refl _) _).alloc (by simp) _).alloc (by simp; omega) _
    have hq1 : Blk w3 w.heap.size 24 #[.int .i64 a.k, .int .i64 a.w, .int .i64 a.c, .int .i64 a.s, .slice p m cap] := by rw [hw3]; exact ((Blk.new w 24 _).alloc _).alloc _
    have hq2 : Blk w3 (w.heap.size + 1) 24 #[.int .i64 z.a.k, .int .i64 z.a.w, .int .i64 z.a.c, .int .i64 z.a.s, .slice pz mz cz] := by
      rw [hw3]; have := (Blk.new (w.alloc (.cells #[.int .i64 a.k, .int .i64 a.w, .int .i64 a.c, .int .i64 a.s, .slice p m cap] 24)) 24 #[.int .i64 z.a.k, .int .i64 z.a.w, .int .i64 z.a.c, .int .i64 z.a.s, .slice pz mz cz]).alloc (.cells #[.int .i64 0, .int .i64 0, .int .i64 0, .int .i64 0, .slice none 0 0] 24); rwa [World.size_alloc] at this
    have hq3 : Blk w3 (w.heap.size + 1 + 1) 24 #[.int .i64 0, .int .i64 0, .int .i64 0, .int .i64 0, .slice none 0 0] := by
      rw [hw3]; have := Blk.new ((w.alloc (.cells #[.int .i64 a.k, .int .i64 a.w, .int .i64 a.c, .int .i64 a.s, .slice p m cap] 24)).alloc (.cells #[.int .i64 z.a.k, .int .i64 z.a.w, .int .i64 z.a.c, .int .i64 z.a.s, .slice pz mz cz] 24)) 24 #[.int .i64 0, .int .i64 0, .int .i64 0, .int .i64 0, .slice none 0 0]; rwa [World.size_alloc, World.size_alloc] at this
    have HIH := Lib.hid (fun (W : World) (h : Below w.heap.size w W) (vv : Value) (hv : WI W r vv) => ih Z k y (.slice p2 nk k2) vv W (fun b hb => Nat.lt_of_lt_of_le (hZz b hb) h.size) (hkk.next h) (hZ.next h) hv hgr (hfk k (List.mem_of_getElem? hk)))
    have HZZ := Lib.hid hZz
    have HK := Lib.hid hK
    have HWT := Lib.hid hWT
    have HB3 := Lib.hid hb3
    have HQ1 := Lib.hid hq1
    have HQ2 := Lib.hid hq2
    have HQ3 := Lib.hid hq3
    have HW3 := Lib.hid hw3
    have HFZ := Lib.hid hfz
    have HM := Lib.hid hm
    clear hm hmz hn hR hRe hK hZ hZz hW hg hfi hfk ih hgr hk hb3 hq1 hq2 hq3 hw3 hkk hnk hN hset hput hfz hWT
    subst hpe
    show Calls Try.prog 67 #[.agg #[.int .i64 a.k, .int .i64 a.w, .int .i64 a.c, .int .i64 a.s, .slice (some ⟨kb, ko, none⟩) m cap], .slice (some ⟨wb, wo, none⟩) (n + 1) cw, .agg #[.int .i64 z.a.k, .int .i64 z.a.w, .int .i64 z.a.c, .int .i64 z.a.s, .slice pz mz cz]] w R
    go_enter Try.func67, Try.ntmps67
    go_wp2_with fail
    rw [← HW3.out]
    have HS0 : Hid (∀ W, Below w3.heap.size w3 W → (fun wx : World => (wx.cell? ⟨w.heap.size, 0, none⟩ = some (.int .i64 a.k) ∧ wx.cell? ⟨w.heap.size, 1, none⟩ = some (.int .i64 a.w) ∧ wx.cell? ⟨w.heap.size, 2, none⟩ = some (.int .i64 a.c) ∧ wx.cell? ⟨w.heap.size, 3, none⟩ = some (.int .i64 a.s) ∧ wx.cell? ⟨w.heap.size, 4, none⟩ = some (.slice (some ⟨kb, ko, none⟩) m cap)) ∧ (wx.cell? ⟨w.heap.size + 1, 0, none⟩ = some (.int .i64 z.a.k) ∧ wx.cell? ⟨w.heap.size + 1, 1, none⟩ = some (.int .i64 z.a.w) ∧ wx.cell? ⟨w.heap.size + 1, 2, none⟩ = some (.int .i64 z.a.c) ∧ wx.cell? ⟨w.heap.size + 1, 3, none⟩ = some (.int .i64 z.a.s) ∧ wx.cell? ⟨w.heap.size + 1, 4, none⟩ = some (.slice pz mz cz)) ∧ wx.cell? ⟨wb, wo, none⟩ = some (.int .i64 (i : Int)) ∧ (wx.cell? ⟨kb, ko + i * 5, none⟩ = some (.int .i64 k.a.k) ∧ wx.cell? ⟨kb, ko + i * 5 + 1, none⟩ = some (.int .i64 k.a.w) ∧ wx.cell? ⟨kb, ko + i * 5 + 2, none⟩ = some (.int .i64 k.a.c) ∧ wx.cell? ⟨kb, ko + i * 5 + 3, none⟩ = some (.int .i64 k.a.s) ∧ wx.cell? ⟨kb, ko + i * 5 + 4, none⟩ = some (.slice p2 nk k2))) W) := fun W h => ⟨(c5 (HQ1.out.next h)).1, (c5 (HQ2.out.next h)).1, (cell_same (h.block wb (Nat.lt_of_lt_of_le hwb HB3.out.size)) _).trans ((cell_same (HB3.out.block wb hwb) _).trans cw0), cells5 h (Nat.lt_of_lt_of_le hkb HB3.out.size) (cells5 HB3.out hkb ⟨c0, c1, c2, c3, c4⟩)⟩
    have HS1 : Hid (∀ W, Below w3.heap.size w3 W → ∀ v0 v1 v2 v3 v4, (fun wx : World => (wx.cell? ⟨w.heap.size, 0, none⟩ = some (.int .i64 a.k) ∧ wx.cell? ⟨w.heap.size, 1, none⟩ = some (.int .i64 a.w) ∧ wx.cell? ⟨w.heap.size, 2, none⟩ = some (.int .i64 a.c) ∧ wx.cell? ⟨w.heap.size, 3, none⟩ = some (.int .i64 a.s) ∧ wx.cell? ⟨w.heap.size, 4, none⟩ = some (.slice (some ⟨kb, ko, none⟩) m cap)) ∧ (wx.cell? ⟨w.heap.size + 1, 0, none⟩ = some (.int .i64 z.a.k) ∧ wx.cell? ⟨w.heap.size + 1, 1, none⟩ = some (.int .i64 z.a.w) ∧ wx.cell? ⟨w.heap.size + 1, 2, none⟩ = some (.int .i64 z.a.c) ∧ wx.cell? ⟨w.heap.size + 1, 3, none⟩ = some (.int .i64 z.a.s) ∧ wx.cell? ⟨w.heap.size + 1, 4, none⟩ = some (.slice pz mz cz)) ∧ wx.cell? ⟨wb, wo, none⟩ = some (.int .i64 (i : Int)) ∧ (wx.cell? ⟨kb, ko + i * 5, none⟩ = some (.int .i64 k.a.k) ∧ wx.cell? ⟨kb, ko + i * 5 + 1, none⟩ = some (.int .i64 k.a.w) ∧ wx.cell? ⟨kb, ko + i * 5 + 2, none⟩ = some (.int .i64 k.a.c) ∧ wx.cell? ⟨kb, ko + i * 5 + 3, none⟩ = some (.int .i64 k.a.s) ∧ wx.cell? ⟨kb, ko + i * 5 + 4, none⟩ = some (.slice p2 nk k2))) (st5 W (w.heap.size + 1 + 1) v0 v1 v2 v3 v4)) := fun W h v0 v1 v2 v3 v4 => by
      have hf := fun b hb => cell_same (far_st5 W (w.heap.size + 1 + 1) v0 v1 v2 v3 v4 b hb)
      have := HS0.out W h
      simp only at this ⊢
      rw [hf w.heap.size (by omega), hf w.heap.size (by omega), hf w.heap.size (by omega), hf w.heap.size (by omega), hf w.heap.size (by omega), hf (w.heap.size + 1) (by omega), hf (w.heap.size + 1) (by omega), hf (w.heap.size + 1) (by omega), hf (w.heap.size + 1) (by omega), hf (w.heap.size + 1) (by omega), hf wb (by omega), hf kb (by omega), hf kb (by omega), hf kb (by omega), hf kb (by omega), hf kb (by omega)]
      exact this
    have HS3 : Hid (w.heap.size + 1 + 1 < w3.heap.size) := HQ3.out.lt
    have HWI : Hid (∀ (W : World) (g : Nat) (s : Value), Below w3.heap.size w3 W → Blk W g 24 #[.int .i64 (put k r z).a.k, .int .i64 (put k r z).a.w, .int .i64 (put k r z).a.c, .int .i64 (put k r z).a.s, s] → w3.heap.size ≤ g → KV W (fun b => Z b ∨ w3.heap.size ≤ b) (put k r z).ks s → Calls Try.prog 68 #[.agg #[.int .i64 a.k, .int .i64 a.w, .int .i64 a.c, .int .i64 a.s, .slice (some ⟨kb, ko, none⟩) m cap], .int .i64 (i : Int), .int .i64 1, .slice (some ⟨g, 0, none⟩) 1 1] W fun e w' => Below W.heap.size W w' ∧ ∃ s', e = .returned (conV a s') ∧ KV w' (fun b => Z b ∨ w3.heap.size ≤ b) N s') := fun W g s h hq hg hk => by
      refine (With_c (fun b => (Z b ∨ w3.heap.size ≤ b) ∧ b < W.heap.size) (.mk a ks) (.slice (some ⟨kb, ko, none⟩) m cap) (.slice (some ⟨g, 0, none⟩) 1 1) [put k r z] i 1 W (fun _ h => h.2) ((((HK.out.next HB3.out).next h).weak fun b hb => .inl hb).lt_) (KV.single hq ⟨.inr hg, hq.lt⟩ hk.lt_ HFZ.out) (by simp only [Tr.ks_mk]; have := HM.out; omega) (by simp only [Tr.ks_mk, List.length_singleton]; omega)).mono fun e w' h' => ?_
      obtain ⟨h1, s', h2, h3⟩ := h'
      refine ⟨h1, s', h2, ?_⟩
      rw [HNE.out]
      exact h3.weak fun b hb => hb.elim (fun h => h.1) fun h9 => .inr (Nat.le_trans h.size h9)
    refine wp_region_noPanic ?_
    refine wp_region_held_drew (S := fun wx => (wx.cell? ⟨w.heap.size, 0, none⟩ = some (.int .i64 a.k) ∧ wx.cell? ⟨w.heap.size, 1, none⟩ = some (.int .i64 a.w) ∧ wx.cell? ⟨w.heap.size, 2, none⟩ = some (.int .i64 a.c) ∧ wx.cell? ⟨w.heap.size, 3, none⟩ = some (.int .i64 a.s) ∧ wx.cell? ⟨w.heap.size, 4, none⟩ = some (.slice (some ⟨kb, ko, none⟩) m cap)) ∧ (wx.cell? ⟨w.heap.size + 1, 0, none⟩ = some (.int .i64 z.a.k) ∧ wx.cell? ⟨w.heap.size + 1, 1, none⟩ = some (.int .i64 z.a.w) ∧ wx.cell? ⟨w.heap.size + 1, 2, none⟩ = some (.int .i64 z.a.c) ∧ wx.cell? ⟨w.heap.size + 1, 3, none⟩ = some (.int .i64 z.a.s) ∧ wx.cell? ⟨w.heap.size + 1, 4, none⟩ = some (.slice pz mz cz)) ∧ wx.cell? ⟨wb, wo, none⟩ = some (.int .i64 (i : Int)) ∧ (wx.cell? ⟨kb, ko + i * 5, none⟩ = some (.int .i64 k.a.k) ∧ wx.cell? ⟨kb, ko + i * 5 + 1, none⟩ = some (.int .i64 k.a.w) ∧ wx.cell? ⟨kb, ko + i * 5 + 2, none⟩ = some (.int .i64 k.a.c) ∧ wx.cell? ⟨kb, ko + i * 5 + 3, none⟩ = some (.int .i64 k.a.s) ∧ wx.cell? ⟨kb, ko + i * 5 + 4, none⟩ = some (.slice p2 nk k2))) (by kernel_rfl) (by exact HS0.out _ (Below.refl _ _).drew) (fun hHeld => ?_)
    refine wpAnyH_take (i := 0) (v := ?v0) rfl (by kernel_rfl) (by kernel_rfl) (by kernel_rfl) (fun _ _ _ h => h) (Or.inl ⟨by kernel_rfl, ?y0⟩) (by assumption) ?r0
    case y0 => (intro wq hSw; (try dsimp only at hSw); go_simp; (try with_reducible rfl))
    (try simp only [Act.put, List.getElem_toArray, List.getElem_cons_zero, List.setIfInBounds_toArray, List.set_cons_zero, List.set_cons_succ])
    refine wpAnyH_take (i := 1) (v := ?v1) rfl (by kernel_rfl) (by kernel_rfl) (by kernel_rfl) (fun _ _ _ h => h) (Or.inl ⟨by kernel_rfl, ?y1⟩) (by assumption) ?r1
    case y1 => (intro wq hSw; (try dsimp only at hSw); go_simp; (try with_reducible rfl))
    (try simp only [Act.put, List.getElem_toArray, List.getElem_cons_succ, List.getElem_cons_zero, List.setIfInBounds_toArray, List.set_cons_zero, List.set_cons_succ])
    refine wpAnyH_take (i := 2) (v := ?v2) rfl (by kernel_rfl) (by kernel_rfl) (by kernel_rfl) (fun _ _ _ h => h) (Or.inl ⟨by kernel_rfl, ?y2⟩) (by assumption) ?r2
    case y2 => (intro wq hSw; (try dsimp only at hSw); go_simp; (try with_reducible rfl))
    (try simp only [Act.put, List.getElem_toArray, List.getElem_cons_succ, List.getElem_cons_zero, List.setIfInBounds_toArray, List.set_cons_zero, List.set_cons_succ])
    refine wpAnyH_take (i := 3) (v := ?v3) rfl (by kernel_rfl) (by kernel_rfl) (by kernel_rfl) (fun _ _ _ h => h) (Or.inl ⟨by kernel_rfl, ?y3⟩) (by assumption) ?r3
    case y3 => (intro wq hSw; (try dsimp only at hSw); go_simp; (try with_reducible rfl))
    (try simp only [Act.put, List.getElem_toArray, List.getElem_cons_succ, List.getElem_cons_zero, List.setIfInBounds_toArray, List.set_cons_zero, List.set_cons_succ])
    refine wpAnyH_take (i := 4) (v := ?v4) rfl (by kernel_rfl) (by kernel_rfl) (by kernel_rfl) (fun _ _ _ h => h) (Or.inl ⟨by kernel_rfl, ?y4⟩) (by assumption) ?r4
    case y4 => (intro wq hSw; (try dsimp only at hSw); go_simp; (try with_reducible rfl))
    (try simp only [Act.put, List.getElem_toArray, List.getElem_cons_succ, List.getElem_cons_zero, List.setIfInBounds_toArray, List.set_cons_zero, List.set_cons_succ])
    refine wpAnyH_take (i := 5) (v := ?v5) rfl (by kernel_rfl) (by kernel_rfl) (by kernel_rfl) (fun _ _ _ h => h) (Or.inl ⟨by kernel_rfl, ?y5⟩) (by assumption) ?r5
    case y5 => (intro wq hSw; (try dsimp only at hSw); go_simp; (try with_reducible rfl))
    (try simp only [Act.put, List.getElem_toArray, List.getElem_cons_succ, List.getElem_cons_zero, List.setIfInBounds_toArray, List.set_cons_zero, List.set_cons_succ])
    refine wpAnyH_take (i := 6) (v := ?v6) rfl (by kernel_rfl) (by kernel_rfl) (by kernel_rfl) (fun _ _ _ h => h) (Or.inl ⟨by kernel_rfl, ?y6⟩) (by assumption) ?r6
    case y6 => (intro wq hSw; (try dsimp only at hSw); go_simp; (try with_reducible rfl))
    (try simp only [Act.put, List.getElem_toArray, List.getElem_cons_succ, List.getElem_cons_zero, List.setIfInBounds_toArray, List.set_cons_zero, List.set_cons_succ])
    refine wpAnyH_take (i := 7) (v := ?v7) rfl (by kernel_rfl) (by kernel_rfl) (by kernel_rfl) (fun _ _ _ h => h) (Or.inl ⟨by kernel_rfl, ?y7⟩) (by assumption) ?r7
    case y7 => (intro wq hSw; (try dsimp only at hSw); go_simp; (try with_reducible rfl))
    (try simp only [Act.put, List.getElem_toArray, List.getElem_cons_succ, List.getElem_cons_zero, List.setIfInBounds_toArray, List.set_cons_zero, List.set_cons_succ])
    refine wpAnyH_take (i := 8) (v := ?v8) rfl (by kernel_rfl) (by kernel_rfl) (by kernel_rfl) (fun _ _ _ h => h) (Or.inl ⟨by kernel_rfl, ?y8⟩) (by assumption) ?r8
    case y8 => (intro wq hSw; (try dsimp only at hSw); go_simp; (try with_reducible rfl))
    (try simp only [Act.put, List.getElem_toArray, List.getElem_cons_succ, List.getElem_cons_zero, List.setIfInBounds_toArray, List.set_cons_zero, List.set_cons_succ])
    refine wpAnyH_take (i := 9) (v := ?v9) rfl (by kernel_rfl) (by kernel_rfl) (by kernel_rfl) (fun _ _ _ h => h) (Or.inl ⟨by kernel_rfl, ?y9⟩) (by assumption) ?r9
    case y9 => (intro wq hSw; (try dsimp only at hSw); go_simp; (try with_reducible rfl))
    (try simp only [Act.put, List.getElem_toArray, List.getElem_cons_succ, List.getElem_cons_zero, List.setIfInBounds_toArray, List.set_cons_zero, List.set_cons_succ])
    refine wpAnyH_take (i := 10) (v := ?v10) rfl (by kernel_rfl) (by kernel_rfl) (by kernel_rfl) (fun _ _ _ h => h) (Or.inl ⟨by kernel_rfl, ?y10⟩) (by assumption) ?r10
    case y10 => (intro wq hSw; (try dsimp only at hSw); go_simp; (try with_reducible rfl))
    (try simp only [Act.put, List.getElem_toArray, List.getElem_cons_succ, List.getElem_cons_zero, List.setIfInBounds_toArray, List.set_cons_zero, List.set_cons_succ])
    refine wpAnyH_take (i := 11) (v := ?v11) rfl (by kernel_rfl) (by kernel_rfl) (by kernel_rfl) (fun _ _ _ h => h) (Or.inl ⟨by kernel_rfl, ?y11⟩) (by assumption) ?r11
    case y11 => (intro wq hSw; (try dsimp only at hSw); go_simp; (try with_reducible rfl))
    (try simp only [Act.put, List.getElem_toArray, List.getElem_cons_succ, List.getElem_cons_zero, List.setIfInBounds_toArray, List.set_cons_zero, List.set_cons_succ])
    refine wpAnyH_take (i := 12) (v := ?v12) rfl (by kernel_rfl) (by kernel_rfl) (by kernel_rfl) (fun _ _ _ h => h) (Or.inl ⟨by kernel_rfl, ?y12⟩) (by assumption) ?r12
    case y12 => (intro wq hSw; (try dsimp only at hSw); go_simp; (try with_reducible rfl))
    (try simp only [Act.put, List.getElem_toArray, List.getElem_cons_succ, List.getElem_cons_zero, List.setIfInBounds_toArray, List.set_cons_zero, List.set_cons_succ])
    refine wpAnyH_take (i := 13) (v := ?v13) rfl (by kernel_rfl) (by kernel_rfl) (by kernel_rfl) (fun _ _ _ h => h) (Or.inl ⟨by kernel_rfl, ?y13⟩) (by assumption) ?r13
    case y13 => (intro wq hSw; (try dsimp only at hSw); go_simp; (try with_reducible rfl))
    (try simp only [Act.put, List.getElem_toArray, List.getElem_cons_succ, List.getElem_cons_zero, List.setIfInBounds_toArray, List.set_cons_zero, List.set_cons_succ])
    refine wpAnyH_ready (rs := [14]) (by kernel_rfl) (by simp) ?_
    refine AllReadyH.cons rfl (fun K hK => ?_) AllReadyH.nil
    go_simp
    refine (HIH.out _ ((HB3.out).drew) _ (HWT.out.next ((HB3.out).drew))).mono ?_
    rintro e4 w4 ⟨hb4, s4, rfl, hk4⟩; obtain ⟨p4, k4, rfl, -⟩ := hk4.slice; obtain ⟨n4, hn4⟩ : ∃ q, q = (put k r z).ks.length := ⟨_, rfl⟩; rw [← hn4] at hk4 ⊢; have HB4 := Lib.hid (((Below.refl w3.heap.size w3).drew).trans hb4); have HK4 := Lib.hid hk4; clear hb4 hk4 hn4
    (try dsimp only)
    refine hK.out _ _ (by exact HS0.out _ HB4.out) (fun hHeld => ?_)
    clear hK K
    (try simp only [Act.put, List.getElem_toArray, List.getElem_cons_succ, List.getElem_cons_zero, List.setIfInBounds_toArray, List.set_cons_zero, List.set_cons_succ])
    refine wpAnyH_ready (rs := [15]) (by kernel_rfl) (by simp) ?_
    refine AllReadyH.cons rfl (fun K hK => ?_) AllReadyH.nil
    go_simp
    refine hK.out _ _ (by exact HS0.out _ (HB4.out.alloc HB4.out.size _)) (fun hHeld => ?_)
    clear hK K
    (try simp only [Act.put, List.getElem_toArray, List.getElem_cons_succ, List.getElem_cons_zero, List.setIfInBounds_toArray, List.set_cons_zero, List.set_cons_succ])
    refine wpAnyH_ready (rs := [16]) (by kernel_rfl) (by simp) ?_
    refine AllReadyH.cons rfl (fun K hK => ?_) AllReadyH.nil
    go_simp
    refine (HWI.out _ _ _ (HB4.out.alloc HB4.out.size _) (Blk.new _ _ _) HB4.out.size (HK4.out.next ((Below.refl _ _).alloc (Nat.le_refl _) _))).mono ?_
    rintro e5 w5 ⟨hb5, s5, rfl, hk5⟩; obtain ⟨p5, k5, rfl, -⟩ := hk5.slice; obtain ⟨n5, hn5⟩ : ∃ q, q = N.length := ⟨_, rfl⟩; rw [← hn5] at hk5 ⊢; have HB5 := Lib.hid ((HB4.out.alloc HB4.out.size _).trans (hb5.mono (HB4.out.alloc HB4.out.size _).size)); have HK5 := Lib.hid hk5; clear hb5 hk5 hn5; obtain ⟨-, ⟨f0, f1, f2, f3, f4⟩⟩ := c5 (HQ3.out.next HB5.out); obtain ⟨⟨z0, z1, z2, z3, z4⟩, -⟩ := c5 (HQ3.out.next HB5.out)
    (try dsimp only)
    refine hK.out _ _ (by exact HS0.out _ HB5.out) (fun hHeld => ?_)
    clear hK K
    (try simp only [Act.put, List.getElem_toArray, List.getElem_cons_succ, List.getElem_cons_zero, List.setIfInBounds_toArray, List.set_cons_zero, List.set_cons_succ])
    refine wpAnyH_ready (rs := [17]) (by kernel_rfl) (by simp) ?_
    refine AllReadyH.cons rfl (fun K hK => ?_) AllReadyH.nil
    go_simp
    refine hK.out _ _ (by exact HS1.out w5 HB5.out (.int .i64 a.k) (.int .i64 a.w) (.int .i64 a.c) (.int .i64 a.s) (.slice p5 n5 k5)) (fun hHeld => ?_)
    clear hK K
    (try simp only [Act.put, List.getElem_toArray, List.getElem_cons_succ, List.getElem_cons_zero, List.setIfInBounds_toArray, List.set_cons_zero, List.set_cons_succ])
    refine wpAnyH_done (by kernel_rfl) ?_ _
    refine NoPanic.normal ?_
    go_wp2_with fail
    obtain ⟨hb6, hq6, -⟩ := st5_next (HB3.out.trans (HB5.out.mono HB3.out.size)) (by omega) (HQ3.out.next HB5.out) (.int .i64 a.k) (.int .i64 a.w) (.int .i64 a.c) (.int .i64 a.s) (.slice p5 n5 k5)
    have hk6 : KV (st5 w5 (w.heap.size + 1 + 1) (.int .i64 a.k) (.int .i64 a.w) (.int .i64 a.c) (.int .i64 a.s) (.slice p5 n5 k5)) (fun b => Z b ∨ w.heap.size ≤ b) N (.slice p5 n5 k5) := by
      refine HK5.out.same (fun b h => h.imp id fun h => Nat.le_trans HB3.out.size h) (by simp [st5, World.setCell]) fun b hb _ => far_st5 w5 (w.heap.size + 1 + 1) (.int .i64 a.k) (.int .i64 a.w) (.int .i64 a.c) (.int .i64 a.s) (.slice p5 n5 k5) b ?_
      rcases hb with hb | hb
      · have := HZZ.out b hb; omega
      · have := HS3.out; omega
    obtain ⟨w6, hw6⟩ : ∃ w6, w6 = st5 w5 (w.heap.size + 1 + 1) (.int .i64 a.k) (.int .i64 a.w) (.int .i64 a.c) (.int .i64 a.s) (.slice p5 n5 k5) := ⟨_, rfl⟩
    rw [← hw6] at hb6 hq6 hk6
    unfold st5 at hw6
    rw [← hw6]
    obtain ⟨⟨b0, b1, b2, b3, b4⟩, -⟩ := c5 hq6
    exact bodyPost_ret (v := .agg #[.int .i64 a.k, .int .i64 a.w, .int .i64 a.c, .int .i64 a.s, .slice p5 n5 k5]) (by simp [results, Try.results67, go_sem, b0, b1, b2, b3, b4]) rfl ((HR.out _ _).2 ⟨hb6, .slice p5 n5 k5, rfl, hk6⟩)
end Go.Proofs.Ytjeabkcbaielhaa.Co
