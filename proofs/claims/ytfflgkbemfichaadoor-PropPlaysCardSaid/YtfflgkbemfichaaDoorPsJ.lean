/- The document's Set, walked. -/
import Derived.Test.YtfflgkbemfichaaDoorPsI
import Derived.Test.YtfflgkbemfichaaDoorPsD
namespace Go.Proofs.YtfflgkbemfichaaDoor
open Go.RowKit Go.Shelf Go.Maps
theorem one_flatH (l : List Hd) : ∀ q ∈ l.flatMap encH, q.oneCell' = true := fun q hq => by
  obtain ⟨v, -, hv⟩ := List.mem_flatMap.1 hq
  exact oneCell_encH v q hv
theorem flat_set (p : Pr) : ∀ (R : List Hd) (k : Nat) (h : Hd), R[k]? = some h → (((R.flatMap encH).set (k * 4 + 1) (.string p.name)).set (k * 4 + 2) (.string p.typ)).set (k * 4 + 3) (.string p.data) = (R.set k ⟨h.win, p⟩).flatMap encH
  | [], k, h, hx => by simp at hx
  | x :: t, 0, h, hx => by
    simp only [List.getElem?_cons_zero, Option.some.injEq] at hx
    subst hx
    rfl
  | x :: t, k + 1, h, hx => by
    have ih := flat_set p t k h (by simpa using hx)
    rw [List.flatMap_cons, List.set_append_right _ _ (by rw [encH_len]; omega), List.set_append_right _ _ (by rw [encH_len]; omega), List.set_append_right _ _ (by rw [encH_len]; omega), encH_len,
      show (k + 1) * 4 + 1 - 4 = k * 4 + 1 by omega, show (k + 1) * 4 + 2 - 4 = k * 4 + 2 by omega, show (k + 1) * 4 + 3 - 4 = k * 4 + 3 by omega, ih, List.set_cons_succ, List.flatMap_cons]
theorem OH.stored {w : World} {B g n cap k : Nat} {R : List Hd} {h : Hd} (hO : OH w B (.slice (some ⟨g, 0, none⟩) n cap) R) (hn : n = R.length) (hk : R[k]? = some h) (p : Pr) :
    OH (((w.setCell ⟨g, k * 4 + 1, none⟩ (.string p.name)).setCell ⟨g, k * 4 + 1 + 1, none⟩ (.string p.typ)).setCell ⟨g, k * 4 + 1 + 2, none⟩ (.string p.data)) B (.slice (some ⟨g, 0, none⟩) n cap) (R.set k ⟨h.win, p⟩) ∧
    w.grownBy (((w.setCell ⟨g, k * 4 + 1, none⟩ (.string p.name)).setCell ⟨g, k * 4 + 1 + 1, none⟩ (.string p.typ)).setCell ⟨g, k * 4 + 1 + 2, none⟩ (.string p.data)) (some g) := by
  subst hn
  obtain ⟨h1, g1⟩ := World.ownsRow.stored hO (k * 4 + 1) (.string p.name)
  obtain ⟨h2, g2⟩ := World.ownsRow.stored h1 (k * 4 + 2) (.string p.typ)
  obtain ⟨h3, g3⟩ := World.ownsRow.stored h2 (k * 4 + 3) (.string p.data)
  refine ⟨?_, only_trans (only_trans g1 g2) g3⟩
  show World.ownsRow _ B 70 4 _ (R.set k ⟨h.win, p⟩).length _
  rw [List.length_set, ← flat_set p R k h hk]
  exact h3
set_option maxRecDepth 100000 in
set_option maxHeartbeats 4000000 in
theorem rset_badname {w : World} {B : Nat} {v : Value} {L : List Hd} (h : OH w B v L) (hL : L.length ≤ 1048576) (i : Int) (p : Pr) (z1 : p.name.size ≤ 9223372036854775807) (z2 : p.typ.size ≤ 9223372036854775807) (h1 : nameB p.name = false) :
    Calls Tryd.prog 10 #[v, .int .i64 i, prV p] w fun e w' => ∃ v', e = .returned (.tuple #[v', .int .i64 70]) ∧ OH w' B v' (L) ∧ Below w.heap.size w w' := by
  obtain ⟨bt, h2⟩ : ∃ bt, nameB p.typ = bt := ⟨_, rfl⟩
  obtain ⟨pa, c, rfl⟩ := OwK.slice h
  obtain ⟨n, hn⟩ : ∃ n, n = L.length := ⟨_, rfl⟩
  rw [← hn] at h ⊢
  obtain ⟨wb, hwb⟩ : ∃ wb, wb = w.alloc (.cells #[.string p.name, .string p.typ, .string p.data] 27) := ⟨_, rfl⟩
  have hbel : Below w.heap.size w wb := by rw [hwb]; exact (Below.refl _ _).alloc (Nat.le_refl _) _
  have hbx : Blk wb w.heap.size 27 #[.string p.name, .string p.typ, .string p.data] := by rw [hwb]; exact Blk.new w _ _
  have HN1 := Lib.hid (fun W => (show Calls Tryd.prog 22 #[.string p.name] W fun e w' => e = .returned (.bool false) ∧ Below W.heap.size W w' from h1 ▸ rname_c p.name W z1))
  have HN2 := Lib.hid (fun W => (show Calls Tryd.prog 22 #[.string p.typ] W fun e w' => e = .returned (.bool bt) ∧ Below W.heap.size W w' from h2 ▸ rname_c p.typ W z2))
  have HX := Lib.hid hbx
  have HB := Lib.hid hbel
  have HW := Lib.hid hwb
  have HO := Lib.hid (fun W (hW : Below wb.heap.size wb W) => (h.below hbel).below hW)
  have HN := Lib.hid hn
  have HLL := Lib.hid hL
  obtain ⟨⟨x0, x1, x2⟩, -⟩ := hbx.c3
  clear h hn h1 h2 hbel hbx z1 z2 hL
  go_enter Tryd.func10, Tryd.ntmps10
  go_upto_region 1 with fail
  rw [← HW.out]
  clear hwb
  go_wp2_with (go_at_call 22; ((with_reducible refine (HN1.out _).mono ?_); rintro e w2 ⟨rfl, hb2⟩); have HB2 := Lib.hid hb2; clear hb2; clear x0 x1 x2; obtain ⟨⟨x0, x1, x2⟩, -⟩ := (HX.out.next HB2.out).c3)
  refine bodyPost_ret (v := .tuple #[.slice pa n c, .int .i64 70]) (by simp [results, Tryd.results10, go_sem]) rfl ?_
  exact ⟨.slice pa n c, rfl, HO.out _ HB2.out, HB2.out.on HB.out HB.out.size⟩
set_option maxRecDepth 100000 in
set_option maxHeartbeats 4000000 in
theorem rset_badtype {w : World} {B : Nat} {v : Value} {L : List Hd} (h : OH w B v L) (hL : L.length ≤ 1048576) (i : Int) (p : Pr) (z1 : p.name.size ≤ 9223372036854775807) (z2 : p.typ.size ≤ 9223372036854775807) (h1 : nameB p.name = true) (h2 : nameB p.typ = false) :
    Calls Tryd.prog 10 #[v, .int .i64 i, prV p] w fun e w' => ∃ v', e = .returned (.tuple #[v', .int .i64 70]) ∧ OH w' B v' (L) ∧ Below w.heap.size w w' := by
  obtain ⟨pa, c, rfl⟩ := OwK.slice h
  obtain ⟨n, hn⟩ : ∃ n, n = L.length := ⟨_, rfl⟩
  rw [← hn] at h ⊢
  obtain ⟨wb, hwb⟩ : ∃ wb, wb = w.alloc (.cells #[.string p.name, .string p.typ, .string p.data] 27) := ⟨_, rfl⟩
  have hbel : Below w.heap.size w wb := by rw [hwb]; exact (Below.refl _ _).alloc (Nat.le_refl _) _
  have hbx : Blk wb w.heap.size 27 #[.string p.name, .string p.typ, .string p.data] := by rw [hwb]; exact Blk.new w _ _
  have HN1 := Lib.hid (fun W => (show Calls Tryd.prog 22 #[.string p.name] W fun e w' => e = .returned (.bool true) ∧ Below W.heap.size W w' from h1 ▸ rname_c p.name W z1))
  have HN2 := Lib.hid (fun W => (show Calls Tryd.prog 22 #[.string p.typ] W fun e w' => e = .returned (.bool false) ∧ Below W.heap.size W w' from h2 ▸ rname_c p.typ W z2))
  have HX := Lib.hid hbx
  have HB := Lib.hid hbel
  have HW := Lib.hid hwb
  have HO := Lib.hid (fun W (hW : Below wb.heap.size wb W) => (h.below hbel).below hW)
  have HN := Lib.hid hn
  have HLL := Lib.hid hL
  obtain ⟨⟨x0, x1, x2⟩, -⟩ := hbx.c3
  clear h hn h1 h2 hbel hbx z1 z2 hL
  go_enter Tryd.func10, Tryd.ntmps10
  go_upto_region 1 with fail
  rw [← HW.out]
  clear hwb
  go_wp2_with (first
    | (go_at_call 22; ((with_reducible refine (HN1.out _).mono ?_); rintro e w2 ⟨rfl, hb2⟩); have HB2 := Lib.hid hb2; clear hb2; clear x0 x1 x2; obtain ⟨⟨x0, x1, x2⟩, -⟩ := (HX.out.next HB2.out).c3)
    | (go_at_call 22; ((with_reducible refine (HN2.out _).mono ?_); rintro e w3 ⟨rfl, hb3⟩); have HB3 := Lib.hid (hb3.on HB2.out HB2.out.size); clear hb3; clear x0 x1 x2; obtain ⟨⟨x0, x1, x2⟩, -⟩ := (HX.out.next HB3.out).c3))
  refine bodyPost_ret (v := .tuple #[.slice pa n c, .int .i64 70]) (by simp [results, Tryd.results10, go_sem]) rfl ?_
  exact ⟨.slice pa n c, rfl, HO.out _ HB3.out, HB3.out.on HB.out HB.out.size⟩
set_option maxRecDepth 100000 in
set_option maxHeartbeats 4000000 in
theorem rset_long {w : World} {B : Nat} {v : Value} {L : List Hd} (h : OH w B v L) (hL : L.length ≤ 1048576) (i : Int) (p : Pr) (z1 : p.name.size ≤ 9223372036854775807) (z2 : p.typ.size ≤ 9223372036854775807) (h1 : nameB p.name = true) (h2 : nameB p.typ = true) (h3 : 256 < p.data.size) :
    Calls Tryd.prog 10 #[v, .int .i64 i, prV p] w fun e w' => ∃ v', e = .returned (.tuple #[v', .int .i64 71]) ∧ OH w' B v' (L) ∧ Below w.heap.size w w' := by
  have h4 : (256 : Int) < (p.data.size : Int) := by omega
  obtain ⟨pa, c, rfl⟩ := OwK.slice h
  obtain ⟨n, hn⟩ : ∃ n, n = L.length := ⟨_, rfl⟩
  rw [← hn] at h ⊢
  obtain ⟨wb, hwb⟩ : ∃ wb, wb = w.alloc (.cells #[.string p.name, .string p.typ, .string p.data] 27) := ⟨_, rfl⟩
  have hbel : Below w.heap.size w wb := by rw [hwb]; exact (Below.refl _ _).alloc (Nat.le_refl _) _
  have hbx : Blk wb w.heap.size 27 #[.string p.name, .string p.typ, .string p.data] := by rw [hwb]; exact Blk.new w _ _
  have HN1 := Lib.hid (fun W => (show Calls Tryd.prog 22 #[.string p.name] W fun e w' => e = .returned (.bool true) ∧ Below W.heap.size W w' from h1 ▸ rname_c p.name W z1))
  have HN2 := Lib.hid (fun W => (show Calls Tryd.prog 22 #[.string p.typ] W fun e w' => e = .returned (.bool true) ∧ Below W.heap.size W w' from h2 ▸ rname_c p.typ W z2))
  have HX := Lib.hid hbx
  have HB := Lib.hid hbel
  have HW := Lib.hid hwb
  have HO := Lib.hid (fun W (hW : Below wb.heap.size wb W) => (h.below hbel).below hW)
  have HN := Lib.hid hn
  have HLL := Lib.hid hL
  obtain ⟨⟨x0, x1, x2⟩, -⟩ := hbx.c3
  clear h hn h1 h2 h3 hbel hbx z1 z2 hL
  go_enter Tryd.func10, Tryd.ntmps10
  go_upto_region 1 with fail
  rw [← HW.out]
  clear hwb
  go_wp2_with (first
    | (go_at_call 22; ((with_reducible refine (HN1.out _).mono ?_); rintro e w2 ⟨rfl, hb2⟩); have HB2 := Lib.hid hb2; clear hb2; clear x0 x1 x2; obtain ⟨⟨x0, x1, x2⟩, -⟩ := (HX.out.next HB2.out).c3)
    | (go_at_call 22; ((with_reducible refine (HN2.out _).mono ?_); rintro e w3 ⟨rfl, hb3⟩); have HB3 := Lib.hid (hb3.on HB2.out HB2.out.size); clear hb3; clear x0 x1 x2; obtain ⟨⟨x0, x1, x2⟩, -⟩ := (HX.out.next HB3.out).c3))
  refine bodyPost_ret (v := .tuple #[.slice pa n c, .int .i64 71]) (by simp [results, Tryd.results10, go_sem]) rfl ?_
  exact ⟨.slice pa n c, rfl, HO.out _ HB3.out, HB3.out.on HB.out HB.out.size⟩
set_option maxRecDepth 100000 in
set_option maxHeartbeats 4000000 in
theorem rset_has {w : World} {B : Nat} {v : Value} {L : List Hd} (h : OH w B v L) (hL : L.length ≤ 1048576) (i : Int) (p : Pr) (z1 : p.name.size ≤ 9223372036854775807) (z2 : p.typ.size ≤ 9223372036854775807) (h1 : nameB p.name = true) (h2 : nameB p.typ = true) (h3 : p.data.size ≤ 256) {k : Nat} {x : Hd} (hp : placeI L i p.name = (k : Int)) (hk : L[k]? = some x) :
    Calls Tryd.prog 10 #[v, .int .i64 i, prV p] w fun e w' => ∃ v', e = .returned (.tuple #[v', .int .i64 0]) ∧ OH w' w.heap.size v' (L.set k ⟨x.win, p⟩) ∧ Below w.heap.size w w' := by
  obtain ⟨i0, hi0, hz0, hz1, hz2⟩ := info_parts heldInfo
  have h4 : ¬ (256 : Int) < (p.data.size : Int) := by omega
  obtain ⟨pa, c, rfl⟩ := OwK.slice h
  obtain ⟨n, hn⟩ : ∃ n, n = L.length := ⟨_, rfl⟩
  rw [← hn] at h ⊢
  obtain ⟨wb, hwb⟩ : ∃ wb, wb = w.alloc (.cells #[.string p.name, .string p.typ, .string p.data] 27) := ⟨_, rfl⟩
  have hbel : Below w.heap.size w wb := by rw [hwb]; exact (Below.refl _ _).alloc (Nat.le_refl _) _
  have hbx : Blk wb w.heap.size 27 #[.string p.name, .string p.typ, .string p.data] := by rw [hwb]; exact Blk.new w _ _
  have HN1 := Lib.hid (fun W => (show Calls Tryd.prog 22 #[.string p.name] W fun e w' => e = .returned (.bool true) ∧ Below W.heap.size W w' from h1 ▸ rname_c p.name W z1))
  have HN2 := Lib.hid (fun W => (show Calls Tryd.prog 22 #[.string p.typ] W fun e w' => e = .returned (.bool true) ∧ Below W.heap.size W w' from h2 ▸ rname_c p.typ W z2))
  have HX := Lib.hid hbx
  have HB := Lib.hid hbel
  have HW := Lib.hid hwb
  have HO := Lib.hid (fun W (hW : Below wb.heap.size wb W) => (h.below hbel).below hW)
  have HN := Lib.hid hn
  have HLL := Lib.hid hL
  obtain ⟨⟨x0, x1, x2⟩, -⟩ := hbx.c3
  have HPL := Lib.hid (fun W (hW : Below wb.heap.size wb W) => (show Calls Tryd.prog 32 #[.slice pa n c, .int .i64 i, .string p.name] W fun e w' => e = .returned (.int .i64 (k : Int)) ∧ W = w' from hp ▸ place_c (OH.rd ((h.below hbel).below hW)) hL i p.name))
  have HK := Lib.hid hk
  have hk0 : (0 : Int) ≤ (k : Int) := by omega
  have hkn : (k : Int) < (n : Int) := by rw [hn]; have := (List.getElem?_eq_some_iff.1 hk).1; omega
  clear hp hk
  clear h hn h1 h2 h3 hbel hbx z1 z2 hL
  go_enter Tryd.func10, Tryd.ntmps10
  go_upto_region 1 with fail
  rw [← HW.out]
  clear hwb
  go_upto_region 5 with (first
    | (go_at_call 22; ((with_reducible refine (HN1.out _).mono ?_); rintro e w2 ⟨rfl, hb2⟩); have HB2 := Lib.hid hb2; clear hb2; clear x0 x1 x2; obtain ⟨⟨x0, x1, x2⟩, -⟩ := (HX.out.next HB2.out).c3)
    | (go_at_call 22; ((with_reducible refine (HN2.out _).mono ?_); rintro e w3 ⟨rfl, hb3⟩); have HB3 := Lib.hid (hb3.on HB2.out HB2.out.size); clear hb3; clear x0 x1 x2; obtain ⟨⟨x0, x1, x2⟩, -⟩ := (HX.out.next HB3.out).c3))
  go_upto_region 6 with (go_at_call 32; ((with_reducible refine (HPL.out _ HB3.out).mono ?_); rintro e w4 ⟨rfl, rfl⟩))
  have hmd : (w3.alloc (.cells #[] 70)).ownsRow wb.heap.size 70 4 (.slice (some ⟨w3.heap.size, 0, none⟩) 0 0) 0 [] := World.ownsRow_made w3 #[] 0 HB3.out.size (by decide) rfl
  have HMD := Lib.hid hmd
  have HOW := Lib.hid (HO.out _ (HB3.out.alloc HB3.out.size (.cells #[] 70)))
  have HB4 := Lib.hid (HB3.out.alloc HB3.out.size (.cells #[] 70))
  clear hmd
  go_upto_region 7 with (at_builtin; refine list_app rfl (.tmp 31) (.tmp 32) 25 rfl wb.heap.size 70 i0 (.agg #[.int .i64 0, .string ByteArray.empty, .string ByteArray.empty, .string ByteArray.empty]) 4 56 Tryd.underlying25 hi0 hz0 hz1 hz2 rfl (by decide) _ _ _ rfl HMD.out B _ _ _ rfl HOW.out (one_flatH _) (by unfold maxLen; have := HLL.out; omega) (by have := HLL.out; omega) HB4.out.size ?_; intro v5 w5 ho5 hg5; have HO5 := Lib.hid (show OH w5 wb.heap.size v5 L from by have hh := ho5; rw [Nat.zero_add, List.nil_append] at hh; exact hh); have HB5 := Lib.hid (below_only HB4.out hg5 HB4.out.size (fun k hk => (World.ownsRow.lt HMD.out k hk).1)); clear ho5 hg5)
  clear x0 x1 x2
  obtain ⟨⟨x0, x1, x2⟩, -⟩ := (HX.out.next HB5.out).c3
  obtain ⟨g, cap, hv5, hg5, -, hcl, hfr⟩ := OwK.form encH_len HO5.out (fun e => by have := HK.out; rw [e] at this; cases this)
  subst hv5
  rw [← HN.out] at HO5
  rw [← HN.out]
  obtain ⟨hst, hgr⟩ := OH.stored HO5.out HN.out HK.out p
  have HST := Lib.hid hst
  have HBF := Lib.hid (below_only HB5.out hgr HB5.out.size (fun q e => by injection e with e; omega))
  have f1 := hfr (k * 4 + 1)
  have f2 := hfr (k * 4 + 1 + 1)
  have f3 := hfr (k * 4 + 1 + 2)
  have e1 := hcl k x 1 _ HK.out rfl
  have e2 : w5.cell? ⟨g, k * 4 + 1 + 1, none⟩ = some (.string x.p.typ) := hcl k x 2 _ HK.out rfl
  have e3 : w5.cell? ⟨g, k * 4 + 1 + 2, none⟩ = some (.string x.p.data) := hcl k x 3 _ HK.out rfl
  clear hst hgr hfr hg5 hcl
  go_wp2_with fail
  refine bodyPost_ret (v := .tuple #[.slice (some ⟨g, 0, none⟩) n cap, .int .i64 0]) (by simp [results, Tryd.results10, go_sem]) rfl ?_
  exact ⟨_, rfl, OwK.less HST.out HB.out.size, HBF.out.on HB.out HB.out.size⟩
set_option maxRecDepth 100000 in
set_option maxHeartbeats 4000000 in
theorem rset_full {w : World} {B : Nat} {v : Value} {L : List Hd} (h : OH w B v L) (hL : L.length ≤ 1048576) (i : Int) (p : Pr) (z1 : p.name.size ≤ 9223372036854775807) (z2 : p.typ.size ≤ 9223372036854775807) (h1 : nameB p.name = true) (h2 : nameB p.typ = true) (h3 : p.data.size ≤ 256) (hp : placeI L i p.name = -1) (hf : 32 ≤ (listR L i).length) :
    Calls Tryd.prog 10 #[v, .int .i64 i, prV p] w fun e w' => ∃ v', e = .returned (.tuple #[v', .int .i64 2]) ∧ OH w' B v' (L) ∧ Below w.heap.size w w' := by
  obtain ⟨i0, hi0, hz0, hz1, hz2⟩ := info_parts heldInfo
  have h4 : ¬ (256 : Int) < (p.data.size : Int) := by omega
  obtain ⟨pa, c, rfl⟩ := OwK.slice h
  obtain ⟨n, hn⟩ : ∃ n, n = L.length := ⟨_, rfl⟩
  rw [← hn] at h ⊢
  obtain ⟨wb, hwb⟩ : ∃ wb, wb = w.alloc (.cells #[.string p.name, .string p.typ, .string p.data] 27) := ⟨_, rfl⟩
  have hbel : Below w.heap.size w wb := by rw [hwb]; exact (Below.refl _ _).alloc (Nat.le_refl _) _
  have hbx : Blk wb w.heap.size 27 #[.string p.name, .string p.typ, .string p.data] := by rw [hwb]; exact Blk.new w _ _
  have HN1 := Lib.hid (fun W => (show Calls Tryd.prog 22 #[.string p.name] W fun e w' => e = .returned (.bool true) ∧ Below W.heap.size W w' from h1 ▸ rname_c p.name W z1))
  have HN2 := Lib.hid (fun W => (show Calls Tryd.prog 22 #[.string p.typ] W fun e w' => e = .returned (.bool true) ∧ Below W.heap.size W w' from h2 ▸ rname_c p.typ W z2))
  have HX := Lib.hid hbx
  have HB := Lib.hid hbel
  have HW := Lib.hid hwb
  have HO := Lib.hid (fun W (hW : Below wb.heap.size wb W) => (h.below hbel).below hW)
  have HN := Lib.hid hn
  have HLL := Lib.hid hL
  obtain ⟨⟨x0, x1, x2⟩, -⟩ := hbx.c3
  have HPL := Lib.hid (fun W (hW : Below wb.heap.size wb W) => (show Calls Tryd.prog 32 #[.slice pa n c, .int .i64 i, .string p.name] W fun e w' => e = .returned (.int .i64 (-1)) ∧ W = w' from hp ▸ place_c (OH.rd ((h.below hbel).below hW)) hL i p.name))
  have HLI := Lib.hid (fun W (hW : Below wb.heap.size wb W) => rlist_c (OH.rd ((h.below hbel).below hW)) hL i)
  obtain ⟨m, hm⟩ : ∃ m, m = (listR L i).length := ⟨_, rfl⟩
  rw [← hm] at hf
  have HM := Lib.hid hm
  have hm1 : (32 : Int) ≤ (m : Int) := by omega
  clear hp hf hm
  clear h hn h1 h2 h3 hbel hbx z1 z2 hL
  go_enter Tryd.func10, Tryd.ntmps10
  go_upto_region 1 with fail
  rw [← HW.out]
  clear hwb
  go_upto_region 5 with (first
    | (go_at_call 22; ((with_reducible refine (HN1.out _).mono ?_); rintro e w2 ⟨rfl, hb2⟩); have HB2 := Lib.hid hb2; clear hb2; clear x0 x1 x2; obtain ⟨⟨x0, x1, x2⟩, -⟩ := (HX.out.next HB2.out).c3)
    | (go_at_call 22; ((with_reducible refine (HN2.out _).mono ?_); rintro e w3 ⟨rfl, hb3⟩); have HB3 := Lib.hid (hb3.on HB2.out HB2.out.size); clear hb3; clear x0 x1 x2; obtain ⟨⟨x0, x1, x2⟩, -⟩ := (HX.out.next HB3.out).c3))
  go_upto_region 6 with (go_at_call 32; ((with_reducible refine (HPL.out _ HB3.out).mono ?_); rintro e w4 ⟨rfl, rfl⟩))
  have hmd : (w3.alloc (.cells #[] 70)).ownsRow wb.heap.size 70 4 (.slice (some ⟨w3.heap.size, 0, none⟩) 0 0) 0 [] := World.ownsRow_made w3 #[] 0 HB3.out.size (by decide) rfl
  have HMD := Lib.hid hmd
  have HOW := Lib.hid (HO.out _ (HB3.out.alloc HB3.out.size (.cells #[] 70)))
  have HB4 := Lib.hid (HB3.out.alloc HB3.out.size (.cells #[] 70))
  clear hmd
  go_upto_region 7 with (at_builtin; refine list_app rfl (.tmp 31) (.tmp 32) 25 rfl wb.heap.size 70 i0 (.agg #[.int .i64 0, .string ByteArray.empty, .string ByteArray.empty, .string ByteArray.empty]) 4 56 Tryd.underlying25 hi0 hz0 hz1 hz2 rfl (by decide) _ _ _ rfl HMD.out B _ _ _ rfl HOW.out (one_flatH _) (by unfold maxLen; have := HLL.out; omega) (by have := HLL.out; omega) HB4.out.size ?_; intro v5 w5 ho5 hg5; have HO5 := Lib.hid (show OH w5 wb.heap.size v5 L from by have hh := ho5; rw [Nat.zero_add, List.nil_append] at hh; exact hh); have HB5 := Lib.hid (below_only HB4.out hg5 HB4.out.size (fun k hk => (World.ownsRow.lt HMD.out k hk).1)); clear ho5 hg5)
  clear x0 x1 x2
  obtain ⟨⟨x0, x1, x2⟩, -⟩ := (HX.out.next HB5.out).c3
  go_wp2_with (go_at_call 20; ((with_reducible refine (HLI.out _ HB5.out).mono ?_); rintro e w6 ⟨v6, rfl, hl6, hb6⟩); obtain ⟨p6, c6, rfl⟩ := OwK.slice hl6; rw [← HM.out]; have HB6 := Lib.hid (hb6.on HB5.out HB5.out.size); clear hb6 hl6)
  refine bodyPost_ret (v := .tuple #[.slice pa n c, .int .i64 2]) (by simp [results, Tryd.results10, go_sem]) rfl ?_
  exact ⟨.slice pa n c, rfl, HO.out _ HB6.out, HB6.out.on HB.out HB.out.size⟩
set_option maxRecDepth 100000 in
set_option maxHeartbeats 4000000 in
theorem rset_new {w : World} {B : Nat} {v : Value} {L : List Hd} (h : OH w B v L) (hL : L.length ≤ 1048576) (i : Int) (p : Pr) (z1 : p.name.size ≤ 9223372036854775807) (z2 : p.typ.size ≤ 9223372036854775807) (h1 : nameB p.name = true) (h2 : nameB p.typ = true) (h3 : p.data.size ≤ 256) (hp : placeI L i p.name = -1) (hf : (listR L i).length < 32) :
    Calls Tryd.prog 10 #[v, .int .i64 i, prV p] w fun e w' => ∃ v', e = .returned (.tuple #[v', .int .i64 0]) ∧ OH w' w.heap.size v' (L ++ [⟨i, p⟩]) ∧ Below w.heap.size w w' := by
  obtain ⟨i0, hi0, hz0, hz1, hz2⟩ := info_parts heldInfo
  have h4 : ¬ (256 : Int) < (p.data.size : Int) := by omega
  obtain ⟨pa, c, rfl⟩ := OwK.slice h
  obtain ⟨n, hn⟩ : ∃ n, n = L.length := ⟨_, rfl⟩
  rw [← hn] at h ⊢
  obtain ⟨wb, hwb⟩ : ∃ wb, wb = w.alloc (.cells #[.string p.name, .string p.typ, .string p.data] 27) := ⟨_, rfl⟩
  have hbel : Below w.heap.size w wb := by rw [hwb]; exact (Below.refl _ _).alloc (Nat.le_refl _) _
  have hbx : Blk wb w.heap.size 27 #[.string p.name, .string p.typ, .string p.data] := by rw [hwb]; exact Blk.new w _ _
  have HN1 := Lib.hid (fun W => (show Calls Tryd.prog 22 #[.string p.name] W fun e w' => e = .returned (.bool true) ∧ Below W.heap.size W w' from h1 ▸ rname_c p.name W z1))
  have HN2 := Lib.hid (fun W => (show Calls Tryd.prog 22 #[.string p.typ] W fun e w' => e = .returned (.bool true) ∧ Below W.heap.size W w' from h2 ▸ rname_c p.typ W z2))
  have HX := Lib.hid hbx
  have HB := Lib.hid hbel
  have HW := Lib.hid hwb
  have HO := Lib.hid (fun W (hW : Below wb.heap.size wb W) => (h.below hbel).below hW)
  have HN := Lib.hid hn
  have HLL := Lib.hid hL
  obtain ⟨⟨x0, x1, x2⟩, -⟩ := hbx.c3
  have HPL := Lib.hid (fun W (hW : Below wb.heap.size wb W) => (show Calls Tryd.prog 32 #[.slice pa n c, .int .i64 i, .string p.name] W fun e w' => e = .returned (.int .i64 (-1)) ∧ W = w' from hp ▸ place_c (OH.rd ((h.below hbel).below hW)) hL i p.name))
  have HLI := Lib.hid (fun W (hW : Below wb.heap.size wb W) => rlist_c (OH.rd ((h.below hbel).below hW)) hL i)
  obtain ⟨m, hm⟩ : ∃ m, m = (listR L i).length := ⟨_, rfl⟩
  rw [← hm] at hf
  have HM := Lib.hid hm
  have hm1 : ¬ (32 : Int) ≤ (m : Int) := by omega
  clear hp hf hm
  clear h hn h1 h2 h3 hbel hbx z1 z2 hL
  go_enter Tryd.func10, Tryd.ntmps10
  go_upto_region 1 with fail
  rw [← HW.out]
  clear hwb
  go_upto_region 5 with (first
    | (go_at_call 22; ((with_reducible refine (HN1.out _).mono ?_); rintro e w2 ⟨rfl, hb2⟩); have HB2 := Lib.hid hb2; clear hb2; clear x0 x1 x2; obtain ⟨⟨x0, x1, x2⟩, -⟩ := (HX.out.next HB2.out).c3)
    | (go_at_call 22; ((with_reducible refine (HN2.out _).mono ?_); rintro e w3 ⟨rfl, hb3⟩); have HB3 := Lib.hid (hb3.on HB2.out HB2.out.size); clear hb3; clear x0 x1 x2; obtain ⟨⟨x0, x1, x2⟩, -⟩ := (HX.out.next HB3.out).c3))
  go_upto_region 6 with (go_at_call 32; ((with_reducible refine (HPL.out _ HB3.out).mono ?_); rintro e w4 ⟨rfl, rfl⟩))
  have hmd : (w3.alloc (.cells #[] 70)).ownsRow wb.heap.size 70 4 (.slice (some ⟨w3.heap.size, 0, none⟩) 0 0) 0 [] := World.ownsRow_made w3 #[] 0 HB3.out.size (by decide) rfl
  have HMD := Lib.hid hmd
  have HOW := Lib.hid (HO.out _ (HB3.out.alloc HB3.out.size (.cells #[] 70)))
  have HB4 := Lib.hid (HB3.out.alloc HB3.out.size (.cells #[] 70))
  clear hmd
  go_upto_region 7 with (at_builtin; refine list_app rfl (.tmp 31) (.tmp 32) 25 rfl wb.heap.size 70 i0 (.agg #[.int .i64 0, .string ByteArray.empty, .string ByteArray.empty, .string ByteArray.empty]) 4 56 Tryd.underlying25 hi0 hz0 hz1 hz2 rfl (by decide) _ _ _ rfl HMD.out B _ _ _ rfl HOW.out (one_flatH _) (by unfold maxLen; have := HLL.out; omega) (by have := HLL.out; omega) HB4.out.size ?_; intro v5 w5 ho5 hg5; have HO5 := Lib.hid (show OH w5 wb.heap.size v5 L from by have hh := ho5; rw [Nat.zero_add, List.nil_append] at hh; exact hh); have HB5 := Lib.hid (below_only HB4.out hg5 HB4.out.size (fun k hk => (World.ownsRow.lt HMD.out k hk).1)); clear ho5 hg5)
  clear x0 x1 x2
  obtain ⟨⟨x0, x1, x2⟩, -⟩ := (HX.out.next HB5.out).c3
  go_upto_region 12 with (go_at_call 20; ((with_reducible refine (HLI.out _ HB5.out).mono ?_); rintro e w6 ⟨v6, rfl, hl6, hb6⟩); obtain ⟨p6, c6, rfl⟩ := OwK.slice hl6; rw [← HM.out]; have HB6 := Lib.hid (hb6.on HB5.out HB5.out.size); have HB56 := Lib.hid hb6; clear hb6 hl6; have HO6 := Lib.hid (HO5.out.below HB56.out); clear x0 x1 x2; obtain ⟨⟨x0, x1, x2⟩, -⟩ := (HX.out.next HB6.out).c3)
  go_wp2_with (at_builtin; refine wpList_append_own_at _ rfl (.tmp 48) (.tmp 52) 25 rfl wb.heap.size 70 i0 (.agg #[.int .i64 0, .string ByteArray.empty, .string ByteArray.empty, .string ByteArray.empty]) 4 56 Tryd.underlying25 hi0 hz0 hz1 hz2 rfl (by decide) _ _ _ rfl (World.ownsRow.alloc HO6.out _) ⟨_, 0, none⟩ 1 1 (encH ⟨i, p⟩) rfl rfl (cell_list_at _ _ (encH ⟨i, p⟩) _ rfl) (oneCell_encH _) (by unfold maxLen; have := HLL.out; omega) (by have := HLL.out; omega) (by have := HB6.out.size; simp; omega) ?_; intro v7 w7 ho7 hg7 _ _; have HP := Lib.hid ((show GhS wb w6 v5 L from ⟨HO6.out, HB6.out⟩).put (u := ⟨i, p⟩) ho7 hg7); clear ho7 hg7)
  refine bodyPost_ret (v := .tuple #[v7, .int .i64 0]) (by simp [results, Tryd.results10, go_sem]) rfl ?_
  exact ⟨_, rfl, OwK.less HP.out.1 HB.out.size, HP.out.2.on HB.out HB.out.size⟩
end Go.Proofs.YtfflgkbemfichaaDoor
