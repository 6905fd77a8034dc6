/- cons.change: a copy, changed by a closure that is told the way. -/
import Derived.Test.YtjeabkcbaielhaaCoV
namespace Go.Proofs.Ytjeabkcbaielhaa.Co
open Go.RowKit Go.Shelf
/-- Numbers that fit, and not too many kids, anywhere. -/
def fine (x : Con) : Prop := ∀ u y, get x u = some y → y.a.wide ∧ y.ks.length ≤ 100000
theorem wd_get : ∀ {u : List Nat} {x y : Con}, get x u = some y → wd y ≤ wd x := by
  intro u
  induction u with
  | nil => intro x y h; simp only [get] at h; have h := Option.some.inj h; subst h; exact Nat.le_refl _
  | cons i r ih =>
    intro x y h
    obtain ⟨a, ks⟩ := x
    obtain ⟨z, hz, hr⟩ := get_cons h
    have := ih hr
    have := wdL_mem (List.mem_of_getElem? hz)
    simp only [wd]; omega
theorem ht_get : ∀ {u : List Nat} {x y : Con}, get x u = some y → u.length + ht y ≤ ht x := by
  intro u
  induction u with
  | nil => intro x y h; simp only [get] at h; have h := Option.some.inj h; subst h; simp
  | cons i r ih =>
    intro x y h
    obtain ⟨a, ks⟩ := x
    obtain ⟨z, hz, hr⟩ := get_cons h
    have := ih hr
    have := htL_le hz
    simp only [ht, List.length_cons]; omega
theorem wd_len (x : Con) : x.ks.length ≤ wd x := by obtain ⟨a, ks⟩ := x; simp only [wd, Tr.ks_mk]; omega
theorem KV.wides {w : World} {Z : Nat → Prop} : ∀ {u : List Nat} {x y : Con} {v : Value}, KV w Z x.ks v → x.a.wide → get x u = some y → y.a.wide := by
  intro u
  induction u with
  | nil => intro x y v _ hw h; simp only [get] at h; have h := Option.some.inj h; subst h; exact hw
  | cons i r ih =>
    intro x y v hk hw h
    obtain ⟨a, ks⟩ := x
    obtain ⟨z, hz, hr⟩ := get_cons h
    obtain ⟨p, cap, sv, _, _, h1, h2⟩ := hk.out
    obtain ⟨_, _, _, _, _, h3, _⟩ := h1 i z hz
    exact ih (h2 i z hz) h3 hr
theorem KV.fine {w : World} {Z : Nat → Prop} {x : Con} {v : Value} (h : KV w Z x.ks v) (hw : x.a.wide) (hd : wd x ≤ 100000) : fine x := fun u y hy =>
  ⟨h.wides hw hy, by have := wd_get hy; have := wd_len y; omega⟩
/-- What a closure that changes a tree does. -/
def HowC (g : Nat) (cb : Array Value) (K : World → Prop) (F : Con → List Nat → Con × Int) : Prop :=
  ∀ (N : Nat) (w : World) (r : Nat) (t : ATr) (u : List Nat) (j : Nat) (p y : ATr) (v : Value), K w → N ≤ w.heap.size → Root N w r t → WV w (fun _ => True) (u ++ [j]) v → get t u = some p → p.ks[j]? = some y → fine (era t) → (u ++ [j]).length ≤ 1000000 →
    Calls Try.prog g (#[.pointer (some ⟨r, 0, none⟩), v] ++ cb) w fun e w' => e = .returned (.int .i64 (F (era t) (u ++ [j])).2) ∧ Turn (fun b => b ∈ blks (topT r t)) (fun _ => False) w w' ∧ ((F (era t) (u ++ [j])).2 = 0 → ∃ t', Root N w' r t' ∧ era t' = (F (era t) (u ++ [j])).1)
abbrev zeroC : Value := .agg #[.int .i64 0, .int .i64 0, .int .i64 0, .int .i64 0, .slice none 0 0]
/-- What is told: an error, or a tree in memory of its own. -/
def TellR (N : Nat) (r : Con × Int) (e : Ending) (w' : World) : Prop :=
  (r.2 ≠ 0 ∧ e = .returned (.tuple #[zeroC, .int .i64 r.2])) ∨ (r.2 = 0 ∧ ∃ t', Own w' t' ∧ (blks t').Nodup ∧ (∀ b ∈ blks t', N ≤ b) ∧ era t' = r.1 ∧ e = .returned (.tuple #[conV t'.a.d (slA t'), .int .i64 0]))
def zeroT : Con := .mk ⟨0, 0, 0, 0⟩ []
def chgI (x : Con) (c : Int) (F : Con → List Nat → Con × Int) : Con × Int :=
  if treeB x = false then (zeroT, 110) else match (waysOf x [c])[0]? with
    | some (some way) => F x way
    | _ => (zeroT, 6)
theorem eql_nil_slice (w : World) : (binOp BinOp.eql 34 (.slice none 0 0) (.slice none 0 0)).run Try.prog w = .ok (.bool true) w := by kernel_rfl
theorem eql_slice_nil (b : Nat) (n c : Nat) (w : World) : (binOp BinOp.eql 34 (.slice (some ⟨b, 0, none⟩) n c) (.slice none 0 0)).run Try.prog w = .ok (.bool false) w := by kernel_rfl
theorem c5 {w : World} {g : Nat} {T : TypeId} {v0 v1 v2 v3 v4 : Value} (h : Blk w g T #[v0, v1, v2, v3, v4]) :
    (w.cell? ⟨g, 0, none⟩ = some v0 ∧ w.cell? ⟨g, 1, none⟩ = some v1 ∧ w.cell? ⟨g, 2, none⟩ = some v2 ∧ w.cell? ⟨g, 3, none⟩ = some v3 ∧ w.cell? ⟨g, 4, none⟩ = some v4) ∧ (w.frozen? ⟨g, 0, none⟩ = false ∧ w.frozen? ⟨g, 1, none⟩ = false ∧ w.frozen? ⟨g, 2, none⟩ = false ∧ w.frozen? ⟨g, 3, none⟩ = false ∧ w.frozen? ⟨g, 4, none⟩ = false) :=
  ⟨⟨h.at_ (i := 0) rfl, h.at_ (i := 1) rfl, h.at_ (i := 2) rfl, h.at_ (i := 3) rfl, h.at_ (i := 4) rfl⟩, ⟨h.frozen 0, h.frozen 1, h.frozen 2, h.frozen 3, h.frozen 4⟩⟩
/-- A struct stored over another. -/
def st5 (w : World) (g : Nat) (v0 v1 v2 v3 v4 : Value) : World := ((((w.setCell ⟨g, 0, none⟩ v0).setCell ⟨g, 1, none⟩ v1).setCell ⟨g, 2, none⟩ v2).setCell ⟨g, 3, none⟩ v3).setCell ⟨g, 4, none⟩ v4
theorem blk_st5 {w : World} {g : Nat} {T : TypeId} {u0 u1 u2 u3 u4 : Value} (h : Blk w g T #[u0, u1, u2, u3, u4]) (v0 v1 v2 v3 v4 : Value) : Blk (st5 w g v0 v1 v2 v3 v4) g T #[v0, v1, v2, v3, v4] :=
  ((((h.set_ 0 v0).set_ 1 v1).set_ 2 v2).set_ 3 v3).set_ 4 v4
theorem below_st5 {a w : World} {B g : Nat} (h : Below B a w) (hg : B ≤ g) (v0 v1 v2 v3 v4 : Value) : Below B a (st5 w g v0 v1 v2 v3 v4) :=
  ((((h.setCell hg _).setCell hg _).setCell hg _).setCell hg _).setCell hg _
theorem far_st5 (w : World) (g : Nat) (v0 v1 v2 v3 v4 : Value) (b : Nat) (hb : b ≠ g) : (st5 w g v0 v1 v2 v3 v4).heap[b]? = w.heap[b]? := by
  unfold st5
  rw [Below.heap_setCell _ ⟨g, 4, none⟩ _ b hb, Below.heap_setCell _ ⟨g, 3, none⟩ _ b hb, Below.heap_setCell _ ⟨g, 2, none⟩ _ b hb, Below.heap_setCell _ ⟨g, 1, none⟩ _ b hb, Below.heap_setCell _ ⟨g, 0, none⟩ _ b hb]
set_option maxHeartbeats 1000000 in
theorem change_c (x : Con) (sv : Value) (c : Int) (g : Nat) (cb : Array Value) (K : World → Prop) (F : Con → List Nat → Con × Int) (w : World) (hK : KV w (fun b => b < w.heap.size) x.ks sv) (hw : x.a.wide) (hd : ht x ≤ 1000000) (hwd : wd x ≤ 100000)
    (eg : ∀ args w, (callFunc g args).run Try.prog w = .ok (.enter g args) w) (hH : HowC g cb K F) (hKs : ∀ W, Below w.heap.size w W → K W) :
    Calls Try.prog 69 #[conV x.a sv, .int .i64 c, .func (.func g) #[] cb] w fun e w' => TellR w.heap.size (chgI x c F) e w' ∧ Below w.heap.size w w' := by
  have hfine := hK.fine hw hwd
  obtain ⟨p, cap, rfl, hl⟩ := hK.slice
  obtain ⟨n, hn⟩ : ∃ n, n = x.ks.length := ⟨_, rfl⟩
  rw [← hn] at hK ⊢
  obtain ⟨R, hR⟩ : ∃ R, R = fun (e : Ending) (w' : World) => TellR w.heap.size (chgI x c F) e w' ∧ Below w.heap.size w w' := ⟨_, rfl⟩
  have hRe : ∀ e w', R e w' ↔ (TellR w.heap.size (chgI x c F) e w' ∧ Below w.heap.size w w') := by rw [hR]; exact fun _ _ => Iff.rfl
  rw [← hR]
  have HR := Lib.hid hRe
  have hb0 := (((Below.refl w.heap.size w).alloc (Nat.le_refl _) (.cells #[.int .i64 x.a.k, .int .i64 x.a.w, .int .i64 x.a.c, .int .i64 x.a.s, .slice p n cap] 24)).alloc (by simp) (.cells #[.int .i64 0, .int .i64 0, .int .i64 0, .int .i64 0, .slice none 0 0] 24)).alloc (by simp; omega) (.cells #[.int .i64 c] 3)
  have hq1 := ((Blk.new w 24 #[.int .i64 x.a.k, .int .i64 x.a.w, .int .i64 x.a.c, .int .i64 x.a.s, .slice p n cap]).alloc (.cells #[.int .i64 0, .int .i64 0, .int .i64 0, .int .i64 0, .slice none 0 0] 24)).alloc (.cells #[.int .i64 c] 3)
  have hq2 := (Blk.new (w.alloc (.cells #[.int .i64 x.a.k, .int .i64 x.a.w, .int .i64 x.a.c, .int .i64 x.a.s, .slice p n cap] 24)) 24 #[.int .i64 0, .int .i64 0, .int .i64 0, .int .i64 0, .slice none 0 0]).alloc (.cells #[.int .i64 c] 3)
  have hq3 := Blk.new ((w.alloc (.cells #[.int .i64 x.a.k, .int .i64 x.a.w, .int .i64 x.a.c, .int .i64 x.a.s, .slice p n cap] 24)).alloc (.cells #[.int .i64 0, .int .i64 0, .int .i64 0, .int .i64 0, .slice none 0 0] 24)) 3 #[.int .i64 c]
  simp only [World.size_alloc] at hq1 hq2 hq3
  obtain ⟨wB, hwB⟩ : ∃ wB, wB = ((w.alloc (.cells #[.int .i64 x.a.k, .int .i64 x.a.w, .int .i64 x.a.c, .int .i64 x.a.s, .slice p n cap] 24)).alloc (.cells #[.int .i64 0, .int .i64 0, .int .i64 0, .int .i64 0, .slice none 0 0] 24)).alloc (.cells #[.int .i64 c] 3) := ⟨_, rfl⟩
  rw [← hwB] at hb0 hq1 hq2 hq3
  have HF := Lib.hid (find_c (fun b => b < w.heap.size) x (.slice p n cap) [c] (w.heap.size + 1 + 1) wB (hK.next hb0) hw hd (fun b h => by have := hb0.size; omega) (by simp) hq3)
  have HB := Lib.hid hb0
  have HK := Lib.hid hK
  have HQ1 := Lib.hid hq1
  have HQ2 := Lib.hid hq2
  have HKS := Lib.hid hKs
  have HH := Lib.hid hH
  have HFI := Lib.hid hfine
  have HWB := Lib.hid hwB
  have HC := Lib.hid (fun (W : World) (h : Below w.heap.size w W) => copy_c (fun b => b < w.heap.size) x (.slice p n cap) W (hK.same (fun _ h => h) h.size fun b _ hl => h.block b hl) hwd)
  have HWD := Lib.hid hwd
  have HHT := Lib.hid hd
  clear hn hR hRe hb0 hq1 hq2 hq3 hwB hK hw hd hwd hKs hH hfine hl
  go_enter Try.func69, Try.ntmps69
  go_wp2_with fail
  rw [← HWB.out]
  refine HF.out.mono ?_
  rintro e w1 ⟨hb1, ⟨htr, rfl⟩ | ⟨htr, rb, vs, rfl, hrb, hblk, hvl, hvs⟩⟩
  · have HB1 := Lib.hid (HB.out.trans (hb1.mono HB.out.size))
    have HTR := Lib.hid htr
    have hq2 := HQ2.out.next hb1
    have b2 := blk_st5 hq2 (.int .i64 0) (.int .i64 0) (.int .i64 0) (.int .i64 0) (.slice none 0 0)
    have hbl := below_st5 (g := w.heap.size + 1) HB1.out (by omega) (.int .i64 0) (.int .i64 0) (.int .i64 0) (.int .i64 0) (.slice none 0 0)
    obtain ⟨⟨b3, b4, b5, b6, b7⟩, -⟩ := c5 b2
    obtain ⟨w8, hw8⟩ : ∃ w8, w8 = st5 w1 (w.heap.size + 1) (.int .i64 0) (.int .i64 0) (.int .i64 0) (.int .i64 0) (.slice none 0 0) := ⟨_, rfl⟩
    rw [← hw8] at b3 b4 b5 b6 b7 hbl
    have HW8 := Lib.hid hw8
    have HBL := Lib.hid hbl
    obtain ⟨⟨r0, r1, r2, r3, r4⟩, f0, f1, f2, f3, f4⟩ := c5 hq2
    clear b2 hbl hw8 hq2 hb1 htr
    go_wp2_with fail
    rw [show ((((w1.setCell ⟨w.heap.size + 1, 0, none⟩ (.int .i64 0)).setCell ⟨w.heap.size + 1, 1, none⟩ (.int .i64 0)).setCell ⟨w.heap.size + 1, 2, none⟩ (.int .i64 0)).setCell ⟨w.heap.size + 1, 3, none⟩ (.int .i64 0)).setCell ⟨w.heap.size + 1, 4, none⟩ (.slice none 0 0) = w8 from HW8.out.symm]
    refine bodyPost_ret (v := .tuple #[zeroC, .int .i64 110]) (by simp [results, Try.results69, go_sem, b3, b4, b5, b6, b7]) rfl ?_
    refine (HR.out _ _).2 ⟨.inl ?_, HBL.out⟩
    unfold chgI
    rw [if_pos HTR.out]
    exact ⟨by simp, rfl⟩
  · have hlen : (waysOf x [c]).length = 1 := waysOf_len x [c]
    obtain ⟨o, ho⟩ : ∃ o, (waysOf x [c])[0]? = some o := ⟨_, List.getElem?_eq_getElem (by omega)⟩
    obtain ⟨v, hv0, hwo⟩ := hvs 0 o ho
    have HB1 := Lib.hid (HB.out.trans (hb1.mono HB.out.size))
    have HTR := Lib.hid htr
    have HO := Lib.hid ho
    have hq2 := HQ2.out.next hb1
    have hq1 := HQ1.out.next hb1
    have hrbv := hblk.at_ (i := 0) (v := v) (by simpa using hv0)
    cases o with
    | none =>
      obtain rfl : v = .slice none 0 0 := hwo
      have en := eql_nil_slice
      have htr := trivial
      have b2 := blk_st5 hq2 (.int .i64 0) (.int .i64 0) (.int .i64 0) (.int .i64 0) (.slice none 0 0)
      have hbl := below_st5 (g := w.heap.size + 1) HB1.out (by omega) (.int .i64 0) (.int .i64 0) (.int .i64 0) (.int .i64 0) (.slice none 0 0)
      obtain ⟨⟨b3, b4, b5, b6, b7⟩, -⟩ := c5 b2
      obtain ⟨w8, hw8⟩ : ∃ w8, w8 = st5 w1 (w.heap.size + 1) (.int .i64 0) (.int .i64 0) (.int .i64 0) (.int .i64 0) (.slice none 0 0) := ⟨_, rfl⟩
      rw [← hw8] at b3 b4 b5 b6 b7 hbl
      have HW8 := Lib.hid hw8
      have HBL := Lib.hid hbl
      obtain ⟨⟨r0, r1, r2, r3, r4⟩, f0, f1, f2, f3, f4⟩ := c5 hq2
      clear b2 hbl hw8 hq2 hb1 htr hvs hv0 ho hlen hblk hq1
      go_wp2_with fail
      rw [show ((((w1.setCell ⟨w.heap.size + 1, 0, none⟩ (.int .i64 0)).setCell ⟨w.heap.size + 1, 1, none⟩ (.int .i64 0)).setCell ⟨w.heap.size + 1, 2, none⟩ (.int .i64 0)).setCell ⟨w.heap.size + 1, 3, none⟩ (.int .i64 0)).setCell ⟨w.heap.size + 1, 4, none⟩ (.slice none 0 0) = w8 from HW8.out.symm]
      refine bodyPost_ret (v := .tuple #[zeroC, .int .i64 6]) (by simp [results, Try.results69, go_sem, b3, b4, b5, b6, b7]) rfl ?_
      refine (HR.out _ _).2 ⟨.inl ?_, HBL.out⟩
      unfold chgI
      rw [if_neg (by rw [HTR.out]; simp), HO.out]
      exact ⟨by simp, rfl⟩
    | some way =>
      obtain ⟨u, j, p0, y0, rfl, hg1, hg2, -, -, hg3⟩ := waysOf_get htr ho (show [c][0]? = some c from rfl)
      have hwo : WV w1 (fun _ => True) (u ++ [j]) v := hwo
      obtain ⟨q, cc, rfl, -, -, -, -, hcell⟩ := hwo
      obtain ⟨bb, rfl, -⟩ := hcell 0 ((u ++ [j])[0]'(by simp)) (List.getElem?_eq_getElem (by simp))
      obtain ⟨nw, hnw⟩ : ∃ nw, nw = (u ++ [j]).length := ⟨_, rfl⟩
      rw [← hnw] at hrbv hwo hv0
      have HNW := Lib.hid hnw
      have HWO := Lib.hid hwo
      have en := eql_slice_nil bb nw cc
      obtain ⟨⟨x0, x1, x2, x3, x4⟩, -⟩ := c5 hq1
      have HQ11 := Lib.hid hq1
      have HQ21 := Lib.hid hq2
      have HBK := Lib.hid hblk
      have HV0 := Lib.hid hv0
      have hls1 := hq1.lt
      have hnl : (u ++ [j]).length ≤ 1000000 := by have := ht_get hg3; have := HHT.out; omega
      have HNL := Lib.hid hnl
      have HG1 := Lib.hid hg1
      have HG2 := Lib.hid hg2
      clear hcell hnw hwo hq1 hq2 hblk hvs hv0 ho hlen hb1 htr hg1 hg2 hg3 hnl
      go_wp2_with fail
      refine (HC.out w1 HB1.out).mono ?_
      rintro e w2 ⟨t, rfl, het, hot, hnt, hbt, hB2⟩
      obtain ⟨pt, ct, hst⟩ : ∃ pt ct, slA t = .slice pt t.ks.length ct := slV_slice _ _ _
      obtain ⟨nt, hntl⟩ : ∃ nt, nt = t.ks.length := ⟨_, rfl⟩
      rw [← hntl] at hst
      rw [hst]
      obtain ⟨w3, hw3⟩ : ∃ w3, w3 = w2.alloc (.cells #[.int .i64 x.a.k, .int .i64 x.a.w, .int .i64 x.a.c, .int .i64 x.a.s, .slice pt nt ct] 24) := ⟨_, rfl⟩
      have hB23 : Below w2.heap.size w2 w3 := by rw [hw3]; exact (Below.refl _ _).alloc (Nat.le_refl _) _
      have hB13 := hB2.trans (hB23.mono hB2.size)
      have hBw3 := HB1.out.trans (hB13.mono HB1.out.size)
      have had : t.a.d = x.a := by rw [← het, era_a]
      have hroot : Root w1.heap.size w3 w2.heap.size t := by
        have h := Root.made (N := w1.heap.size) hot hnt hbt hB2.size
        rw [had, hst] at h
        rw [hw3]; exact h
      obtain ⟨p1, hp1, hpe⟩ : ∃ p1, get t u = some p1 ∧ era p1 = p0 := by
        have h := HG1.out
        rw [← het, era_get] at h
        cases hg : get t u with
        | none => rw [hg] at h; cases h
        | some p1 => rw [hg] at h; exact ⟨p1, rfl, Option.some.inj h⟩
      obtain ⟨y1, hy1⟩ : ∃ y1, p1.ks[j]? = some y1 := by
        have h := HG2.out
        rw [← hpe, era_ks, List.getElem?_map] at h
        cases hg : p1.ks[j]? with
        | none => rw [hg] at h; cases h
        | some y1 => exact ⟨y1, rfl⟩
      have hnl := HNL.out
      have hhow := HH.out w1.heap.size w3 w2.heap.size t u j p1 y1 _ (HKS.out w3 hBw3) hB13.size hroot (HWO.out.next hB13) hp1 hy1 (by rw [het]; exact HFI.out) hnl
      rw [het] at hhow
      have HHW := Lib.hid hhow
      have HGE := Lib.hid hroot.ge
      have hq23 := HQ21.out.next hB13
      have hrb3 := (HBK.out.next hB2).at_ (i := 0) (v := .slice (some ⟨bb, 0, none⟩) nw cc) (by simpa using HV0.out)
      have HB3 := Lib.hid hBw3
      have HQ23 := Lib.hid hq23
      have HW3 := Lib.hid hw3
      have hls2 : rb < w2.heap.size := (HBK.out.next hB2).lt
      clear hq23 hBw3 hB23 hB13 hroot hhow hp1 hy1 hpe hw3 had hst hntl hnl het hot hnt hbt hB2 x0 x1 x2 x3 x4
      obtain ⟨r, hr⟩ : ∃ r, r = w2.heap.size := ⟨_, rfl⟩
      rw [← hr] at HHW HGE
      obtain ⟨z, hz⟩ : ∃ z, z = F x (u ++ [j]) := ⟨_, rfl⟩
      rw [← hz] at HHW
      have HZ := Lib.hid hz
      clear hz
      have HRR := Lib.hid hr
      clear hr
      go_wp2_with fail
      rw [← HW3.out, ← HRR.out]
      refine HHW.out.mono ?_
      rintro e w4 ⟨rfl, hB4, hok⟩
      have hge : ∀ b ∈ blks (topT r t), w1.heap.size ≤ b := HGE.out
      have HB4 := Lib.hid (show Below w.heap.size w w4 from HB3.out.trans ⟨hB4.os, hB4.tape, hB4.output, hB4.size, fun b hb => hB4.block b (Nat.lt_of_lt_of_le hb HB3.out.size) fun hm => by have h1 := hge b hm; have h2 := HB1.out.size; omega⟩)
      have hq2 : Blk w4 (w.heap.size + 1) 24 #[.int .i64 0, .int .i64 0, .int .i64 0, .int .i64 0, .slice none 0 0] := hB4.blk HQ23.out fun hm => by have h1 := hge _ hm; have h2 := HQ21.out.lt; omega
      clear hB4 hge
      obtain ⟨zt, ze⟩ := z
      by_cases hz0 : ze = 0
      · obtain ⟨t', hr', he'⟩ := hok hz0
        have hh := hr'.held
        obtain ⟨pz, cz, hsz⟩ : ∃ pz cz, slA t' = .slice pz t'.ks.length cz := slV_slice _ _ _
        obtain ⟨nz, hnz⟩ : ∃ nz, nz = t'.ks.length := ⟨_, rfl⟩
        rw [← hnz] at hsz
        obtain ⟨g0, g1, g2, g3, g4⟩ : w4.cell? ⟨r, 0, none⟩ = some (.int .i64 t'.a.d.k) ∧ w4.cell? ⟨r, 1, none⟩ = some (.int .i64 t'.a.d.w) ∧ w4.cell? ⟨r, 2, none⟩ = some (.int .i64 t'.a.d.c) ∧ w4.cell? ⟨r, 3, none⟩ = some (.int .i64 t'.a.d.s) ∧ w4.cell? ⟨r, 4, none⟩ = some (slA t') :=
          ⟨by have := hh.cells 0 _ rfl; simpa using this, by have := hh.cells 1 _ rfl; simpa using this, by have := hh.cells 2 _ rfl; simpa using this, by have := hh.cells 3 _ rfl; simpa using this, by have := hh.cells 4 _ rfl; simpa using this⟩
        rw [hsz] at g4
        have HR' := Lib.hid hr'
        have HE' := Lib.hid he'
        have HSZ := Lib.hid hsz
        have hrn : r ≠ w.heap.size + 1 := fun e => by have h1 := hr'.ge r (by rw [blks_top]; simp); have h2 := HQ21.out.lt; omega
        have HHQ : Hid (∀ b ∈ blks t', b ≠ w.heap.size + 1) := fun b hb e => by have h1 := hr'.ge b (by rw [blks_top]; simp [hb]); have h2 := HQ21.out.lt; omega
        obtain ⟨ta, hta⟩ : ∃ ta, ta = t'.a := ⟨_, rfl⟩
        rw [← hta] at g0 g1 g2 g3
        have HTA := Lib.hid hta
        subst hz0
        clear hok hr' he' hh hsz hnz hta
        have b2 := blk_st5 hq2 (.int .i64 ta.d.k) (.int .i64 ta.d.w) (.int .i64 ta.d.c) (.int .i64 ta.d.s) (.slice pz nz cz)
        have hbl := below_st5 (g := w.heap.size + 1) HB4.out (by omega) (.int .i64 ta.d.k) (.int .i64 ta.d.w) (.int .i64 ta.d.c) (.int .i64 ta.d.s) (.slice pz nz cz)
        have hfar := far_st5 w4 (w.heap.size + 1) (.int .i64 ta.d.k) (.int .i64 ta.d.w) (.int .i64 ta.d.c) (.int .i64 ta.d.s) (.slice pz nz cz)
        obtain ⟨⟨b3, b4, b5, b6, b7⟩, -⟩ := c5 b2
        obtain ⟨w8, hw8⟩ : ∃ w8, w8 = st5 w4 (w.heap.size + 1) (.int .i64 ta.d.k) (.int .i64 ta.d.w) (.int .i64 ta.d.c) (.int .i64 ta.d.s) (.slice pz nz cz) := ⟨_, rfl⟩
        rw [← hw8] at b3 b4 b5 b6 b7 hbl hfar
        have HW8 := Lib.hid hw8
        have HBL := Lib.hid hbl
        have HFAR := Lib.hid hfar
        obtain ⟨⟨r0, r1, r2, r3, r4⟩, f0, f1, f2, f3, f4⟩ := c5 hq2
        clear b2 hbl hw8 hq2 hfar 
        go_wp2_with fail
        rw [show ((((w4.setCell ⟨w.heap.size + 1, 0, none⟩ (.int .i64 ta.d.k)).setCell ⟨w.heap.size + 1, 1, none⟩ (.int .i64 ta.d.w)).setCell ⟨w.heap.size + 1, 2, none⟩ (.int .i64 ta.d.c)).setCell ⟨w.heap.size + 1, 3, none⟩ (.int .i64 ta.d.s)).setCell ⟨w.heap.size + 1, 4, none⟩ (.slice pz nz cz) = w8 from HW8.out.symm]
        refine bodyPost_ret (v := .tuple #[.agg #[.int .i64 ta.d.k, .int .i64 ta.d.w, .int .i64 ta.d.c, .int .i64 ta.d.s, .slice pz nz cz], .int .i64 0]) (by simp [results, Try.results69, go_sem, b3, b4, b5, b6, b7]) rfl ?_
        refine (HR.out _ _).2 ⟨.inr ?_, HBL.out⟩
        have hcg : chgI x c F = (zt, 0) := by unfold chgI; rw [if_neg (by rw [HTR.out]; simp), HO.out]; exact HZ.out.symm
        rw [hcg]
        have ho8 : Own w8 t' := HR'.out.own.2.1.same fun b hb => HFAR.out b (HHQ.out b hb)
        refine ⟨rfl, t', ho8, ?_, fun b hb => ?_, HE'.out, ?_⟩
        · have h := HR'.out.nodup; rw [blks_top, List.nodup_cons] at h; exact h.2
        · exact Nat.le_trans HB1.out.size (HR'.out.ge b (by rw [blks_top]; simp [hb]))
        · rw [HSZ.out, ← HTA.out]
      · have hz1 : (ze == 0) = false := by simpa using hz0
        have b2 := blk_st5 hq2 (.int .i64 0) (.int .i64 0) (.int .i64 0) (.int .i64 0) (.slice none 0 0)
        have hbl := below_st5 (g := w.heap.size + 1) HB4.out (by omega) (.int .i64 0) (.int .i64 0) (.int .i64 0) (.int .i64 0) (.slice none 0 0)
        have hfar := far_st5 w4 (w.heap.size + 1) (.int .i64 0) (.int .i64 0) (.int .i64 0) (.int .i64 0) (.slice none 0 0)
        obtain ⟨⟨b3, b4, b5, b6, b7⟩, -⟩ := c5 b2
        obtain ⟨w8, hw8⟩ : ∃ w8, w8 = st5 w4 (w.heap.size + 1) (.int .i64 0) (.int .i64 0) (.int .i64 0) (.int .i64 0) (.slice none 0 0) := ⟨_, rfl⟩
        rw [← hw8] at b3 b4 b5 b6 b7 hbl hfar
        have HW8 := Lib.hid hw8
        have HBL := Lib.hid hbl
        have HFAR := Lib.hid hfar
        obtain ⟨⟨r0, r1, r2, r3, r4⟩, f0, f1, f2, f3, f4⟩ := c5 hq2
        clear b2 hbl hw8 hq2 hfar hok
        go_wp2_with fail
        rw [show ((((w4.setCell ⟨w.heap.size + 1, 0, none⟩ (.int .i64 0)).setCell ⟨w.heap.size + 1, 1, none⟩ (.int .i64 0)).setCell ⟨w.heap.size + 1, 2, none⟩ (.int .i64 0)).setCell ⟨w.heap.size + 1, 3, none⟩ (.int .i64 0)).setCell ⟨w.heap.size + 1, 4, none⟩ (.slice none 0 0) = w8 from HW8.out.symm]
        refine bodyPost_ret (v := .tuple #[zeroC, .int .i64 ze]) (by simp [results, Try.results69, go_sem, b3, b4, b5, b6, b7]) rfl ?_
        refine (HR.out _ _).2 ⟨.inl ?_, HBL.out⟩
        have hcg : chgI x c F = (zt, ze) := by unfold chgI; rw [if_neg (by rw [HTR.out]; simp), HO.out]; exact HZ.out.symm
        rw [hcg]
        exact ⟨hz0, rfl⟩
end Go.Proofs.Ytjeabkcbaielhaa.Co
