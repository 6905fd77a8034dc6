/- A copy of a container, in memory of its own: cons.Copy. -/
import Derived.Test.YtjeabkcbaielhaaCoO
namespace Go.Proofs.Ytjeabkcbaielhaa.Co
open Go.RowKit
mutual
/-- How many kids at most, anywhere. -/
def wd : Con → Nat
  | .mk _ ks => max ks.length (wdL ks)
def wdL : List Con → Nat
  | [] => 0
  | x :: r => max (wd x) (wdL r)
end
theorem wdL_mem {ks : List Con} {x : Con} (h : x ∈ ks) : wd x ≤ wdL ks := by
  induction ks with
  | nil => cases h
  | cons y r ih =>
    simp only [wdL]
    rcases List.mem_cons.1 h with e | h
    · subst e; omega
    · have := ih h; omega
theorem conInfo : (Try.prog.info? 24).map (fun i => (i.zero, i.size, i.bytes)) = some (some (.agg #[.int .i64 0, .int .i64 0, .int .i64 0, .int .i64 0, .slice none 0 0]), 5, 56) := by kernel_rfl
theorem con_info : ∃ i, Try.prog.info? 24 = some i ∧ i.zero = some (.agg #[.int .i64 0, .int .i64 0, .int .i64 0, .int .i64 0, .slice none 0 0]) ∧ i.size = 5 ∧ i.bytes = 56 := by
  have h := conInfo
  cases hi : Try.prog.info? 24 with
  | none => rw [hi] at h; cases h
  | some i => rw [hi] at h; simp at h; exact ⟨i, rfl, h.1, h.2.1, h.2.2⟩
theorem slV_slice (g cap n : Nat) : ∃ p c, slV g cap n = .slice p n c := by
  unfold slV
  split
  · rename_i h; exact ⟨none, 0, by rw [h]⟩
  · exact ⟨_, _, rfl⟩
/-- What a copy is, and where: new blocks alone. -/
def CopyR (x : Con) (w : World) (e : Ending) (w' : World) : Prop :=
  ∃ t, e = .returned (conV x.a (slA t)) ∧ era t = x ∧ Own w' t ∧ (blks t).Nodup ∧ (∀ b ∈ blks t, w.heap.size ≤ b) ∧ Below w.heap.size w w'
/-- The copies so far. -/
def Cp (ks : List Con) (wb : World) (k : Nat) (v : Value) (wr : World) : Prop :=
  ∃ g cap ts, v = slV g cap k ∧ ts.map era = ks.take k ∧ wr.ownsRow wb.heap.size 24 5 v k (rowOf ts) ∧ OwnL wr ts ∧ (blksL ts).Nodup ∧ (∀ b ∈ blksL ts, wb.heap.size ≤ b ∧ v.ownBlock ≠ some b) ∧ Below wb.heap.size wb wr
theorem OwnL.same {w w' : World} {ts : List ATr} (h : OwnL w ts) (hs : ∀ b ∈ blksL ts, w'.heap[b]? = w.heap[b]?) : OwnL w' ts :=
  OwnL_mem.2 fun x hx => (OwnL_mem.1 h x hx).same fun b hb => hs b (by rw [blksL_eq, List.mem_flatMap]; exact ⟨x, hx, hb⟩)
theorem OwnL.lt {w : World} {ts : List ATr} (h : OwnL w ts) : ∀ b ∈ blksL ts, b < w.heap.size := fun b hb => by
  rw [blksL_eq, List.mem_flatMap] at hb
  obtain ⟨x, hx, hb⟩ := hb
  exact (OwnL_mem.1 h x hx).lt b hb
theorem blksL_append (a b : List ATr) : blksL (a ++ b) = blksL a ++ blksL b := by simp [blksL_eq]
theorem OwnL_append {w : World} {a b : List ATr} : OwnL w (a ++ b) ↔ OwnL w a ∧ OwnL w b := by
  simp only [OwnL_mem, List.mem_append]
  exact ⟨fun h => ⟨fun x hx => h x (.inl hx), fun x hx => h x (.inr hx)⟩, fun h x hx => hx.elim (h.1 x) (h.2 x)⟩
theorem row_same' {w w' : World} {B T n k : Nat} {v : Value} {xs : List Value} (h : w.ownsRow B T k v n xs) (hs : ∀ b, v.ownBlock = some b → w'.heap[b]? = w.heap[b]?) : w'.ownsRow B T k v n xs := by
  refine ⟨h.1, ?_⟩
  rcases h.2 with h2 | ⟨g, cap, cur, hv, h3, h4, h5⟩
  · exact .inl h2
  · exact .inr ⟨g, cap, cur, hv, h3, (hs g (by rw [hv]; rfl)).trans h4, h5⟩
/-- One copy more. -/
theorem Cp.snoc {ks : List Con} {wb wr w5 w7 : World} {k g cap g0 cap0 : Nat} {ts : List ATr} {v : Value} {x : Con} {t : ATr} (hv : v = slV g0 cap0 k) (h1 : ts.map era = ks.take k) (h2 : wr.ownsRow wb.heap.size 24 5 v k (rowOf ts))
    (h3 : OwnL wr ts) (h4 : (blksL ts).Nodup) (h6 : ∀ b ∈ blksL ts, wb.heap.size ≤ b ∧ v.ownBlock ≠ some b) (h7 : Below wb.heap.size wb wr) (hx : ks[k]? = some x)
    (h5 : Below wr.heap.size wr w5) (ht : era t = x) (ho : Own w5 t) (hn : (blks t).Nodup) (hb : ∀ b ∈ blks t, wr.heap.size ≤ b)
    (hr : w7.ownsRow wb.heap.size 24 5 (.slice (some ⟨g, 0, none⟩) (k + 1) cap) (k + 1) (rowOf ts ++ encC x.a (slA t)))
    (hg : w5.grownBy w7 v.ownBlock) (hh : v.ownBlock = some g ∨ w5.heap.size ≤ g) : Cp ks wb (k + 1) (.slice (some ⟨g, 0, none⟩) (k + 1) cap) w7 := by
  subst hv
  have hvb : ∀ b, (slV g0 cap0 k).ownBlock = some b → b < wr.heap.size := fun b hb => (h2.lt b hb).2
  have h3' : OwnL w5 ts := h3.same fun b hb => h5.block b (h3.lt b hb)
  refine ⟨g, cap, ts ++ [t], by unfold slV; rw [if_neg (by omega)], ?_, ?_, OwnL_append.2 ⟨?_, ?_, trivial⟩, ?_, ?_, ?_⟩
  · obtain ⟨hl, rfl⟩ := List.getElem?_eq_some_iff.1 hx
    rw [List.map_append, h1, List.take_succ_eq_append_getElem hl, List.map_singleton, ht]
  · have := hr
    rw [rowOf_append]
    have e : rowOf [t] = encC x.a (slA t) := by simp [rowOf, ← ht, era_a]
    rw [e]; exact this
  · exact h3'.same fun b hb => hg.block b (h3'.lt b hb) fun e => (h6 b hb).2 e.symm
  · exact ho.same fun b hb' => hg.block b (ho.lt b hb') fun e => by have := hvb b e.symm; have := hb b hb'; omega
  · rw [blksL_append, List.nodup_append]
    refine ⟨h4, by simpa [blksL] using hn, fun a ha b hb' e => ?_⟩
    have h8 := h3.lt a ha
    have h9 := hb b (by simpa [blksL] using hb')
    omega
  · intro b hb'
    have hwr := h7.size
    have h5s := h5.size
    rw [blksL_append, List.mem_append] at hb'
    rcases hb' with hb' | hb'
    · refine ⟨(h6 b hb').1, fun e => ?_⟩
      have e : g = b := Option.some.inj e
      subst e
      rcases hh with hh | hh
      · exact (h6 g hb').2 hh
      · have := h3.lt g hb'; omega
    · have h9 := hb b (by simpa [blksL] using hb')
      refine ⟨by omega, fun e => ?_⟩
      have e : g = b := Option.some.inj e
      subst e
      rcases hh with hh | hh
      · have := hvb g hh; omega
      · have := ho.lt g (by simpa [blksL] using hb'); omega
  · exact (h7.trans (h5.mono h7.size)).grown hg (Nat.le_trans h7.size h5.size) fun b hb' => (h2.lt b hb').1
set_option maxHeartbeats 1000000 in
theorem copy_c (Z : Nat → Prop) : ∀ (x : Con) (sv : Value) (w : World), KV w Z x.ks sv → wd x ≤ 100000 →
    Calls Try.prog 22 #[conV x.a sv] w (CopyR x w) := by
  intro x
  induction x using Tr.ind with
  | h a ks ih =>
    intro sv w hK hwd
    obtain ⟨p, cap, rfl, hl⟩ : ∃ p cap, sv = .slice p ks.length cap ∧ ks.length ≤ 1152921504606846976 := hK.slice
    have hK : KV w Z ks (.slice p ks.length cap) := hK
    show Calls Try.prog 22 #[.agg #[.int .i64 a.k, .int .i64 a.w, .int .i64 a.c, .int .i64 a.s, .slice p ks.length cap]] w (CopyR (.mk a ks) w)
    have hwk : ks.length ≤ 100000 := by simp only [wd] at hwd; omega
    obtain ⟨m, hm⟩ : ∃ m, m = ks.length := ⟨_, rfl⟩
    rw [← hm] at hl hK hwk ⊢
    have HM := Lib.hid hm
    have HK := Lib.hid hK
    have HWD : Hid (∀ y ∈ ks, wd y ≤ 100000) := fun y hy => by have := wdL_mem hy; simp only [wd] at hwd; omega
    have IH := Lib.hid ih
    obtain ⟨R, hR⟩ : ∃ R, R = CopyR (.mk a ks) w := ⟨_, rfl⟩
    rw [← hR]
    have HRR := Lib.hid hR
    clear hm hK ih hwd hR
    obtain ⟨wb, hwb⟩ : ∃ wb, wb = (w.alloc (.cells #[.int .i64 a.k, .int .i64 a.w, .int .i64 a.c, .int .i64 a.s, .slice p m cap] 24)).alloc (.cells #[.int .i64 0, .int .i64 0, .int .i64 0, .int .i64 0, .slice none 0 0] 24) := ⟨_, rfl⟩
    have HB : Hid (Below w.heap.size w wb) := by rw [hwb]; exact ((Below.refl _ _).alloc (Nat.le_refl _) _).alloc (by simp) _
    have HQ : Hid (Blk wb w.heap.size 24 #[.int .i64 a.k, .int .i64 a.w, .int .i64 a.c, .int .i64 a.s, .slice p m cap]) := by rw [hwb]; exact (Blk.new _ _ _).alloc _
    have HQ2 : Hid (Blk wb (w.heap.size + 1) 24 #[.int .i64 0, .int .i64 0, .int .i64 0, .int .i64 0, .slice none 0 0]) := by
      rw [hwb]; have := Blk.new (w.alloc (.cells #[.int .i64 a.k, .int .i64 a.w, .int .i64 a.c, .int .i64 a.s, .slice p m cap] 24)) 24 #[.int .i64 0, .int .i64 0, .int .i64 0, .int .i64 0, .slice none 0 0]; rwa [World.size_alloc] at this
    have HWS : Hid (wb.heap.size = w.heap.size + 2) := by rw [hwb]; show _ = _; simp
    obtain ⟨i0, hi0, hz0, hz1, hz2⟩ := con_info
    have HWB := Lib.hid hwb
    clear hwb
    go_enter Try.func22, Try.ntmps22
    go_wp2_with fail
    rw [← HWB.out]
    go_loopw [3, 9] (fun v z wr => ∃ k : Nat, k ≤ m ∧ z = .int .i64 k ∧ Cp ks wb k v wr) (fun _ z _ => m - (intOf z).toNat)
    case atStart => exact ⟨0, Nat.zero_le _, rfl, 0, 0, [], rfl, by simp, World.ownsRow_nil _ _ _ _, trivial, by simp [blksL], by simp [blksL], Below.refl _ _⟩
    case round =>
      obtain ⟨k, hk, rfl, hcp⟩ := hrel
      have HCP := Lib.hid (show Cp ks wb k u3 wr from hcp)
      have HBR : Hid (Below wb.heap.size wb wr) := by obtain ⟨_, _, _, _, _, _, _, _, _, h⟩ := HCP.out; exact h
      have HW := Lib.hid (HB.out.trans (HBR.out.mono HB.out.size))
      have hq := HQ.out.below HBR.out HQ.out.lt
      have hq2 := HQ2.out.below HBR.out HQ2.out.lt
      clear hcp
      by_cases hlt : k < m
      · obtain ⟨x, hx⟩ : ∃ x, ks[k]? = some x := ⟨_, List.getElem?_eq_getElem (by rw [← HM.out]; exact hlt)⟩
        have hK1 := HK.out.same (Z' := Z) (w' := wr) (fun _ h => h) HW.out.size fun b _ hl => HW.out.block b hl
        obtain ⟨-, b, o, s', rfl, -, hb1, -, hk1, c0, c1, c2, c3, c4⟩ := hK1.kid hx
        obtain ⟨p1, cp1, rfl, -⟩ := hk1.slice
        have HI := Lib.hid (fun (W : World) (h : Below wr.heap.size wr W) => IH.out x (List.mem_of_getElem? hx) _ W (hk1.next h) (HWD.out x (List.mem_of_getElem? hx)))
        have HX := Lib.hid hx
        clear hx hK1 hk1
        obtain ⟨xa, xk⟩ := x
        simp only [Tr.a_mk, Tr.ks_mk] at c0 c1 c2 c3 c4 HI
        obtain ⟨nk, hnk⟩ : ∃ nk, nk = xk.length := ⟨_, rfl⟩
        rw [← hnk] at c4 HI
        have HNK := Lib.hid hnk
        have hbA := (Below.refl wr.heap.size wr).alloc (Nat.le_refl _) (.cells #[.int .i64 xa.k, .int .i64 xa.w, .int .i64 xa.c, .int .i64 xa.s, .slice p1 nk cp1] 24)
        have HBA := Lib.hid hbA
        clear hnk hbA
        go_wp2_with fail
        clear c0 c1 c2 c3 c4
        refine (HI.out _ HBA.out).mono ?_
        rintro e w5 ⟨t, rfl, het, hot, hnt, hbt, hB5⟩
        obtain ⟨pt, ct, hst⟩ : ∃ pt ct, slA t = .slice pt t.ks.length ct := slV_slice _ _ _
        have HST := Lib.hid hst
        rw [hst]
        have HET := Lib.hid het
        have HOT := Lib.hid hot
        have HNT := Lib.hid hnt
        have HBT := Lib.hid hbt
        have HB5 := Lib.hid (HBA.out.trans (hB5.mono HBA.out.size))
        obtain ⟨nt, hnt⟩ : ∃ nt, nt = t.ks.length := ⟨_, rfl⟩
        rw [← hnt, show conV (Tr.mk xa xk : Con).a (.slice pt nt ct) = .agg #[.int .i64 xa.k, .int .i64 xa.w, .int .i64 xa.c, .int .i64 xa.s, .slice pt nt ct] from rfl]
        have HNT2 := Lib.hid hnt
        clear hst het hot hnt hbt hB5
        obtain ⟨w6, hw6⟩ : ∃ w6, w6 = w5.alloc (.cells #[.int .i64 xa.k, .int .i64 xa.w, .int .i64 xa.c, .int .i64 xa.s, .slice pt nt ct] 24) := ⟨_, rfl⟩
        have HB6 : Hid (Below wr.heap.size wr w6) := by rw [hw6]; exact HB5.out.alloc HB5.out.size _
        have HB56 : Hid (Below w5.heap.size w5 w6) := by rw [hw6]; exact (Below.refl _ _).alloc (Nat.le_refl _) _
        have HC6 : Hid (∀ j u, [Value.int .i64 xa.k, .int .i64 xa.w, .int .i64 xa.c, .int .i64 xa.s, .slice pt nt ct][j]? = some u → w6.cell? ((⟨w5.heap.size, 0, none⟩ : Addr).add j) = some u) := by
          rw [hw6]; exact World.news_of_block (Blk.new _ _ _).raw
        obtain ⟨g0, cap0, ts, hv, h1, h2, h3, h4, h6, h7⟩ := HCP.out
        have H2 := Lib.hid (row_same' h2 fun b hb => HB6.out.block b (h2.lt b hb).2)
        have hsz : wb.heap.size ≤ w6.heap.size := Nat.le_trans h7.size HB6.out.size
        have HSZ := Lib.hid hsz
        have HSN := Lib.hid (fun (g cap : Nat) (w7 : World) => Cp.snoc (g := g) (cap := cap) (w7 := w7) hv h1 h2 h3 h4 h6 h7 HX.out HB6.out HET.out (HOT.out.next HB56.out) HNT.out (fun b hb => Nat.le_trans HBA.out.size (HBT.out b hb)))
        have HW6 := Lib.hid hw6
        have hkb : k + 1 ≤ 100000 := by omega
        clear hw6 hv h1 h2 h3 h4 h6 h7 hsz
        go_wp2_with (at_builtin; rw [← HW6.out]; go_loud (refine wpList_append_lies _ rfl (.tmp 13) (.tmp 16) 22 rfl wb.heap.size 24 i0 (.agg #[.int .i64 0, .int .i64 0, .int .i64 0, .int .i64 0, .slice none 0 0]) 5 56 Try.underlying22 hi0 hz0 hz1 hz2 rfl (by decide) _ k _ rfl H2.out ⟨_, 0, none⟩ 1 1 [.int .i64 xa.k, .int .i64 xa.w, .int .i64 xa.c, .int .i64 xa.s, .slice pt nt ct] rfl rfl HC6.out (by simp [Value.oneCell']) (by decide) (by unfold maxLen; omega) (by omega) HSZ.out _ rfl ?_; intro g7 cap7 w7 ho7 hg7 hh7 _; have HO7 := Lib.hid ho7; have HG7 := Lib.hid hg7; have HH7 := Lib.hid hh7; clear ho7 hg7 hh7))
        have e5 : encC xa (slA t) = [Value.int .i64 xa.k, .int .i64 xa.w, .int .i64 xa.c, .int .i64 xa.s, .slice pt nt ct] := by rw [HST.out, ← HNT2.out]; rfl
        have hcp7 := HSN.out g7 cap7 w7 (by rw [show (Tr.mk xa xk : Con).a = xa from rfl, e5]; exact HO7.out) HG7.out (by rcases HH7.out with h | h; exact .inl h; exact .inr (by omega))
        exact ⟨⟨k + 1, by omega, by go_num, hcp7⟩, by simp [intOf]; omega⟩
      · obtain ⟨g0, cap0, ts, hv, h1, h2, h3, h4, h6, h7⟩ := HCP.out
        obtain ⟨p3, c3, h3v⟩ := slV_slice g0 cap0 k
        have hkm : k = m := by omega
        have hv3 := hv.trans h3v
        subst hv3
        obtain ⟨q4, qf⟩ : wr.cell? ⟨w.heap.size, 4, none⟩ = some (.slice p m cap) ∧ wr.frozen? ⟨w.heap.size, 4, none⟩ = false := ⟨hq.at_ (i := 4) rfl, hq.frozen 4⟩
        obtain ⟨q0, q1, q2, q3⟩ : wr.cell? ⟨w.heap.size, 0, none⟩ = some (.int .i64 a.k) ∧ wr.cell? ⟨w.heap.size, 1, none⟩ = some (.int .i64 a.w) ∧ wr.cell? ⟨w.heap.size, 2, none⟩ = some (.int .i64 a.c) ∧ wr.cell? ⟨w.heap.size, 3, none⟩ = some (.int .i64 a.s) := ⟨hq.at_ (i := 0) rfl, hq.at_ (i := 1) rfl, hq.at_ (i := 2) rfl, hq.at_ (i := 3) rfl⟩
        obtain ⟨r0, r1, r2, r3, r4⟩ : wr.cell? ⟨w.heap.size + 1, 0, none⟩ = some (.int .i64 0) ∧ wr.cell? ⟨w.heap.size + 1, 1, none⟩ = some (.int .i64 0) ∧ wr.cell? ⟨w.heap.size + 1, 2, none⟩ = some (.int .i64 0) ∧ wr.cell? ⟨w.heap.size + 1, 3, none⟩ = some (.int .i64 0) ∧ wr.cell? ⟨w.heap.size + 1, 4, none⟩ = some (.slice none 0 0) := ⟨hq2.at_ (i := 0) rfl, hq2.at_ (i := 1) rfl, hq2.at_ (i := 2) rfl, hq2.at_ (i := 3) rfl, hq2.at_ (i := 4) rfl⟩
        have rf : ∀ i, wr.frozen? ⟨w.heap.size + 1, i, none⟩ = false := fun i => hq2.frozen i
        have HQ3 := Lib.hid hq
        have HQ4 := Lib.hid hq2
        have H1 := Lib.hid h1
        have H2 := Lib.hid h2
        have H3 := Lib.hid h3
        have H4 := Lib.hid h4
        have H6 := Lib.hid h6
        have HV := Lib.hid h3v
        have HKM := Lib.hid hkm
        clear h1 h2 h3 h4 h6 h7 hv h3v hkm hq hq2
        go_wp2_with fail
        obtain ⟨w8, hw8⟩ : ∃ w8, w8 = ((((((wr.setCell ⟨w.heap.size, 4, none⟩ (.slice p3 k c3)).setCell ⟨w.heap.size + 1, 0, none⟩ (.int .i64 a.k)).setCell ⟨w.heap.size + 1, 1, none⟩ (.int .i64 a.w)).setCell ⟨w.heap.size + 1, 2, none⟩ (.int .i64 a.c)).setCell ⟨w.heap.size + 1, 3, none⟩ (.int .i64 a.s)).setCell ⟨w.heap.size + 1, 4, none⟩ (.slice p3 k c3)) := ⟨_, rfl⟩
        have b1 := HQ4.out.far (p := ⟨w.heap.size, 4, none⟩) (by show w.heap.size + 1 ≠ w.heap.size; omega) (.slice p3 k c3)
        have b2 := ((((b1.set_ 0 (.int .i64 a.k)).set_ 1 (.int .i64 a.w)).set_ 2 (.int .i64 a.c)).set_ 3 (.int .i64 a.s)).set_ 4 (.slice p3 k c3)
        have b3 := b2.at_ (i := 0) rfl
        have b4 := b2.at_ (i := 1) rfl
        have b5 := b2.at_ (i := 2) rfl
        have b6 := b2.at_ (i := 3) rfl
        have b7 := b2.at_ (i := 4) rfl
        have far : ∀ b, wb.heap.size ≤ b → w8.heap[b]? = wr.heap[b]? := fun b hb => by
          have := HWS.out
          rw [hw8]
          have n0 : b ≠ w.heap.size := by omega
          have n1 : b ≠ w.heap.size + 1 := by omega
          rw [Below.heap_setCell _ _ _ b n1, Below.heap_setCell _ _ _ b n1, Below.heap_setCell _ _ _ b n1, Below.heap_setCell _ _ _ b n1, Below.heap_setCell _ _ _ b n1, Below.heap_setCell _ _ _ b n0]
        have hbl : Below w.heap.size w w8 := by
          rw [hw8]
          exact (((((HW.out.setCell (Nat.le_refl _) _).setCell (by simp) _).setCell (by simp) _).setCell (by simp) _).setCell (by simp) _).setCell (by simp) _
        rw [← hw8] at b3 b4 b5 b6 b7 ⊢
        have hlen : ts.length = k := by have := congrArg List.length H1.out; rw [List.length_map, List.length_take, ← HM.out] at this; omega
        have hP : CopyR (.mk a ks) w (.returned (.agg #[.int .i64 a.k, .int .i64 a.w, .int .i64 a.c, .int .i64 a.s, .slice p3 k c3])) w8 := by
          refine ⟨.mk ⟨a, g0, cap0⟩ ts, ?_, ?_, ⟨?_, ?_⟩, ?_, ?_, hbl⟩
          · rw [show slA (.mk ⟨a, g0, cap0⟩ ts) = slV g0 cap0 ts.length from rfl, hlen, HV.out]; rfl
          · rw [era_mk, H1.out, List.take_of_length_le (by have := HM.out; have := HKM.out; omega)]
          · have h := row_same' (w' := w8) H2.out fun b hb => far b (H2.out.lt b hb).1
            show w8.ownsRow 0 _ 5 (slV g0 cap0 ts.length) ts.length (rowOf ts)
            rw [hlen, HV.out]
            exact ⟨h.1, h.2.imp id fun ⟨g, c, cur, h1, _, h2⟩ => ⟨g, c, cur, h1, Nat.zero_le _, h2⟩⟩
          · exact H3.out.same fun b hb => far b (H6.out b hb).1
          · show ((if ts.length = 0 then [] else [g0]) ++ blksL ts).Nodup
            rw [hlen]
            split
            · exact H4.out
            · rename_i h0
              rw [List.nodup_append]
              refine ⟨by simp, H4.out, fun x hx y hy e => ?_⟩
              simp at hx
              have h9 := (H6.out y hy).2
              rw [← HV.out] at h9
              unfold slV at h9
              rw [if_neg h0] at h9
              exact h9 (by rw [← e, hx]; rfl)
          · intro b hb
            have := HWS.out
            have hb : b ∈ (if ts.length = 0 then [] else [g0]) ++ blksL ts := hb
            rw [List.mem_append] at hb
            rcases hb with hb | hb
            · rw [hlen] at hb
              split at hb
              · cases hb
              · rename_i h0
                simp at hb
                have h9 := (H2.out.lt g0 (by rw [← HV.out]; unfold slV; rw [if_neg h0]; rfl)).1
                omega
            · have := (H6.out b hb).1; omega
        have HP := Lib.hid hP
        clear hw8 b1 b2 far hbl hP hlen q0 q1 q2 q3 q4 qf r0 r1 r2 r3 r4 rf
        refine bodyPost_ret (v := .agg #[.int .i64 a.k, .int .i64 a.w, .int .i64 a.c, .int .i64 a.s, .slice p3 k c3]) (by simp [results, Try.results22, go_sem, b3, b4, b5, b6, b7]) rfl ?_
        rw [HRR.out]
        exact HP.out
end Go.Proofs.Ytjeabkcbaielhaa.Co
