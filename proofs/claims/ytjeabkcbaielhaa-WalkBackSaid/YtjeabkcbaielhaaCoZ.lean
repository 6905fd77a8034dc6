/- cons.Wrap, cons.Turn, cons.Touch. -/
import Derived.Test.YtjeabkcbaielhaaCoY
namespace Go.Proofs.Ytjeabkcbaielhaa.Co
open Go.RowKit Go.Shelf
def wrapI (x : Con) (c kind : Int) : Con × Int := if splitB kind = true then chgI x c (wrapF kind) else (zeroT, 1)
def turnI (x : Con) (c kind : Int) : Con × Int := if splitB kind = true then chgI x c (turnF kind) else (zeroT, 1)
def touchI (x : Con) (c seen : Int) : Con × Int := if seen < 0 then (zeroT, 1) else chgI x c (touchF seen)
set_option maxHeartbeats 1000000 in
theorem wrap_c (x : Con) (sv : Value) (c k : Int) (w : World) (hK : KV w (fun b => b < w.heap.size) x.ks sv) (hw : x.a.wide) (hd : ht x ≤ 1000000) (hwd : wd x ≤ 100000) :
    Calls Try.prog 37 #[conV x.a sv, .int .i64 c, .int .i64 k] w fun e w' => TellR w.heap.size (wrapI x c k) e w' ∧ Below w.heap.size w w' := by
  obtain ⟨p, cap, rfl, hl⟩ := hK.slice
  obtain ⟨n, hn⟩ : ∃ n, n = x.ks.length := ⟨_, rfl⟩
  rw [← hn] at hK ⊢
  obtain ⟨R, hR⟩ : ∃ R, R = fun (e : Ending) (w' : World) => TellR w.heap.size (wrapI x c k) e w' ∧ Below w.heap.size w w' := ⟨_, rfl⟩
  have hRe : ∀ e w', R e w' ↔ (TellR w.heap.size (wrapI x c k) e w' ∧ Below w.heap.size w w') := by rw [hR]; exact fun _ _ => Iff.rfl
  rw [← hR]
  have HR := Lib.hid hRe
  obtain ⟨wB, hwB⟩ : ∃ wB, wB = (((w.alloc (.cells #[.int .i64 x.a.k, .int .i64 x.a.w, .int .i64 x.a.c, .int .i64 x.a.s, .slice p n cap] 24)).alloc (.cells #[.int .i64 k] 3)).alloc (.cells #[.int .i64 0, .int .i64 0, .int .i64 0, .int .i64 0, .slice none 0 0] 24)) := ⟨_, rfl⟩
  have hb0 : Below w.heap.size w wB := by rw [hwB]; exact (((Below.refl _ _).alloc (Nat.le_refl _) _).alloc (by simp) _).alloc (by simp; omega) _
  have hkb : Blk wB (w.heap.size + 1) 3 #[.int .i64 k] := by
    rw [hwB]; have := (Blk.new (w.alloc (.cells #[.int .i64 x.a.k, .int .i64 x.a.w, .int .i64 x.a.c, .int .i64 x.a.s, .slice p n cap] 24)) 3 #[.int .i64 k]).alloc (.cells #[.int .i64 0, .int .i64 0, .int .i64 0, .int .i64 0, .slice none 0 0] 24); rwa [World.size_alloc] at this
  have hq2 : Blk wB (w.heap.size + 1 + 1) 24 #[.int .i64 0, .int .i64 0, .int .i64 0, .int .i64 0, .slice none 0 0] := by
    rw [hwB]; have := Blk.new ((w.alloc (.cells #[.int .i64 x.a.k, .int .i64 x.a.w, .int .i64 x.a.c, .int .i64 x.a.s, .slice p n cap] 24)).alloc (.cells #[.int .i64 k] 3)) 24 #[.int .i64 0, .int .i64 0, .int .i64 0, .int .i64 0, .slice none 0 0]; rwa [World.size_alloc, World.size_alloc] at this
  have hsz : wB.heap.size = w.heap.size + 3 := by rw [hwB]; simp
  have HCH := Lib.hid (change_c x (.slice p n cap) c 77 #[.pointer (some ⟨w.heap.size + 1, 0, none⟩)] (fun W => Blk W (w.heap.size + 1) 3 #[.int .i64 k]) (wrapF k) wB
    (hK.same (Z' := fun b => b < wB.heap.size) (fun b h => Nat.lt_of_lt_of_le h hb0.size) hb0.size fun b _ hl => hb0.block b hl) hw hd hwd enters_wrap (how_wrap (w.heap.size + 1) k) (fun W h => hkb.next h))
  have HB := Lib.hid hb0
  have HQ2 := Lib.hid hq2
  have HWB := Lib.hid hwB
  have HSZ := Lib.hid hsz
  clear hn hR hRe hK hw hd hwd hl hb0 hwB hkb hsz
  have hmf : ∀ (fn : Fn) (first cap : Array Value) (w : World), (Instr.makeFunc fn first cap).run Try.prog w = .ok (.func fn first cap) w := fun _ _ _ _ => rfl
  cases hs : splitB k
  · have hI : wrapI x c k = (zeroT, 1) := by unfold wrapI; rw [hs]; rfl
    have HIS := Lib.hid (fun W => isSplit_c k W)
    rw [hs] at HIS
    have HI := Lib.hid hI
    clear hI HCH hq2 hs
    go_enter Try.func37, Try.ntmps37
    go_wp2_with (go_at_call 76; ((with_reducible refine (HIS.out _).mono ?_); rintro e1 w1 ⟨rfl, rfl⟩); skip)
    have hq2 := HQ2.out
    rw [← HWB.out]
    have hq2 := HQ2.out
    obtain ⟨⟨b3, b4, b5, b6, b7⟩, -⟩ := c5 hq2
    refine bodyPost_ret (v := .tuple #[zeroC, .int .i64 1]) (by simp [results, Try.results37, go_sem, b3, b4, b5, b6, b7]) rfl ?_
    refine (HR.out _ _).2 ⟨.inl ?_, HB.out⟩
    rw [HI.out]
    exact ⟨by simp, rfl⟩
  · have hI : wrapI x c k = chgI x c (wrapF k) := by unfold wrapI; rw [hs]; rfl
    have HIS := Lib.hid (fun W => isSplit_c k W)
    rw [hs] at HIS
    have HI := Lib.hid hI
    clear hI hq2 hs
    go_enter Try.func37, Try.ntmps37
    go_wp2_with (go_at_call 76; ((with_reducible refine (HIS.out _).mono ?_); rintro e1 w1 ⟨rfl, rfl⟩); skip)
    rw [← HWB.out]
    refine HCH.out.mono ?_
    rintro e w1 ⟨hte, hb1⟩
    have HB1 := Lib.hid (HB.out.trans (hb1.mono HB.out.size))
    have hq2 := HQ2.out.next hb1
    clear hb1
    rcases hte with ⟨hz, rfl⟩ | ⟨hz, t', ho, hnd, hge, he, rfl⟩
    · obtain ⟨z, hzz⟩ : ∃ z, z = (chgI x c (wrapF k)).2 := ⟨_, rfl⟩
      rw [← hzz] at hz ⊢
      have HZ := Lib.hid hz
      have HZZ := Lib.hid hzz
      clear hz hzz
      have b2 := blk_st5 hq2 (.int .i64 0) (.int .i64 0) (.int .i64 0) (.int .i64 0) (.slice none 0 0)
      have hbl := below_st5 (g := w.heap.size + 1 + 1) HB1.out (by omega) (.int .i64 0) (.int .i64 0) (.int .i64 0) (.int .i64 0) (.slice none 0 0)
      have hfar := far_st5 w1 (w.heap.size + 1 + 1) (.int .i64 0) (.int .i64 0) (.int .i64 0) (.int .i64 0) (.slice none 0 0)
      obtain ⟨⟨b3, b4, b5, b6, b7⟩, -⟩ := c5 b2
      obtain ⟨w8, hw8⟩ : ∃ w8, w8 = st5 w1 (w.heap.size + 1 + 1) (.int .i64 0) (.int .i64 0) (.int .i64 0) (.int .i64 0) (.slice none 0 0) := ⟨_, rfl⟩
      rw [← hw8] at b3 b4 b5 b6 b7 hbl hfar
      have HW8 := Lib.hid hw8
      have HBL := Lib.hid hbl
      have HFAR := Lib.hid hfar
      obtain ⟨⟨r0, r1, r2, r3, r4⟩, f0, f1, f2, f3, f4⟩ := c5 hq2
      clear b2 hbl hw8 hq2 hfar
      go_wp2_with fail
      rw [show ((((w1.setCell ⟨w.heap.size + 1 + 1, 0, none⟩ (.int .i64 0)).setCell ⟨w.heap.size + 1 + 1, 1, none⟩ (.int .i64 0)).setCell ⟨w.heap.size + 1 + 1, 2, none⟩ (.int .i64 0)).setCell ⟨w.heap.size + 1 + 1, 3, none⟩ (.int .i64 0)).setCell ⟨w.heap.size + 1 + 1, 4, none⟩ (.slice none 0 0) = w8 from HW8.out.symm]
      refine bodyPost_ret (v := .tuple #[zeroC, .int .i64 z]) (by simp [results, Try.results37, go_sem, b3, b4, b5, b6, b7]) rfl ?_
      refine (HR.out _ _).2 ⟨.inl ?_, HBL.out⟩
      rw [HI.out, ← HZZ.out]
      exact ⟨HZ.out, rfl⟩
    · obtain ⟨pz, cz, hsz⟩ : ∃ pz cz, slA t' = .slice pz t'.ks.length cz := slV_slice _ _ _
      obtain ⟨nz, hnz⟩ : ∃ nz, nz = t'.ks.length := ⟨_, rfl⟩
      rw [← hnz] at hsz
      rw [hsz]
      obtain ⟨ta, hta⟩ : ∃ ta, ta = t'.a := ⟨_, rfl⟩
      rw [← hta]
      have HZ := Lib.hid hz
      have HO := Lib.hid ho
      have HND := Lib.hid hnd
      have HGE := Lib.hid hge
      have HE := Lib.hid he
      have HSL := Lib.hid hsz
      have HTA := Lib.hid hta
      clear hz ho hnd hge he hsz hnz hta
      have b2 := blk_st5 hq2 (.int .i64 ta.d.k) (.int .i64 ta.d.w) (.int .i64 ta.d.c) (.int .i64 ta.d.s) (.slice pz nz cz)
      have hbl := below_st5 (g := w.heap.size + 1 + 1) HB1.out (by omega) (.int .i64 ta.d.k) (.int .i64 ta.d.w) (.int .i64 ta.d.c) (.int .i64 ta.d.s) (.slice pz nz cz)
      have hfar := far_st5 w1 (w.heap.size + 1 + 1) (.int .i64 ta.d.k) (.int .i64 ta.d.w) (.int .i64 ta.d.c) (.int .i64 ta.d.s) (.slice pz nz cz)
      obtain ⟨⟨b3, b4, b5, b6, b7⟩, -⟩ := c5 b2
      obtain ⟨w8, hw8⟩ : ∃ w8, w8 = st5 w1 (w.heap.size + 1 + 1) (.int .i64 ta.d.k) (.int .i64 ta.d.w) (.int .i64 ta.d.c) (.int .i64 ta.d.s) (.slice pz nz cz) := ⟨_, rfl⟩
      rw [← hw8] at b3 b4 b5 b6 b7 hbl hfar
      have HW8 := Lib.hid hw8
      have HBL := Lib.hid hbl
      have HFAR := Lib.hid hfar
      obtain ⟨⟨r0, r1, r2, r3, r4⟩, f0, f1, f2, f3, f4⟩ := c5 hq2
      clear b2 hbl hw8 hq2 hfar
      go_wp2_with fail
      rw [show ((((w1.setCell ⟨w.heap.size + 1 + 1, 0, none⟩ (.int .i64 ta.d.k)).setCell ⟨w.heap.size + 1 + 1, 1, none⟩ (.int .i64 ta.d.w)).setCell ⟨w.heap.size + 1 + 1, 2, none⟩ (.int .i64 ta.d.c)).setCell ⟨w.heap.size + 1 + 1, 3, none⟩ (.int .i64 ta.d.s)).setCell ⟨w.heap.size + 1 + 1, 4, none⟩ (.slice pz nz cz) = w8 from HW8.out.symm]
      refine bodyPost_ret (v := .tuple #[.agg #[.int .i64 ta.d.k, .int .i64 ta.d.w, .int .i64 ta.d.c, .int .i64 ta.d.s, .slice pz nz cz], .int .i64 0]) (by simp [results, Try.results37, go_sem, b3, b4, b5, b6, b7]) rfl ?_
      refine (HR.out _ _).2 ⟨.inr ?_, HBL.out⟩
      rw [HI.out]
      refine ⟨HZ.out, t', HO.out.same fun b hb => HFAR.out b fun e => ?_, HND.out, fun b hb => Nat.le_trans HB.out.size (HGE.out b hb), HE.out, ?_⟩
      · have h1 := HGE.out b hb
        have h2 := HSZ.out
        omega
      · rw [HSL.out, ← HTA.out]
set_option maxHeartbeats 1000000 in
theorem turn_c (x : Con) (sv : Value) (c k : Int) (w : World) (hK : KV w (fun b => b < w.heap.size) x.ks sv) (hw : x.a.wide) (hd : ht x ≤ 1000000) (hwd : wd x ≤ 100000) :
    Calls Try.prog 39 #[conV x.a sv, .int .i64 c, .int .i64 k] w fun e w' => TellR w.heap.size (turnI x c k) e w' ∧ Below w.heap.size w w' := by
  obtain ⟨p, cap, rfl, hl⟩ := hK.slice
  obtain ⟨n, hn⟩ : ∃ n, n = x.ks.length := ⟨_, rfl⟩
  rw [← hn] at hK ⊢
  obtain ⟨R, hR⟩ : ∃ R, R = fun (e : Ending) (w' : World) => TellR w.heap.size (turnI x c k) e w' ∧ Below w.heap.size w w' := ⟨_, rfl⟩
  have hRe : ∀ e w', R e w' ↔ (TellR w.heap.size (turnI x c k) e w' ∧ Below w.heap.size w w') := by rw [hR]; exact fun _ _ => Iff.rfl
  rw [← hR]
  have HR := Lib.hid hRe
  obtain ⟨wB, hwB⟩ : ∃ wB, wB = (((w.alloc (.cells #[.int .i64 x.a.k, .int .i64 x.a.w, .int .i64 x.a.c, .int .i64 x.a.s, .slice p n cap] 24)).alloc (.cells #[.int .i64 k] 3)).alloc (.cells #[.int .i64 0, .int .i64 0, .int .i64 0, .int .i64 0, .slice none 0 0] 24)) := ⟨_, rfl⟩
  have hb0 : Below w.heap.size w wB := by rw [hwB]; exact (((Below.refl _ _).alloc (Nat.le_refl _) _).alloc (by simp) _).alloc (by simp; omega) _
  have hkb : Blk wB (w.heap.size + 1) 3 #[.int .i64 k] := by
    rw [hwB]; have := (Blk.new (w.alloc (.cells #[.int .i64 x.a.k, .int .i64 x.a.w, .int .i64 x.a.c, .int .i64 x.a.s, .slice p n cap] 24)) 3 #[.int .i64 k]).alloc (.cells #[.int .i64 0, .int .i64 0, .int .i64 0, .int .i64 0, .slice none 0 0] 24); rwa [World.size_alloc] at this
  have hq2 : Blk wB (w.heap.size + 1 + 1) 24 #[.int .i64 0, .int .i64 0, .int .i64 0, .int .i64 0, .slice none 0 0] := by
    rw [hwB]; have := Blk.new ((w.alloc (.cells #[.int .i64 x.a.k, .int .i64 x.a.w, .int .i64 x.a.c, .int .i64 x.a.s, .slice p n cap] 24)).alloc (.cells #[.int .i64 k] 3)) 24 #[.int .i64 0, .int .i64 0, .int .i64 0, .int .i64 0, .slice none 0 0]; rwa [World.size_alloc, World.size_alloc] at this
  have hsz : wB.heap.size = w.heap.size + 3 := by rw [hwB]; simp
  have HCH := Lib.hid (change_c x (.slice p n cap) c 78 #[.pointer (some ⟨w.heap.size + 1, 0, none⟩)] (fun W => Blk W (w.heap.size + 1) 3 #[.int .i64 k]) (turnF k) wB
    (hK.same (Z' := fun b => b < wB.heap.size) (fun b h => Nat.lt_of_lt_of_le h hb0.size) hb0.size fun b _ hl => hb0.block b hl) hw hd hwd enters_turn (how_turn (w.heap.size + 1) k) (fun W h => hkb.next h))
  have HB := Lib.hid hb0
  have HQ2 := Lib.hid hq2
  have HWB := Lib.hid hwB
  have HSZ := Lib.hid hsz
  clear hn hR hRe hK hw hd hwd hl hb0 hwB hkb hsz
  have hmf : ∀ (fn : Fn) (first cap : Array Value) (w : World), (Instr.makeFunc fn first cap).run Try.prog w = .ok (.func fn first cap) w := fun _ _ _ _ => rfl
  cases hs : splitB k
  · have hI : turnI x c k = (zeroT, 1) := by unfold turnI; rw [hs]; rfl
    have HIS := Lib.hid (fun W => isSplit_c k W)
    rw [hs] at HIS
    have HI := Lib.hid hI
    clear hI HCH hq2 hs
    go_enter Try.func39, Try.ntmps39
    go_wp2_with (go_at_call 76; ((with_reducible refine (HIS.out _).mono ?_); rintro e1 w1 ⟨rfl, rfl⟩); skip)
    have hq2 := HQ2.out
    rw [← HWB.out]
    have hq2 := HQ2.out
    obtain ⟨⟨b3, b4, b5, b6, b7⟩, -⟩ := c5 hq2
    refine bodyPost_ret (v := .tuple #[zeroC, .int .i64 1]) (by simp [results, Try.results39, go_sem, b3, b4, b5, b6, b7]) rfl ?_
    refine (HR.out _ _).2 ⟨.inl ?_, HB.out⟩
    rw [HI.out]
    exact ⟨by simp, rfl⟩
  · have hI : turnI x c k = chgI x c (turnF k) := by unfold turnI; rw [hs]; rfl
    have HIS := Lib.hid (fun W => isSplit_c k W)
    rw [hs] at HIS
    have HI := Lib.hid hI
    clear hI hq2 hs
    go_enter Try.func39, Try.ntmps39
    go_wp2_with (go_at_call 76; ((with_reducible refine (HIS.out _).mono ?_); rintro e1 w1 ⟨rfl, rfl⟩); skip)
    rw [← HWB.out]
    refine HCH.out.mono ?_
    rintro e w1 ⟨hte, hb1⟩
    have HB1 := Lib.hid (HB.out.trans (hb1.mono HB.out.size))
    have hq2 := HQ2.out.next hb1
    clear hb1
    rcases hte with ⟨hz, rfl⟩ | ⟨hz, t', ho, hnd, hge, he, rfl⟩
    · obtain ⟨z, hzz⟩ : ∃ z, z = (chgI x c (turnF k)).2 := ⟨_, rfl⟩
      rw [← hzz] at hz ⊢
      have HZ := Lib.hid hz
      have HZZ := Lib.hid hzz
      clear hz hzz
      have b2 := blk_st5 hq2 (.int .i64 0) (.int .i64 0) (.int .i64 0) (.int .i64 0) (.slice none 0 0)
      have hbl := below_st5 (g := w.heap.size + 1 + 1) HB1.out (by omega) (.int .i64 0) (.int .i64 0) (.int .i64 0) (.int .i64 0) (.slice none 0 0)
      have hfar := far_st5 w1 (w.heap.size + 1 + 1) (.int .i64 0) (.int .i64 0) (.int .i64 0) (.int .i64 0) (.slice none 0 0)
      obtain ⟨⟨b3, b4, b5, b6, b7⟩, -⟩ := c5 b2
      obtain ⟨w8, hw8⟩ : ∃ w8, w8 = st5 w1 (w.heap.size + 1 + 1) (.int .i64 0) (.int .i64 0) (.int .i64 0) (.int .i64 0) (.slice none 0 0) := ⟨_, rfl⟩
      rw [← hw8] at b3 b4 b5 b6 b7 hbl hfar
      have HW8 := Lib.hid hw8
      have HBL := Lib.hid hbl
      have HFAR := Lib.hid hfar
      obtain ⟨⟨r0, r1, r2, r3, r4⟩, f0, f1, f2, f3, f4⟩ := c5 hq2
      clear b2 hbl hw8 hq2 hfar
      go_wp2_with fail
      rw [show ((((w1.setCell ⟨w.heap.size + 1 + 1, 0, none⟩ (.int .i64 0)).setCell ⟨w.heap.size + 1 + 1, 1, none⟩ (.int .i64 0)).setCell ⟨w.heap.size + 1 + 1, 2, none⟩ (.int .i64 0)).setCell ⟨w.heap.size + 1 + 1, 3, none⟩ (.int .i64 0)).setCell ⟨w.heap.size + 1 + 1, 4, none⟩ (.slice none 0 0) = w8 from HW8.out.symm]
      refine bodyPost_ret (v := .tuple #[zeroC, .int .i64 z]) (by simp [results, Try.results39, go_sem, b3, b4, b5, b6, b7]) rfl ?_
      refine (HR.out _ _).2 ⟨.inl ?_, HBL.out⟩
      rw [HI.out, ← HZZ.out]
      exact ⟨HZ.out, rfl⟩
    · obtain ⟨pz, cz, hsz⟩ : ∃ pz cz, slA t' = .slice pz t'.ks.length cz := slV_slice _ _ _
      obtain ⟨nz, hnz⟩ : ∃ nz, nz = t'.ks.length := ⟨_, rfl⟩
      rw [← hnz] at hsz
      rw [hsz]
      obtain ⟨ta, hta⟩ : ∃ ta, ta = t'.a := ⟨_, rfl⟩
      rw [← hta]
      have HZ := Lib.hid hz
      have HO := Lib.hid ho
      have HND := Lib.hid hnd
      have HGE := Lib.hid hge
      have HE := Lib.hid he
      have HSL := Lib.hid hsz
      have HTA := Lib.hid hta
      clear hz ho hnd hge he hsz hnz hta
      have b2 := blk_st5 hq2 (.int .i64 ta.d.k) (.int .i64 ta.d.w) (.int .i64 ta.d.c) (.int .i64 ta.d.s) (.slice pz nz cz)
      have hbl := below_st5 (g := w.heap.size + 1 + 1) HB1.out (by omega) (.int .i64 ta.d.k) (.int .i64 ta.d.w) (.int .i64 ta.d.c) (.int .i64 ta.d.s) (.slice pz nz cz)
      have hfar := far_st5 w1 (w.heap.size + 1 + 1) (.int .i64 ta.d.k) (.int .i64 ta.d.w) (.int .i64 ta.d.c) (.int .i64 ta.d.s) (.slice pz nz cz)
      obtain ⟨⟨b3, b4, b5, b6, b7⟩, -⟩ := c5 b2
      obtain ⟨w8, hw8⟩ : ∃ w8, w8 = st5 w1 (w.heap.size + 1 + 1) (.int .i64 ta.d.k) (.int .i64 ta.d.w) (.int .i64 ta.d.c) (.int .i64 ta.d.s) (.slice pz nz cz) := ⟨_, rfl⟩
      rw [← hw8] at b3 b4 b5 b6 b7 hbl hfar
      have HW8 := Lib.hid hw8
      have HBL := Lib.hid hbl
      have HFAR := Lib.hid hfar
      obtain ⟨⟨r0, r1, r2, r3, r4⟩, f0, f1, f2, f3, f4⟩ := c5 hq2
      clear b2 hbl hw8 hq2 hfar
      go_wp2_with fail
      rw [show ((((w1.setCell ⟨w.heap.size + 1 + 1, 0, none⟩ (.int .i64 ta.d.k)).setCell ⟨w.heap.size + 1 + 1, 1, none⟩ (.int .i64 ta.d.w)).setCell ⟨w.heap.size + 1 + 1, 2, none⟩ (.int .i64 ta.d.c)).setCell ⟨w.heap.size + 1 + 1, 3, none⟩ (.int .i64 ta.d.s)).setCell ⟨w.heap.size + 1 + 1, 4, none⟩ (.slice pz nz cz) = w8 from HW8.out.symm]
      refine bodyPost_ret (v := .tuple #[.agg #[.int .i64 ta.d.k, .int .i64 ta.d.w, .int .i64 ta.d.c, .int .i64 ta.d.s, .slice pz nz cz], .int .i64 0]) (by simp [results, Try.results39, go_sem, b3, b4, b5, b6, b7]) rfl ?_
      refine (HR.out _ _).2 ⟨.inr ?_, HBL.out⟩
      rw [HI.out]
      refine ⟨HZ.out, t', HO.out.same fun b hb => HFAR.out b fun e => ?_, HND.out, fun b hb => Nat.le_trans HB.out.size (HGE.out b hb), HE.out, ?_⟩
      · have h1 := HGE.out b hb
        have h2 := HSZ.out
        omega
      · rw [HSL.out, ← HTA.out]
set_option maxHeartbeats 1000000 in
theorem touch_c (x : Con) (sv : Value) (c k : Int) (w : World) (hK : KV w (fun b => b < w.heap.size) x.ks sv) (hw : x.a.wide) (hd : ht x ≤ 1000000) (hwd : wd x ≤ 100000) :
    Calls Try.prog 41 #[conV x.a sv, .int .i64 c, .int .i64 k] w fun e w' => TellR w.heap.size (touchI x c k) e w' ∧ Below w.heap.size w w' := by
  obtain ⟨p, cap, rfl, hl⟩ := hK.slice
  obtain ⟨n, hn⟩ : ∃ n, n = x.ks.length := ⟨_, rfl⟩
  rw [← hn] at hK ⊢
  obtain ⟨R, hR⟩ : ∃ R, R = fun (e : Ending) (w' : World) => TellR w.heap.size (touchI x c k) e w' ∧ Below w.heap.size w w' := ⟨_, rfl⟩
  have hRe : ∀ e w', R e w' ↔ (TellR w.heap.size (touchI x c k) e w' ∧ Below w.heap.size w w') := by rw [hR]; exact fun _ _ => Iff.rfl
  rw [← hR]
  have HR := Lib.hid hRe
  obtain ⟨wB, hwB⟩ : ∃ wB, wB = (((w.alloc (.cells #[.int .i64 x.a.k, .int .i64 x.a.w, .int .i64 x.a.c, .int .i64 x.a.s, .slice p n cap] 24)).alloc (.cells #[.int .i64 k] 3)).alloc (.cells #[.int .i64 0, .int .i64 0, .int .i64 0, .int .i64 0, .slice none 0 0] 24)) := ⟨_, rfl⟩
  have hb0 : Below w.heap.size w wB := by rw [hwB]; exact (((Below.refl _ _).alloc (Nat.le_refl _) _).alloc (by simp) _).alloc (by simp; omega) _
  have hkb : Blk wB (w.heap.size + 1) 3 #[.int .i64 k] := by
    rw [hwB]; have := (Blk.new (w.alloc (.cells #[.int .i64 x.a.k, .int .i64 x.a.w, .int .i64 x.a.c, .int .i64 x.a.s, .slice p n cap] 24)) 3 #[.int .i64 k]).alloc (.cells #[.int .i64 0, .int .i64 0, .int .i64 0, .int .i64 0, .slice none 0 0] 24); rwa [World.size_alloc] at this
  have hq2 : Blk wB (w.heap.size + 1 + 1) 24 #[.int .i64 0, .int .i64 0, .int .i64 0, .int .i64 0, .slice none 0 0] := by
    rw [hwB]; have := Blk.new ((w.alloc (.cells #[.int .i64 x.a.k, .int .i64 x.a.w, .int .i64 x.a.c, .int .i64 x.a.s, .slice p n cap] 24)).alloc (.cells #[.int .i64 k] 3)) 24 #[.int .i64 0, .int .i64 0, .int .i64 0, .int .i64 0, .slice none 0 0]; rwa [World.size_alloc, World.size_alloc] at this
  have hsz : wB.heap.size = w.heap.size + 3 := by rw [hwB]; simp
  have HCH := Lib.hid (change_c x (.slice p n cap) c 79 #[.pointer (some ⟨w.heap.size + 1, 0, none⟩)] (fun W => Blk W (w.heap.size + 1) 3 #[.int .i64 k]) (touchF k) wB
    (hK.same (Z' := fun b => b < wB.heap.size) (fun b h => Nat.lt_of_lt_of_le h hb0.size) hb0.size fun b _ hl => hb0.block b hl) hw hd hwd enters_touch (how_touch (w.heap.size + 1) k) (fun W h => hkb.next h))
  have HB := Lib.hid hb0
  have HQ2 := Lib.hid hq2
  have HWB := Lib.hid hwB
  have HSZ := Lib.hid hsz
  clear hn hR hRe hK hw hd hwd hl hb0 hwB hkb hsz
  have hmf : ∀ (fn : Fn) (first cap : Array Value) (w : World), (Instr.makeFunc fn first cap).run Try.prog w = .ok (.func fn first cap) w := fun _ _ _ _ => rfl
  by_cases hs : k < 0
  · have hI : touchI x c k = (zeroT, 1) := by unfold touchI; rw [if_pos hs]
    have HI := Lib.hid hI
    clear hI HCH hq2
    go_enter Try.func41, Try.ntmps41
    go_wp2_with fail
    have hq2 := HQ2.out
    rw [← HWB.out]
    have hq2 := HQ2.out
    obtain ⟨⟨b3, b4, b5, b6, b7⟩, -⟩ := c5 hq2
    refine bodyPost_ret (v := .tuple #[zeroC, .int .i64 1]) (by simp [results, Try.results41, go_sem, b3, b4, b5, b6, b7]) rfl ?_
    refine (HR.out _ _).2 ⟨.inl ?_, HB.out⟩
    rw [HI.out]
    exact ⟨by simp, rfl⟩
  · have hI : touchI x c k = chgI x c (touchF k) := by unfold touchI; rw [if_neg hs]
    have HI := Lib.hid hI
    clear hI hq2
    go_enter Try.func41, Try.ntmps41
    go_wp2_with fail
    rw [← HWB.out]
    refine HCH.out.mono ?_
    rintro e w1 ⟨hte, hb1⟩
    have HB1 := Lib.hid (HB.out.trans (hb1.mono HB.out.size))
    have hq2 := HQ2.out.next hb1
    clear hb1
    rcases hte with ⟨hz, rfl⟩ | ⟨hz, t', ho, hnd, hge, he, rfl⟩
    · obtain ⟨z, hzz⟩ : ∃ z, z = (chgI x c (touchF k)).2 := ⟨_, rfl⟩
      rw [← hzz] at hz ⊢
      have HZ := Lib.hid hz
      have HZZ := Lib.hid hzz
      clear hz hzz
      have b2 := blk_st5 hq2 (.int .i64 0) (.int .i64 0) (.int .i64 0) (.int .i64 0) (.slice none 0 0)
      have hbl := below_st5 (g := w.heap.size + 1 + 1) HB1.out (by omega) (.int .i64 0) (.int .i64 0) (.int .i64 0) (.int .i64 0) (.slice none 0 0)
      have hfar := far_st5 w1 (w.heap.size + 1 + 1) (.int .i64 0) (.int .i64 0) (.int .i64 0) (.int .i64 0) (.slice none 0 0)
      obtain ⟨⟨b3, b4, b5, b6, b7⟩, -⟩ := c5 b2
      obtain ⟨w8, hw8⟩ : ∃ w8, w8 = st5 w1 (w.heap.size + 1 + 1) (.int .i64 0) (.int .i64 0) (.int .i64 0) (.int .i64 0) (.slice none 0 0) := ⟨_, rfl⟩
      rw [← hw8] at b3 b4 b5 b6 b7 hbl hfar
      have HW8 := Lib.hid hw8
      have HBL := Lib.hid hbl
      have HFAR := Lib.hid hfar
      obtain ⟨⟨r0, r1, r2, r3, r4⟩, f0, f1, f2, f3, f4⟩ := c5 hq2
      clear b2 hbl hw8 hq2 hfar
      go_wp2_with fail
      rw [show ((((w1.setCell ⟨w.heap.size + 1 + 1, 0, none⟩ (.int .i64 0)).setCell ⟨w.heap.size + 1 + 1, 1, none⟩ (.int .i64 0)).setCell ⟨w.heap.size + 1 + 1, 2, none⟩ (.int .i64 0)).setCell ⟨w.heap.size + 1 + 1, 3, none⟩ (.int .i64 0)).setCell ⟨w.heap.size + 1 + 1, 4, none⟩ (.slice none 0 0) = w8 from HW8.out.symm]
      refine bodyPost_ret (v := .tuple #[zeroC, .int .i64 z]) (by simp [results, Try.results41, go_sem, b3, b4, b5, b6, b7]) rfl ?_
      refine (HR.out _ _).2 ⟨.inl ?_, HBL.out⟩
      rw [HI.out, ← HZZ.out]
      exact ⟨HZ.out, rfl⟩
    · obtain ⟨pz, cz, hsz⟩ : ∃ pz cz, slA t' = .slice pz t'.ks.length cz := slV_slice _ _ _
      obtain ⟨nz, hnz⟩ : ∃ nz, nz = t'.ks.length := ⟨_, rfl⟩
      rw [← hnz] at hsz
      rw [hsz]
      obtain ⟨ta, hta⟩ : ∃ ta, ta = t'.a := ⟨_, rfl⟩
      rw [← hta]
      have HZ := Lib.hid hz
      have HO := Lib.hid ho
      have HND := Lib.hid hnd
      have HGE := Lib.hid hge
      have HE := Lib.hid he
      have HSL := Lib.hid hsz
      have HTA := Lib.hid hta
      clear hz ho hnd hge he hsz hnz hta
      have b2 := blk_st5 hq2 (.int .i64 ta.d.k) (.int .i64 ta.d.w) (.int .i64 ta.d.c) (.int .i64 ta.d.s) (.slice pz nz cz)
      have hbl := below_st5 (g := w.heap.size + 1 + 1) HB1.out (by omega) (.int .i64 ta.d.k) (.int .i64 ta.d.w) (.int .i64 ta.d.c) (.int .i64 ta.d.s) (.slice pz nz cz)
      have hfar := far_st5 w1 (w.heap.size + 1 + 1) (.int .i64 ta.d.k) (.int .i64 ta.d.w) (.int .i64 ta.d.c) (.int .i64 ta.d.s) (.slice pz nz cz)
      obtain ⟨⟨b3, b4, b5, b6, b7⟩, -⟩ := c5 b2
      obtain ⟨w8, hw8⟩ : ∃ w8, w8 = st5 w1 (w.heap.size + 1 + 1) (.int .i64 ta.d.k) (.int .i64 ta.d.w) (.int .i64 ta.d.c) (.int .i64 ta.d.s) (.slice pz nz cz) := ⟨_, rfl⟩
      rw [← hw8] at b3 b4 b5 b6 b7 hbl hfar
      have HW8 := Lib.hid hw8
      have HBL := Lib.hid hbl
      have HFAR := Lib.hid hfar
      obtain ⟨⟨r0, r1, r2, r3, r4⟩, f0, f1, f2, f3, f4⟩ := c5 hq2
      clear b2 hbl hw8 hq2 hfar
      go_wp2_with fail
      rw [show ((((w1.setCell ⟨w.heap.size + 1 + 1, 0, none⟩ (.int .i64 ta.d.k)).setCell ⟨w.heap.size + 1 + 1, 1, none⟩ (.int .i64 ta.d.w)).setCell ⟨w.heap.size + 1 + 1, 2, none⟩ (.int .i64 ta.d.c)).setCell ⟨w.heap.size + 1 + 1, 3, none⟩ (.int .i64 ta.d.s)).setCell ⟨w.heap.size + 1 + 1, 4, none⟩ (.slice pz nz cz) = w8 from HW8.out.symm]
      refine bodyPost_ret (v := .tuple #[.agg #[.int .i64 ta.d.k, .int .i64 ta.d.w, .int .i64 ta.d.c, .int .i64 ta.d.s, .slice pz nz cz], .int .i64 0]) (by simp [results, Try.results41, go_sem, b3, b4, b5, b6, b7]) rfl ?_
      refine (HR.out _ _).2 ⟨.inr ?_, HBL.out⟩
      rw [HI.out]
      refine ⟨HZ.out, t', HO.out.same fun b hb => HFAR.out b fun e => ?_, HND.out, fun b hb => Nat.le_trans HB.out.size (HGE.out b hb), HE.out, ?_⟩
      · have h1 := HGE.out b hb
        have h2 := HSZ.out
        omega
      · rw [HSL.out, ← HTA.out]
end Go.Proofs.Ytjeabkcbaielhaa.Co
