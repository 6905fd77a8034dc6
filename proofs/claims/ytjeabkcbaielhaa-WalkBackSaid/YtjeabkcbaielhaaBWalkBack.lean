/- The example of layer 12's laws. Plain: what is moved is a tree with the same clients. WalkKeeps, walked. Plain: who goes past a leaf and back again is where it was. WalkBack, walked. Arguments that are slices of ints, opened; and the last step of a law's row, whatever its arguments are, where 'Below' is known of the world behind the call. An argument that is a container, opened. The law WalkBack holds for every input: the call returns true, and each argument reads behind it as it read before. No condition. -/
import Derived.Test.YtjeabkcbaielhaaB2
import Derived.Test.YtjeabkcbaielhaaBA
import Derived.Test.YtjeabkcbaielhaaProg
import Derived.WalkKit
import Derived.ProofKit
import Derived.Below
import Derived.ChangeSame
import Derived.ChangeSlices
import Derived.Test.YtjeabkcbaielhaaCpZ
import Derived.Deep.Slices
import Derived.Deep.Fields
import Derived.SizedLaws
import Derived.Test.YtjeabkcbaielhaaRows
import Derived.Lib.SmallJoins
import Derived.Laws.Cover2
import Derived.ChangeMaps5
section
namespace Go.Proofs.Ytjeabkcbaielhaa.Co
open Go.RowKit Go.Shelf
def lfW (w c s : Int) : Con := .mk ⟨0, w, c, s⟩ []
def TW : Con := .mk ⟨1, 1, 0, 0⟩ [lfW 1 1 0, .mk ⟨2, 1, 0, 0⟩ [lfW 1 2 0, lfW 1 3 5]]
def TM1 : Con := .mk ⟨1, 1, 0, 0⟩ [lfW 1 1 0, .mk ⟨2, 1, 0, 0⟩ [lfW 1 3 5, lfW 1 2 0]]
def TM2 : Con := .mk ⟨1, 1, 0, 0⟩ [lfW 1 1 0, lfW 1 3 5, lfW 65536 2 0]
theorem awn1 : nextI TW 1 2 = (3, 0) := by kernel_rfl
theorem awn2 : nextI TW 2 1 = (1, 0) := by kernel_rfl
theorem awm1 : movI TW 3 3 = (TM1, 0) := by kernel_rfl
theorem awm2 : movI TW 2 2 = (TM2, 0) := by kernel_rfl
theorem awl1 : leavesI TM1 = [1, 3, 2] := by kernel_rfl
theorem awl2 : leavesI TM2 = [1, 3, 2] := by kernel_rfl
theorem lfW_fine {w c s : Int} (hw : -100000 ≤ w ∧ w ≤ 100000) (hc : -100000 ≤ c ∧ c ≤ 100000) (hs : -100000 ≤ s ∧ s ≤ 100000) : fine (lfW w c s) := fine_mk ⟨i64c 0 (by decide), i64c w hw, i64c c hc, i64c s hs⟩ (by simp) (by simp)
theorem spW_wide (k : Int) (h : -100000 ≤ k ∧ k ≤ 100000) : (⟨k, 1, 0, 0⟩ : D).wide := ⟨i64c k h, i64c 1 (by decide), i64c 0 (by decide), i64c 0 (by decide)⟩
theorem TW_fine : fine TW := fine_mk (spW_wide _ (by decide)) (by simp) (by
  intro x hx
  simp only [List.mem_cons, List.not_mem_nil, or_false] at hx
  rcases hx with rfl | rfl
  · exact lfW_fine (by decide) (by decide) (by decide)
  · exact fine_mk (spW_wide _ (by decide)) (by simp) (by
      intro x hx
      simp only [List.mem_cons, List.not_mem_nil, or_false] at hx
      rcases hx with rfl | rfl
      all_goals exact lfW_fine (by decide) (by decide) (by decide)))
theorem TM1_fine : fine TM1 := fine_mk (spW_wide _ (by decide)) (by simp) (by
  intro x hx
  simp only [List.mem_cons, List.not_mem_nil, or_false] at hx
  rcases hx with rfl | rfl
  · exact lfW_fine (by decide) (by decide) (by decide)
  · exact fine_mk (spW_wide _ (by decide)) (by simp) (by
      intro x hx
      simp only [List.mem_cons, List.not_mem_nil, or_false] at hx
      rcases hx with rfl | rfl
      all_goals exact lfW_fine (by decide) (by decide) (by decide)))
theorem TM2_fine : fine TM2 := fine_mk (spW_wide _ (by decide)) (by simp) (by
  intro x hx
  simp only [List.mem_cons, List.not_mem_nil, or_false] at hx
  rcases hx with rfl | rfl | rfl
  all_goals exact lfW_fine (by decide) (by decide) (by decide))
theorem TW_cnt : cnt TW ≤ 500 := by decide +kernel
theorem TW_small : Small TW := small_of (Nat.le_trans TW_cnt (by decide)) TW_fine
theorem TM1_small : Small TM1 := small_of (by decide +kernel) TM1_fine
theorem TM2_small : Small TM2 := small_of (by decide +kernel) TM2_fine
theorem tree12_c (w : World) : Calls Try.prog 83 #[] w fun e w' => (∃ p c, e = .returned (.agg #[.int .i64 1, .int .i64 1, .int .i64 0, .int .i64 0, .slice p 2 c]) ∧ KV w' (fun b => b < w'.heap.size) TW.ks (.slice p 2 c)) ∧ Below w.heap.size w w' := by
  go_enter Try.func83, Try.ntmps83
  go_wp2_with fail
  obtain ⟨wF, hwF⟩ : ∃ wF, wF = ((w.alloc (.cells #[.int .i64 1, .int .i64 1, .int .i64 0, .int .i64 0, .slice (some ⟨w.heap.size + 1 + 1, 0, none⟩) 2 2] 24)).alloc (.cells #[.int .i64 0, .int .i64 1, .int .i64 2, .int .i64 0, .slice none 0 0, .int .i64 0, .int .i64 1, .int .i64 3, .int .i64 5, .slice none 0 0] 24)).alloc (.cells #[.int .i64 0, .int .i64 1, .int .i64 1, .int .i64 0, .slice none 0 0, .int .i64 2, .int .i64 1, .int .i64 0, .int .i64 0, .slice (some ⟨w.heap.size + 1, 0, none⟩) 2 2] 24) := ⟨_, rfl⟩
  have q0 : Blk wF w.heap.size 24 #[.int .i64 1, .int .i64 1, .int .i64 0, .int .i64 0, .slice (some ⟨w.heap.size + 1 + 1, 0, none⟩) 2 2] := by rw [hwF]; exact ((Blk.new w 24 _).alloc _).alloc _
  have q1 : Blk wF (w.heap.size + 1) 24 #[.int .i64 0, .int .i64 1, .int .i64 2, .int .i64 0, .slice none 0 0, .int .i64 0, .int .i64 1, .int .i64 3, .int .i64 5, .slice none 0 0] := by
    rw [hwF]; have := (Blk.new (w.alloc (.cells #[.int .i64 1, .int .i64 1, .int .i64 0, .int .i64 0, .slice (some ⟨w.heap.size + 1 + 1, 0, none⟩) 2 2] 24)) 24 #[.int .i64 0, .int .i64 1, .int .i64 2, .int .i64 0, .slice none 0 0, .int .i64 0, .int .i64 1, .int .i64 3, .int .i64 5, .slice none 0 0]).alloc (.cells #[.int .i64 0, .int .i64 1, .int .i64 1, .int .i64 0, .slice none 0 0, .int .i64 2, .int .i64 1, .int .i64 0, .int .i64 0, .slice (some ⟨w.heap.size + 1, 0, none⟩) 2 2] 24); rwa [World.size_alloc] at this
  have q2 : Blk wF (w.heap.size + 1 + 1) 24 #[.int .i64 0, .int .i64 1, .int .i64 1, .int .i64 0, .slice none 0 0, .int .i64 2, .int .i64 1, .int .i64 0, .int .i64 0, .slice (some ⟨w.heap.size + 1, 0, none⟩) 2 2] := by
    rw [hwF]; have := Blk.new ((w.alloc (.cells #[.int .i64 1, .int .i64 1, .int .i64 0, .int .i64 0, .slice (some ⟨w.heap.size + 1 + 1, 0, none⟩) 2 2] 24)).alloc (.cells #[.int .i64 0, .int .i64 1, .int .i64 2, .int .i64 0, .slice none 0 0, .int .i64 0, .int .i64 1, .int .i64 3, .int .i64 5, .slice none 0 0] 24)) 24 #[.int .i64 0, .int .i64 1, .int .i64 1, .int .i64 0, .slice none 0 0, .int .i64 2, .int .i64 1, .int .i64 0, .int .i64 0, .slice (some ⟨w.heap.size + 1, 0, none⟩) 2 2]; rwa [World.size_alloc, World.size_alloc] at this
  have hb : Below w.heap.size w wF := by rw [hwF]; exact (((Below.refl w.heap.size w).alloc (Nat.le_refl _) _).alloc (by simp) _).alloc (by simp; omega) _
  have hw9 : ∀ c s : Int, -100000 ≤ c ∧ c ≤ 100000 → -100000 ≤ s ∧ s ≤ 100000 → D.wide ⟨0, 1, c, s⟩ := fun c s h1 h2 => ⟨i64c 0 (by decide), i64c 1 (by decide), i64c c h1, i64c s h2⟩
  have k1 := KV.pair (x := lfW 1 2 0) (y := lfW 1 3 5) q1 (Z := fun b => b < wF.heap.size) q1.lt (KV.nil wF _ none 0) (hw9 2 0 (by decide) (by decide)) (KV.nil wF _ none 0) (hw9 3 5 (by decide) (by decide))
  have k2 := KV.pair (x := lfW 1 1 0) (y := .mk ⟨2, 1, 0, 0⟩ [lfW 1 2 0, lfW 1 3 5]) q2 (Z := fun b => b < wF.heap.size) q2.lt (KV.nil wF _ none 0) (hw9 1 0 (by decide) (by decide)) k1 (spW_wide 2 (by decide))
  rw [← hwF]
  obtain ⟨⟨b0, b1, b2, b3, b4⟩, -⟩ := c5 q0
  exact bodyPost_ret (v := .agg #[.int .i64 1, .int .i64 1, .int .i64 0, .int .i64 0, .slice (some ⟨w.heap.size + 1 + 1, 0, none⟩) 2 2]) (by simp [results, Try.results83, go_sem, b0, b1, b2, b3, b4]) rfl ⟨⟨_, _, rfl, k2⟩, hb⟩
theorem nxA_c (w : World) (p : Option Addr) (c : Nat) (hK : KV w (fun b => b < w.heap.size) TW.ks (.slice p 2 c)) : Calls Try.prog 48 #[.agg #[.int .i64 1, .int .i64 1, .int .i64 0, .int .i64 0, .slice p 2 c], .int .i64 1, .int .i64 2] w fun e w' => e = .returned (.tuple #[.int .i64 3, .int .i64 0]) ∧ Below w.heap.size w w' := by
  have := Next_c TW (.slice p 2 c) 1 2 w hK TW_small.wide TW_small.ht
  rw [awn1] at this
  exact this
theorem nxB_c (w : World) (p : Option Addr) (c : Nat) (hK : KV w (fun b => b < w.heap.size) TW.ks (.slice p 2 c)) : Calls Try.prog 48 #[.agg #[.int .i64 1, .int .i64 1, .int .i64 0, .int .i64 0, .slice p 2 c], .int .i64 2, .int .i64 1] w fun e w' => e = .returned (.tuple #[.int .i64 1, .int .i64 0]) ∧ Below w.heap.size w w' := by
  have := Next_c TW (.slice p 2 c) 2 1 w hK TW_small.wide TW_small.ht
  rw [awn2] at this
  exact this
theorem mvA_c (w : World) (p : Option Addr) (c : Nat) (hK : KV w (fun b => b < w.heap.size) TW.ks (.slice p 2 c)) : Calls Try.prog 50 #[.agg #[.int .i64 1, .int .i64 1, .int .i64 0, .int .i64 0, .slice p 2 c], .int .i64 3, .int .i64 3] w fun e w' => (∃ p c, e = .returned (.tuple #[.agg #[.int .i64 1, .int .i64 1, .int .i64 0, .int .i64 0, .slice p 2 c], .int .i64 0]) ∧ KV w' (fun b => b < w'.heap.size) TM1.ks (.slice p 2 c)) ∧ Below w.heap.size w w' := by
  have := Move_c TW (.slice p 2 c) 3 3 w hK TW_small TW_cnt
  rw [awm1] at this
  refine this.mono fun e w' h => ?_
  obtain ⟨y, p, n, k, rfl, hk, hy, hb⟩ := h
  rw [if_pos rfl] at hy
  subst hy
  have hn := hk.cap.1
  subst hn
  exact ⟨⟨p, k, rfl, hk.all⟩, hb⟩
theorem mvB_c (w : World) (p : Option Addr) (c : Nat) (hK : KV w (fun b => b < w.heap.size) TW.ks (.slice p 2 c)) : Calls Try.prog 50 #[.agg #[.int .i64 1, .int .i64 1, .int .i64 0, .int .i64 0, .slice p 2 c], .int .i64 2, .int .i64 2] w fun e w' => (∃ p c, e = .returned (.tuple #[.agg #[.int .i64 1, .int .i64 1, .int .i64 0, .int .i64 0, .slice p 3 c], .int .i64 0]) ∧ KV w' (fun b => b < w'.heap.size) TM2.ks (.slice p 3 c)) ∧ Below w.heap.size w w' := by
  have := Move_c TW (.slice p 2 c) 2 2 w hK TW_small TW_cnt
  rw [awm2] at this
  refine this.mono fun e w' h => ?_
  obtain ⟨y, p, n, k, rfl, hk, hy, hb⟩ := h
  rw [if_pos rfl] at hy
  subst hy
  have hn := hk.cap.1
  subst hn
  exact ⟨⟨p, k, rfl, hk.all⟩, hb⟩
set_option maxHeartbeats 2000000 in
theorem order_c (y : Con) (p : Option Addr) (n k : Nat) (a b d : Int) (w : World) (hK : KV w (fun b => b < w.heap.size) y.ks (.slice p n k)) (hs : Small y) (hl : leavesI y = [a, b, d]) : Calls Try.prog 84 #[.agg #[.int .i64 y.a.k, .int .i64 y.a.w, .int .i64 y.a.c, .int .i64 y.a.s, .slice p n k], .int .i64 a, .int .i64 b, .int .i64 d] w fun e w' => e = .returned (.bool true) ∧ Below w.heap.size w w' := by
  have hb0 := (Below.refl w.heap.size w).alloc (Nat.le_refl _) (.cells #[.int .i64 y.a.k, .int .i64 y.a.w, .int .i64 y.a.c, .int .i64 y.a.s, .slice p n k] 24)
  have HL := Lib.hid (lvs_k (hK.next hb0).all hs)
  have HB := Lib.hid hb0
  have HE := Lib.hid hl
  obtain ⟨⟨b0, b1, b2, b3, b4⟩, -⟩ := c5 (Blk.new w 24 #[.int .i64 y.a.k, .int .i64 y.a.w, .int .i64 y.a.c, .int .i64 y.a.s, .slice p n k])
  clear hb0 hK hs hl
  go_enter Try.func84, Try.ntmps84
  go_wp2_with fail
  refine HL.out.mono ?_
  rintro e w1 ⟨hb, pl, l, kl, rfl, hri, hle⟩
  rw [HE.out] at hle
  subst hle
  have HB1 := HB.out.trans (hb.mono HB.out.size)
  obtain ⟨p9, k9, e9, hcell⟩ := hri
  have e1 := (Value.slice.inj e9).1
  subst e1
  obtain ⟨g, o, rfl, -, h0⟩ := hcell 0 a rfl
  obtain ⟨g', o', e2, -, h1⟩ := hcell 1 b rfl
  obtain ⟨rfl, rfl⟩ : g = g' ∧ o = o' := by have := Addr.mk.inj (Option.some.inj e2); exact ⟨this.1, this.2.1⟩
  obtain ⟨g', o', e3, -, h2⟩ := hcell 2 d rfl
  obtain ⟨rfl, rfl⟩ : g = g' ∧ o = o' := by have := Addr.mk.inj (Option.some.inj e3); exact ⟨this.1, this.2.1⟩
  simp only [Nat.add_zero] at h0
  have hl3 : ([a, b, d] : List Int).length = 3 := rfl
  rw [hl3]
  clear hcell e9 e2 e3 hb HL HB HE hl3
  go_wp2_with fail
  go_ret
  exact ⟨rfl, HB1⟩
set_option maxHeartbeats 8000000 in
set_option maxRecDepth 100000 in
theorem awake12_c (w : World) : Calls Try.prog 47 #[] w fun e w' => e = .returned (.bool true) ∧ Below w.heap.size w w' := by
  have HT := Lib.hid (fun W => tree12_c W)
  have HNA := Lib.hid (fun W p c h => nxA_c W p c h)
  have HNB := Lib.hid (fun W p c h => nxB_c W p c h)
  have HMA := Lib.hid (fun W p c h => mvA_c W p c h)
  have HMB := Lib.hid (fun W p c h => mvB_c W p c h)
  go_enter Try.func47, Try.ntmps47
  go_wp2_with fail
  refine (HT.out _).mono ?_
  rintro e w1 ⟨⟨p1, c1, rfl, hk1⟩, hb1⟩
  go_wp2_with fail
  refine (HNA.out _ _ _ hk1).mono ?_
  rintro e w2 ⟨rfl, hb2⟩
  have HB2 := Lib.hid (hb1.trans (hb2.mono hb1.size))
  clear hk1 hb1 hb2
  go_wp2_with fail
  refine (HT.out _).mono ?_
  rintro e w1 ⟨⟨p1, c1, rfl, hk1⟩, hb1⟩
  go_wp2_with fail
  refine (HNB.out _ _ _ hk1).mono ?_
  rintro e w4 ⟨rfl, hb2⟩
  have HB4 := Lib.hid (HB2.out.trans ((hb1.trans (hb2.mono hb1.size)).mono HB2.out.size))
  clear hk1 hb1 hb2 HB2
  go_wp2_with fail
  refine (HT.out _).mono ?_
  rintro e w1 ⟨⟨p1, c1, rfl, hk1⟩, hb1⟩
  go_wp2_with fail
  refine (HMA.out _ _ _ hk1).mono ?_
  rintro e w5 ⟨⟨pA, cA, rfl, hkA⟩, hb2⟩
  have HB5 := Lib.hid (HB4.out.trans ((hb1.trans (hb2.mono hb1.size)).mono HB4.out.size))
  have HKA := Lib.hid hkA
  clear hk1 hb1 hb2 HB4 hkA
  go_upto_region 4 with fail
  obtain ⟨w6, hw6⟩ : ∃ w6, w6 = w5.alloc (.cells #[.int .i64 1, .int .i64 1, .int .i64 0, .int .i64 0, .slice pA 2 cA] 24) := ⟨_, rfl⟩
  have hb6 : Below w5.heap.size w5 w6 := by rw [hw6]; exact (Below.refl _ _).alloc (Nat.le_refl _) _
  have hq6 : Blk w6 w5.heap.size 24 #[.int .i64 1, .int .i64 1, .int .i64 0, .int .i64 0, .slice pA 2 cA] := by rw [hw6]; exact Blk.new _ _ _
  rw [← hw6]
  obtain ⟨gA, hgA⟩ : ∃ g, g = w5.heap.size := ⟨_, rfl⟩
  rw [← hgA] at hq6 ⊢
  have HB6 := Lib.hid (HB5.out.trans (hb6.mono HB5.out.size))
  have HQA := Lib.hid hq6
  have HKA6 := Lib.hid (HKA.out.next hb6).all
  clear hw6 hb6 hq6 hgA HB5 HKA
  go_wp2_with fail
  refine (HT.out _).mono ?_
  rintro e w1 ⟨⟨p1, c1, rfl, hk1⟩, hb1⟩
  go_wp2_with fail
  refine (HMB.out _ _ _ hk1).mono ?_
  rintro e w7 ⟨⟨pB, cB, rfl, hkB⟩, hb2⟩
  have hb67 := hb1.trans (hb2.mono hb1.size)
  have HB7 := Lib.hid (HB6.out.trans (hb67.mono HB6.out.size))
  have HQA7 := Lib.hid (HQA.out.next hb67)
  have HKA7 := Lib.hid (HKA6.out.next hb67).all
  have HKB := Lib.hid hkB
  clear hk1 hb1 hb2 hb67 HB6 HQA HKA6 hkB
  go_upto_region 5 with fail
  obtain ⟨w8, hw8⟩ : ∃ w6, w6 = w7.alloc (.cells #[.int .i64 1, .int .i64 1, .int .i64 0, .int .i64 0, .slice pB 3 cB] 24) := ⟨_, rfl⟩
  have hb8 : Below w7.heap.size w7 w8 := by rw [hw8]; exact (Below.refl _ _).alloc (Nat.le_refl _) _
  have hq8 : Blk w8 w7.heap.size 24 #[.int .i64 1, .int .i64 1, .int .i64 0, .int .i64 0, .slice pB 3 cB] := by rw [hw8]; exact Blk.new _ _ _
  rw [← hw8]
  obtain ⟨gB, hgB⟩ : ∃ g, g = w7.heap.size := ⟨_, rfl⟩
  rw [← hgB] at hq8 ⊢
  have HB8 := Lib.hid (HB7.out.trans (hb8.mono HB7.out.size))
  have HQA8 := Lib.hid (HQA7.out.next hb8)
  have HQB8 := Lib.hid hq8
  have HKA8 := Lib.hid (HKA7.out.next hb8).all
  have HKB8 := Lib.hid (HKB.out.next hb8).all
  clear hw8 hb8 hq8 hgB HB7 HQA7 HKA7 HKB
  have HOA := Lib.hid (fun W (h : KV W (fun b => b < W.heap.size) TM1.ks (.slice pA 2 cA)) => order_c TM1 pA 2 cA 1 3 2 W h TM1_small awl1)
  have HOB := Lib.hid (fun W (h : KV W (fun b => b < W.heap.size) TM2.ks (.slice pB 3 cB)) => order_c TM2 pB 3 cB 1 3 2 W h TM2_small awl2)
  obtain ⟨⟨x0, x1, x2, x3, x4⟩, -⟩ := c5 HQA8.out
  go_wp2_with fail
  refine (HOA.out _ HKA8.out).mono ?_
  rintro e w9 ⟨rfl, hb⟩
  have HB9 := Lib.hid (HB8.out.trans (hb.mono HB8.out.size))
  have HQB9 := Lib.hid (HQB8.out.next hb)
  have HKB9 := Lib.hid (HKB8.out.next hb).all
  clear hb x0 x1 x2 x3 x4 HB8 HQB8 HKB8 HQA8 HKA8
  obtain ⟨⟨x0, x1, x2, x3, x4⟩, -⟩ := c5 HQB9.out
  go_wp2_with fail
  refine (HOB.out _ HKB9.out).mono ?_
  rintro e w10 ⟨rfl, hb⟩
  have HB10 := Lib.hid (HB9.out.trans (hb.mono HB9.out.size))
  obtain ⟨⟨y0, y1, y2, y3, y4⟩, -⟩ := c5 (HQB9.out.next hb)
  clear hb x0 x1 x2 x3 x4
  go_wp2_with fail
  go_ret
  exact ⟨rfl, HB10.out⟩
end Go.Proofs.Ytjeabkcbaielhaa.Co
end
section
namespace Go.Proofs.Ytjeabkcbaielhaa.Co
open Go.RowKit Go.Shelf
theorem cntL_perm {l m : List Con} (h : l.Perm m) : cntL l = cntL m := by
  induction h with
  | nil => rfl
  | cons x _ ih => simp only [cntL, ih]
  | swap x y l => simp only [cntL]; omega
  | trans _ _ h1 h2 => exact h1.trans h2
theorem tree_perm {x y : Con} (htr : treeB x = true) (h1 : shape y 0 = true) (hp : (clients y).Perm (clients x)) : treeB y = true := by
  obtain ⟨-, t2, t3⟩ := tree_parts htr
  exact tree_of h1 (hp.nodup_iff.2 t2) (by rw [← clients_len, hp.length_eq, clients_len]; exact t3)
/-- Keeps: a tree of the same clients, of hardly more containers. -/
def Keeps (x y : Con) : Prop := treeB y = true ∧ (clients y).Perm (clients x) ∧ cnt y ≤ cnt x + 1
theorem put_keeps {x s s' : Con} {v : List Nat} (htr : treeB x = true) (hs : get x v = some s) (hS : shape s' v.length = true) (hc : (clients s').Perm (clients s)) (hn : cnt s' ≤ cnt s + 1) : Keeps x (put x v s') := by
  have h1 := (tree_parts htr).1
  obtain ⟨l1, l2, e1, e2⟩ := clients_put h1 hs
  have hp : (clients (put x v s')).Perm (clients x) := by
    rw [e1, e2 s']
    exact (List.Perm.append_left l1 hc).append_right l2
  refine ⟨tree_perm htr (shape_put h1 hs (by rw [Nat.zero_add]; exact hS)) hp, hp, ?_⟩
  have := cnt_put (s' := s') hs
  omega
theorem swap_keeps {x p y z : Con} {v : List Nat} {i j : Nat} (htr : treeB x = true) (hp : get x v = some p) (hy : p.ks[i]? = some y) (hz : p.ks[j]? = some z) : Keeps x (swapK x v p i j y z) := by
  have h1 := (tree_parts htr).1
  have hs := shape_get h1 hp
  rw [Nat.zero_add] at hs
  have hk : p.a.k ≠ 0 := fun hk => by have := shape_leaf hs hk; rw [this] at hy; cases hy
  obtain ⟨pa, ks⟩ := p
  simp only [Tr.ks_mk, Tr.a_mk] at hy hz hk
  obtain ⟨hi, rfl⟩ := List.getElem?_eq_some_iff.1 hy
  obtain ⟨hj, rfl⟩ := List.getElem?_eq_some_iff.1 hz
  have hpm : ((ks.set i ks[j]).set j ks[i]).Perm ks := List.set_set_perm hi hj
  obtain ⟨p1, p2, p3, p4, p5, p6, p7, p8, p9, p10⟩ := split_shape9 hs hk
  show Keeps x (put x v (.mk pa ((ks.set i ks[j]).set j ks[i])))
  refine put_keeps htr hp (shape_splitI9 p1 p2 p3 p4 p5 p6 p7 (by rw [hpm.length_eq]; exact p8) (by rw [hpm.length_eq]; exact p9) fun t ht => p10 t (hpm.mem_iff.1 ht)) ?_ ?_
  · rw [clients_mk (a := pa) hk, clients_mk (a := pa) hk]
    exact hpm.flatMap_right _
  · show cnt (.mk pa ((ks.set i ks[j]).set j ks[i])) ≤ cnt (.mk pa ks) + 1
    rw [cnt_mk, cnt_mk, cntL_perm hpm]; omega
end Go.Proofs.Ytjeabkcbaielhaa.Co
end
section
namespace Go.Proofs.Ytjeabkcbaielhaa.Co
open Go.RowKit Go.Shelf
end Go.Proofs.Ytjeabkcbaielhaa.Co
end
section
namespace Go.Proofs.Ytjeabkcbaielhaa.Co
open Go.RowKit Go.Shelf
/-- The other way. -/
def backD (d : Int) : Int := if d = 1 then 2 else if d = 2 then 1 else if d = 3 then 4 else 3
theorem back_dir {d : Int} (h1 : 1 ≤ d) (h4 : d ≤ 4) : 1 ≤ backD d ∧ backD d ≤ 4 ∧ aheadB (backD d) = !aheadB d ∧ ∀ k, alongB k (backD d) = alongB k d := by
  have hd : d = 1 ∨ d = 2 ∨ d = 3 ∨ d = 4 := by omega
  rcases hd with rfl | rfl | rfl | rfl
  all_goals exact ⟨by decide, by decide, by decide, fun k => rfl⟩
theorem back_bes {k : Int} {n i j : Nat} {d : Int} (h1 : 1 ≤ d) (h4 : d ≤ 4) (hi : i < n) (h : besI k n i d = some j) : besI k n j (backD d) = some i := by
  obtain ⟨-, -, hb, ha⟩ := back_dir h1 h4
  obtain ⟨hj, hal, hd⟩ := besI_lt h hi
  unfold besI
  rw [ha, if_pos hal, hb]
  rcases hd with ⟨h9, h10⟩ | ⟨h9, h10⟩
  · rw [h9]; simp only [Bool.not_true, Bool.false_eq_true, if_false]
    rw [if_pos (by omega)]; congr 1
  · rw [h9]; simp only [Bool.not_false, if_true]
    rw [if_neg (by omega)]; congr 1; omega
/-- A client moved past a leaf, and moved back. -/
theorem back_there {x P y z : Con} {v : List Nat} {i j : Nat} {c d : Int} (htr : treeB x = true) (h1 : 1 ≤ d) (h4 : d ≤ 4) (hu : IsWay x c (v ++ [i])) (hP : get x v = some P) (hy : P.ks[i]? = some y) (hb : besI P.a.k P.ks.length i d = some j) (hz : P.ks[j]? = some z) (hk : z.a.k = 0) :
    movI x c d = (swapK x v P i j y z, 0) ∧ movI (swapK x v P i j y z) c (backD d) = (x, 0) ∧ swapK x v P i j y z ≠ x := by
  have hk9 := swap_keeps htr hP hy hz
  have hw0 : askW x c d = 0 := by unfold askW askedI; rw [if_neg (by omega), if_neg (by rw [htr]; simp), if_neg (by rw [hu.has htr]; simp)]
  have hm : movI x c d = (swapK x v P i j y z, 0) := by rw [movI_at hw0 (findI_of htr hu), movAt_swap hP hy hb hz hk]
  obtain ⟨hi, hyi⟩ := List.getElem?_eq_some_iff.1 hy
  obtain ⟨hj, hzj⟩ := List.getElem?_eq_some_iff.1 hz
  have hij : i ≠ j := by have := (besI_lt hb hi).2.2; omega
  obtain ⟨yl, hyl, hylk, hylc, -⟩ := hu.leaf htr
  have hgy : get x (v ++ [i]) = some y := by rw [get_append _ hP]; obtain ⟨a, ks⟩ := P; simp only [get]; rw [show ks[i]? = some y from hy]
  rw [hgy] at hyl
  have hyl := Option.some.inj hyl
  subst hyl
  -- the tree behind the first move
  obtain ⟨Q, hQ⟩ : ∃ Q : Con, Q = .mk P.a ((P.ks.set i z).set j y) := ⟨_, rfl⟩
  have hx' : swapK x v P i j y z = put x v Q := by rw [hQ]; rfl
  have hgQ : get (put x v Q) v = some Q := get_put_at hP
  have hQj : Q.ks[j]? = some y := by rw [hQ]; simp only [Tr.ks_mk]; rw [List.getElem?_set_self (by simpa using hj)]
  have hQi : Q.ks[i]? = some z := by rw [hQ]; simp only [Tr.ks_mk]; rw [List.getElem?_set_ne (fun h => hij h.symm), List.getElem?_set_self hi]
  have hQl : Q.ks.length = P.ks.length := by rw [hQ]; simp
  have hQa : Q.a = P.a := by rw [hQ]; rfl
  rw [hx'] at hk9 hm ⊢
  have htr' := hk9.1
  have hgj : get (put x v Q) (v ++ [j]) = some y := by rw [get_append _ hgQ]; obtain ⟨a, ks⟩ := Q; simp only [get]; rw [show ks[j]? = some y from hQj]
  have hu' : IsWay (put x v Q) c (v ++ [j]) := isWay_of hgj hylk hylc (by simp)
  obtain ⟨b1, b4, -, -⟩ := back_dir h1 h4
  have hw0' : askW (put x v Q) c (backD d) = 0 := by unfold askW askedI; rw [if_neg (by omega), if_neg (by rw [htr']; simp), if_neg (by rw [hu'.has htr']; simp)]
  have hbb : besI Q.a.k Q.ks.length j (backD d) = some i := by rw [hQl, hQa]; exact back_bes h1 h4 hi hb
  refine ⟨hm, ?_, fun e => ?_⟩
  · rw [movI_at hw0' (findI_of htr' hu'), movAt_swap hgQ hQj hbb hQi hk]
    unfold swapK
    rw [put_put hP]
    have e1 : (Q.ks.set j z).set i y = P.ks := by
      rw [hQ]
      simp only [Tr.ks_mk]
      rw [List.set_set, List.set_comm _ _ (fun h => hij h.symm), ← hzj]
      rw [List.set_set]
      apply List.ext_getElem?
      intro k
      by_cases kj : k = j
      · subst kj; rw [List.getElem?_set_self (by simpa using hj)]; rw [hz, hzj]
      · rw [List.getElem?_set_ne (fun h => kj h.symm)]
        by_cases ki : k = i
        · subst ki; rw [List.getElem?_set_self hi]; exact hy.symm
        · rw [List.getElem?_set_ne (fun h => ki h.symm)]
    rw [hQa, e1]
    rw [show (Tr.mk P.a P.ks : Con) = P by obtain ⟨a, ks⟩ := P; rfl, put_self hP]
  · have h9 : get (put x v Q) (v ++ [j]) = some z := by rw [e, get_append _ hP]; obtain ⟨a, ks⟩ := P; simp only [get]; rw [show ks[j]? = some z from hz]
    rw [hgj] at h9
    have h9 := Option.some.inj h9
    subst h9
    have hgz : get x (v ++ [j]) = some y := by rw [get_append _ hP]; obtain ⟨a, ks⟩ := P; simp only [get]; rw [show ks[j]? = some y from hz]
    have := way_unique (tree_parts htr).1 (tree_parts htr).2.1 hgy hgz hylk hylk rfl
    have := List.append_cancel_left this
    exact hij (List.head_eq_of_cons_eq this)
end Go.Proofs.Ytjeabkcbaielhaa.Co
end
section
namespace Go.Proofs.Ytjeabkcbaielhaa.Co
open Go.RowKit Go.Shelf
set_option linter.unusedSimpArgs false
theorem swap_cnt {x p y z : Con} {v : List Nat} {i j : Nat} (hp : get x v = some p) (hy : p.ks[i]? = some y) (hz : p.ks[j]? = some z) : cnt (swapK x v p i j y z) = cnt x := by
  obtain ⟨pa, ks⟩ := p
  simp only [Tr.ks_mk] at hy hz
  obtain ⟨hi, rfl⟩ := List.getElem?_eq_some_iff.1 hy
  obtain ⟨hj, rfl⟩ := List.getElem?_eq_some_iff.1 hz
  have hpm : ((ks.set i ks[j]).set j ks[i]).Perm ks := List.set_set_perm hi hj
  have h1 := cnt_put (s' := .mk pa ((ks.set i ks[j]).set j ks[i])) hp
  rw [cnt_mk, cnt_mk, cntL_perm hpm] at h1
  show cnt (put x v (.mk pa ((ks.set i ks[j]).set j ks[i]))) = cnt x
  omega
set_option maxHeartbeats 8000000 in
set_option maxRecDepth 100000 in
theorem backs_c (x : Con) (sv : Value) (c d : Int) (w : World) (hK : KV w (fun b => b < w.heap.size) x.ks sv) (hw : x.a.wide) :
    Calls Try.prog 15 #[conV x.a sv, .int .i64 c, .int .i64 d] w fun e w' => e = .returned (.bool true) ∧ Below w.heap.size w w' := by
  obtain ⟨p, cap, rfl, -⟩ := hK.slice
  obtain ⟨n, hn⟩ : ∃ n, n = x.ks.length := ⟨_, rfl⟩
  rw [← hn] at hK ⊢
  have hb0 := (Below.refl w.heap.size w).alloc (Nat.le_refl _) (.cells #[.int .i64 x.a.k, .int .i64 x.a.w, .int .i64 x.a.c, .int .i64 x.a.s, .slice p n cap] 24)
  have hq0 := Blk.new w 24 #[.int .i64 x.a.k, .int .i64 x.a.w, .int .i64 x.a.c, .int .i64 x.a.s, .slice p n cap]
  have HF := Lib.hid (nodes12_c (fun b => b < w.heap.size) x (.slice p n cap) 0 _ (hK.next hb0) (by omega) (by omega))
  have HB := Lib.hid hb0
  have HQ := Lib.hid hq0
  have HK := Lib.hid hK
  have HW := Lib.hid hw
  obtain ⟨z, hz⟩ : ∃ z, z = nodesC x 0 := ⟨_, rfl⟩
  rw [← hz] at HF
  have HZ := Lib.hid hz
  obtain ⟨⟨b0, b1, b2, b3, b4⟩, -⟩ := c5 hq0
  clear hn hK hb0 hq0 hz hw
  show Calls Try.prog 15 #[.agg #[.int .i64 x.a.k, .int .i64 x.a.w, .int .i64 x.a.c, .int .i64 x.a.s, .slice p n cap], .int .i64 c, .int .i64 d] w _
  go_enter Try.func15, Try.ntmps15
  go_wp2_with fail
  refine HF.out.mono ?_
  rintro e w1 ⟨rfl, hb⟩
  have HB1 := Lib.hid (HB.out.trans (hb.mono HB.out.size))
  have HQ1 := Lib.hid (HQ.out.next hb)
  clear hb HF HB HQ b0 b1 b2 b3 b4
  obtain ⟨⟨b0, b1, b2, b3, b4⟩, -⟩ := c5 HQ1.out
  by_cases h5 : z ≤ 500
  rotate_left
  · have h6 : 500 < z := by omega
    clear h5
    go_wp2_with fail
    refine (awake12_c w1).mono ?_
    rintro e w2 ⟨rfl, hb⟩
    have HB2 := HB1.out.trans (hb.mono HB1.out.size)
    clear hb
    go_wp2_with fail
    go_ret
    exact ⟨rfl, HB2⟩
  · have hs := Small.of HK.out HW.out (by rw [← HZ.out]; exact h5)
    have HS := Lib.hid hs
    have h6 : ¬ 500 < z := by omega
    have hcn : cnt x ≤ 500 := few_cnt (by rw [← HZ.out]; omega)
    have HCN := Lib.hid hcn
    clear hcn h5
    by_cases hd1 : d < 1
    · clear hs
      go_wp2_with fail
      refine (awake12_c w1).mono ?_
      rintro e w9 ⟨rfl, hb⟩
      have hb9 := HB1.out.trans (hb.mono HB1.out.size)
      clear hb
      go_wp2_with fail
      go_ret
      exact ⟨rfl, hb9⟩
    by_cases hd4 : 4 < d
    · clear hs
      go_wp2_with fail
      refine (awake12_c w1).mono ?_
      rintro e w9 ⟨rfl, hb⟩
      have hb9 := HB1.out.trans (hb.mono HB1.out.size)
      clear hb
      go_wp2_with fail
      go_ret
      exact ⟨rfl, hb9⟩
    have hck := chkI_k (HK.out.next HB1.out).all hs
    rw [checkI_eq] at hck
    clear hs
    by_cases ht : treeB x = true
    rotate_left
    · rw [if_pos (by cases h : treeB x; rfl; exact absurd h ht)] at hck
      have HC := Lib.hid hck
      clear ht hck
      go_wp2_with fail
      refine HC.out.mono ?_
      rintro e w2 ⟨rfl, hb⟩
      have HB2 := Lib.hid (HB1.out.trans (hb.mono HB1.out.size))
      clear hb HC HB1 HQ1
      go_wp2_with fail
      refine (awake12_c w2).mono ?_
      rintro e w9 ⟨rfl, hb⟩
      have hb9 := HB2.out.trans (hb.mono HB2.out.size)
      clear hb
      go_wp2_with fail
      go_ret
      exact ⟨rfl, hb9⟩
    rw [if_neg (by rw [ht]; simp)] at hck
    have HC := Lib.hid hck
    have HT := Lib.hid ht
    clear ht hck
    go_wp2_with fail
    refine HC.out.mono ?_
    rintro e w2 ⟨rfl, hb⟩
    have HB2 := Lib.hid (HB1.out.trans (hb.mono HB1.out.size))
    have HQ2 := Lib.hid (HQ1.out.next hb)
    clear hb HC HB1 HQ1 b0 b1 b2 b3 b4
    obtain ⟨⟨b0, b1, b2, b3, b4⟩, -⟩ := c5 HQ2.out
    have HFD := Lib.hid (Find_c x (.slice p n cap) c w2 (HK.out.next HB2.out).all HS.out.wide HS.out.ht)
    go_wp2_with fail
    refine HFD.out.mono ?_
    rintro e w3 ⟨hb, v, rfl, hv⟩
    have HB3 := Lib.hid (HB2.out.trans (hb.mono HB2.out.size))
    have HQ3 := Lib.hid (HQ2.out.next hb)
    clear hb HFD HB2 HQ2 b0 b1 b2 b3 b4
    rcases findI_spec (c := c) HT.out with ⟨-, g2⟩ | ⟨-, u, hu, g2⟩
    · rw [g2] at hv ⊢
      have hv : v = .slice none 0 0 := hv
      subst hv
      clear g2
      go_wp2_with fail
      refine (awake12_c w3).mono ?_
      rintro e w9 ⟨rfl, hb⟩
      have hb9 := HB3.out.trans (hb.mono HB3.out.size)
      clear hb
      go_wp2_with fail
      go_ret
      exact ⟨rfl, hb9⟩
    rw [g2] at hv ⊢
    have hv : WV w3 (fun _ => True) u v := hv
    obtain ⟨y, hy, hyk, hyc, hyks, hun, hysh⟩ := hu.leaf HT.out
    obtain ⟨u0, i, rfl⟩ : ∃ u0 i, u = u0 ++ [i] := by
      rcases List.eq_nil_or_concat u with h | ⟨a, b, h⟩
      · exact absurd h hun
      · exact ⟨a, b, by rw [h, List.concat_eq_append]⟩
    obtain ⟨pp, hpp, hPs9⟩ := get_prefix hy
    have hPy : pp.ks[i]? = some y := by
      obtain ⟨a, ks⟩ := pp
      obtain ⟨z, hz, hz2⟩ := get_consP hPs9
      simp only [Co.get] at hz2
      rw [← Option.some.inj hz2]; exact hz
    have hl8 := (leaf_shape hysh hyk).1
    have hkp : pp.a.k ≠ 0 := fun hk => by have := shape_leaf (shape_get (tree_parts HT.out).1 hpp) hk; rw [this] at hPy; cases hPy
    have hkr : 1 ≤ pp.a.k ∧ pp.a.k ≤ 4 := by
      have := shape_get (tree_parts HT.out).1 hpp
      obtain ⟨a, ks⟩ := pp
      obtain ⟨-, -, -, q4, q5, -⟩ := split_shape9 this hkp
      exact ⟨q4, q5⟩
    obtain ⟨q, cu, rfl⟩ := hv.slice
    have hwi := hv.wi (by omega)
    have hmc : (u0 ++ [i]).length ≤ cu := by
      obtain ⟨q', c', e, h2, h3, -⟩ := hv
      obtain ⟨-, -, rfl⟩ := Value.slice.inj e
      exact h3
    obtain ⟨m, hm⟩ : ∃ m, m = u0.length := ⟨_, rfl⟩
    have hml : (u0 ++ [i]).length = m + 1 := by rw [hm]; simp
    rw [hml] at hl8 hmc
    have hwk : WI w3 u0 (.slice q m cu) := by
      have := hwi.take (k := m) (by rw [hml]; omega)
      rw [hm, List.take_left] at this
      rw [hm]; exact this
    rw [hml] at hwi ⊢
    obtain ⟨bw, ow, rfl, hbw, hwc⟩ := hwi.at_ (j := m) (i := i) (by rw [hm]; simp)
    have HZ3 : Hid (∀ b, b < w.heap.size → b < w3.heap.size) := fun b hb => Nat.lt_of_lt_of_le hb HB3.out.size
    have HWK := Lib.hid hwk
    have HPY := Lib.hid hPy
    have HPP := Lib.hid hpp
    have HUW := Lib.hid hu
    have HYK := Lib.hid hyk
    have HKR := Lib.hid hkr
    have hw1 : IntKind.i64.wrap (((m + 1 : Nat) : Int) - 1) = (m : Int) := by rw [IntWalk.i64_in _ (by omega)]; omega
    have hw0 : IntKind.i64.wrap (m : Int) = (m : Int) := IntWalk.i64_in _ (by omega)
    have hm1 : (0 : Int) ≤ (m : Int) := by omega
    have hm9 : m ≤ 100 := by omega
    have hm2 : (m : Int) ≤ ((m + 1 : Nat) : Int) := by omega
    have hm3 : (m : Int) < ((m + 1 : Nat) : Int) := by omega
    have hm4 : m ≤ cu := by omega
    obtain ⟨np, hnp⟩ : ∃ np, np = pp.ks.length := ⟨_, rfl⟩
    have hil : i < np := by rw [hnp]; exact (List.getElem?_eq_some_iff.1 hPy).1
    obtain ⟨pa, hpa⟩ : ∃ pa, pa = pp.a := ⟨_, rfl⟩
    have HNP := Lib.hid hnp
    have HPA := Lib.hid hpa
    obtain ⟨Z, hZ⟩ : ∃ Z, Z = fun b : Nat => b < w.heap.size := ⟨_, rfl⟩
    have HKX : Hid (∀ W, Below w3.heap.size w3 W → KV W Z x.ks (.slice p n cap)) := fun W h => by rw [hZ]; exact HK.out.next (HB3.out.trans (h.mono HB3.out.size))
    have HZW : Hid (∀ b, Z b → b < w3.heap.size) := fun b hb => by rw [hZ] at hb; exact HZ3.out b hb
    have HAT := Lib.hid (fun (W : World) (h : Below w3.heap.size w3 W) => At_c Z x pp (.slice p n cap) u0 (.slice (some ⟨bw, ow, none⟩) m cu) W (HKX.out W h) (fun b hb => Nat.lt_of_lt_of_le (HZW.out b hb) h.size) (HWK.out.next h) HPP.out)
    rw [← hpa] at HAT
    have HSS : Hid (∀ W, Below w3.heap.size w3 W → W.cell? ⟨w.heap.size, 0, none⟩ = some (.int .i64 x.a.k) ∧ W.cell? ⟨w.heap.size, 1, none⟩ = some (.int .i64 x.a.w) ∧ W.cell? ⟨w.heap.size, 2, none⟩ = some (.int .i64 x.a.c) ∧ W.cell? ⟨w.heap.size, 3, none⟩ = some (.int .i64 x.a.s) ∧ W.cell? ⟨w.heap.size, 4, none⟩ = some (.slice p n cap)) := fun W h => by
      obtain ⟨⟨q0, q1, q2, q3, q4⟩, -⟩ := c5 (HQ3.out.next h)
      exact ⟨q0, q1, q2, q3, q4⟩
    obtain ⟨⟨b0, b1, b2, b3, b4⟩, -⟩ := c5 HQ3.out
    clear g2 hv hu hy hyk hyc hyks hun hysh hpp hPs9 hPy hkp hkr hwi hmc hm hml hwk hnp hpa hl8
    obtain ⟨wr, hwr⟩ : ∃ w9, w9 = w3 := ⟨_, rfl⟩
    subst hwr
    go_upto_region 7 with fail
    clear b0 b1 b2 b3 b4
    go_cut [10] (fun s10 wx => ∃ g p3 c3, s10 = .pointer (some ⟨g, 0, none⟩) ∧ Blk wx g 24 #[.int .i64 pa.k, .int .i64 pa.w, .int .i64 pa.c, .int .i64 pa.s, .slice p3 np c3] ∧ KV wx Z pp.ks (.slice p3 np c3) ∧ wr.heap.size ≤ g ∧ Below wr.heap.size wr wx)
    case first =>
      refine wp_region_noPanic ?_
      refine wp_region_held_drew (S := fun wx => wx.cell? ⟨w.heap.size, 0, none⟩ = some (.int .i64 x.a.k) ∧ wx.cell? ⟨w.heap.size, 1, none⟩ = some (.int .i64 x.a.w) ∧ wx.cell? ⟨w.heap.size, 2, none⟩ = some (.int .i64 x.a.c) ∧ wx.cell? ⟨w.heap.size, 3, none⟩ = some (.int .i64 x.a.s) ∧ wx.cell? ⟨w.heap.size, 4, none⟩ = some (.slice p n cap)) (by kernel_rfl) (by exact HSS.out _ (Below.refl _ _).drew) (fun hHeld => ?_)
      refine wpAnyH_take (i := 0) (v := ?va0) rfl (by kernel_rfl) (by kernel_rfl) (by kernel_rfl) (fun _ _ _ h => h) (Or.inl ⟨by kernel_rfl, ?ya0⟩) (by assumption) ?ra0
      case ya0 => (intro wq hSw; (try dsimp only at hSw); go_simp; (try with_reducible rfl))
      (try simp only [Act.put, List.getElem_toArray, List.getElem_cons_zero, List.setIfInBounds_toArray, List.set_cons_zero, List.set_cons_succ])
      refine wpAnyH_take (i := 1) (v := ?va1) rfl (by kernel_rfl) (by kernel_rfl) (by kernel_rfl) (fun _ _ _ h => h) (Or.inl ⟨by kernel_rfl, ?ya1⟩) (by assumption) ?ra1
      case ya1 => (intro wq hSw; (try dsimp only at hSw); go_simp; (try with_reducible rfl))
      (try simp only [Act.put, List.getElem_toArray, List.getElem_cons_succ, List.getElem_cons_zero, List.setIfInBounds_toArray, List.set_cons_zero, List.set_cons_succ])
      refine wpAnyH_take (i := 2) (v := ?va2) rfl (by kernel_rfl) (by kernel_rfl) (by kernel_rfl) (fun _ _ _ h => h) (Or.inl ⟨by kernel_rfl, ?ya2⟩) (by assumption) ?ra2
      case ya2 => (intro wq hSw; (try dsimp only at hSw); go_simp; (try with_reducible rfl))
      (try simp only [Act.put, List.getElem_toArray, List.getElem_cons_succ, List.getElem_cons_zero, List.setIfInBounds_toArray, List.set_cons_zero, List.set_cons_succ])
      refine wpAnyH_take (i := 3) (v := ?va3) rfl (by kernel_rfl) (by kernel_rfl) (by kernel_rfl) (fun _ _ _ h => h) (Or.inl ⟨by kernel_rfl, ?ya3⟩) (by assumption) ?ra3
      case ya3 => (intro wq hSw; (try dsimp only at hSw); go_simp; (try with_reducible rfl))
      (try simp only [Act.put, List.getElem_toArray, List.getElem_cons_succ, List.getElem_cons_zero, List.setIfInBounds_toArray, List.set_cons_zero, List.set_cons_succ])
      obtain ⟨wd, hwd⟩ : ∃ wd, wd = wr.drew := ⟨_, rfl⟩
      have HBd := Lib.hid (show Below wr.heap.size wr wd from hwd ▸ (Below.refl _ _).drew)
      rw [← hwd]
      clear hwd
      refine wpAnyH_ready (rs := [4, 5]) (by kernel_rfl) (by simp) ?_
      refine AllReadyH.cons rfl (fun K hK => ?_) (AllReadyH.cons rfl (fun K hK => ?_) AllReadyH.nil)
      · go_simp
        refine (HAT.out wd HBd.out).mono ?_
        rintro e w5 ⟨hb, s3, rfl, hk⟩
        obtain ⟨p3, c3, rfl, -⟩ := hk.slice
        rw [← HNP.out] at hk ⊢
        have HB5 := Lib.hid (HBd.out.trans (hb.mono HBd.out.size))
        have HK5 := Lib.hid hk
        (try dsimp only)
        refine hK.out _ _ (by exact HSS.out _ HB5.out) (fun hHeld => ?_)
        clear hK K hb hk
        (try simp only [Act.put, List.getElem_toArray, List.getElem_cons_succ, List.getElem_cons_zero, List.setIfInBounds_toArray, List.set_cons_zero, List.set_cons_succ])
        refine wpAnyH_ready (rs := [5]) (by kernel_rfl) (by simp) ?_
        refine AllReadyH.cons rfl (fun K hK => ?_) AllReadyH.nil
        go_simp
        refine hK.out _ _ (by exact HSS.out _ (HB5.out.alloc HB5.out.size (.cells #[.int .i64 0, .int .i64 0, .int .i64 0, .int .i64 0, .slice none 0 0] 24))) (fun hHeld => ?_)
        clear hK K
        (try simp only [Act.put, List.getElem_toArray, List.getElem_cons_succ, List.getElem_cons_zero, List.setIfInBounds_toArray, List.set_cons_zero, List.set_cons_succ])
        obtain ⟨w6, hw6⟩ : ∃ wn, wn = w5.alloc (.cells #[.int .i64 0, .int .i64 0, .int .i64 0, .int .i64 0, .slice none 0 0] 24) := ⟨_, rfl⟩
        have HB6 := Lib.hid (show Below wr.heap.size wr w6 from hw6 ▸ HB5.out.alloc HB5.out.size _)
        have HQ6 := Lib.hid (show Blk w6 w5.heap.size 24 #[.int .i64 0, .int .i64 0, .int .i64 0, .int .i64 0, .slice none 0 0] from hw6 ▸ Blk.new _ _ _)
        have HL6 : Hid (wr.heap.size ≤ w5.heap.size) := HB5.out.size
        have HK6 := Lib.hid (KV.next HK5.out (hw6 ▸ (Below.refl w5.heap.size w5).alloc (Nat.le_refl _) _))
        have HZGa : Hid (∀ b, Z b → b ≠ w5.heap.size) := fun b hb => Nat.ne_of_lt (Nat.lt_of_lt_of_le (HZW.out b hb) HL6.out)
        rw [← hw6]
        clear hw6
        obtain ⟨⟨g0, g1, g2, g3, g4⟩, k0, k1, k2, k3, k4⟩ := c5 HQ6.out
        refine wpAnyH_ready (rs := [6]) (by kernel_rfl) (by simp) ?_
        refine AllReadyH.cons rfl (fun K hK => ?_) AllReadyH.nil
        go_simp
        have hbn := below_st5 HB6.out HL6.out (.int .i64 pa.k) (.int .i64 pa.w) (.int .i64 pa.c) (.int .i64 pa.s) (.slice p3 np c3)
        have hqn := blk_st5 HQ6.out (.int .i64 pa.k) (.int .i64 pa.w) (.int .i64 pa.c) (.int .i64 pa.s) (.slice p3 np c3)
        have hkn := KV.st5 (Z' := Z) HK6.out (fun b hb => HZGa.out b hb) (fun b hb => hb) (.int .i64 pa.k) (.int .i64 pa.w) (.int .i64 pa.c) (.int .i64 pa.s) (.slice p3 np c3)
        refine hK.out _ _ (by exact HSS.out _ hbn) (fun hHeld => ?_)
        clear hK K
        (try simp only [Act.put, List.getElem_toArray, List.getElem_cons_succ, List.getElem_cons_zero, List.setIfInBounds_toArray, List.set_cons_zero, List.set_cons_succ])
        refine wpAnyH_done (by kernel_rfl) ?_ _
        refine NoPanic.normal ?_
        clear g0 g1 g2 g3 g4 k0 k1 k2 k3 k4 hHeld
        go_wp2_with fail
        go_meet
        exact ⟨_, p3, c3, rfl, hqn, hkn, HL6.out, hbn⟩
      · go_simp
        refine hK.out _ _ (by exact HSS.out _ (HBd.out.alloc HBd.out.size (.cells #[.int .i64 0, .int .i64 0, .int .i64 0, .int .i64 0, .slice none 0 0] 24))) (fun hHeld => ?_)
        clear hK K
        (try simp only [Act.put, List.getElem_toArray, List.getElem_cons_succ, List.getElem_cons_zero, List.setIfInBounds_toArray, List.set_cons_zero, List.set_cons_succ])
        obtain ⟨w5, hw5⟩ : ∃ wn, wn = wd.alloc (.cells #[.int .i64 0, .int .i64 0, .int .i64 0, .int .i64 0, .slice none 0 0] 24) := ⟨_, rfl⟩
        have HB5 := Lib.hid (show Below wr.heap.size wr w5 from hw5 ▸ HBd.out.alloc HBd.out.size _)
        have HQ5 := Lib.hid (show Blk w5 wd.heap.size 24 #[.int .i64 0, .int .i64 0, .int .i64 0, .int .i64 0, .slice none 0 0] from hw5 ▸ Blk.new _ _ _)
        have HL5 : Hid (wr.heap.size ≤ wd.heap.size) := HBd.out.size
        have HZGb : Hid (∀ b, Z b → b ≠ wd.heap.size) := fun b hb => Nat.ne_of_lt (Nat.lt_of_lt_of_le (HZW.out b hb) HL5.out)
        rw [← hw5]
        clear hw5
        refine wpAnyH_ready (rs := [4]) (by kernel_rfl) (by simp) ?_
        refine AllReadyH.cons rfl (fun K hK => ?_) AllReadyH.nil
        go_simp
        refine (HAT.out w5 HB5.out).mono ?_
        rintro e w6 ⟨hb, s3, rfl, hk⟩
        obtain ⟨p3, c3, rfl, -⟩ := hk.slice
        rw [← HNP.out] at hk ⊢
        have HB6 := Lib.hid (HB5.out.trans (hb.mono HB5.out.size))
        have HK6 := Lib.hid hk
        have HQ6 := Lib.hid (HQ5.out.next hb)
        (try dsimp only)
        refine hK.out _ _ (by exact HSS.out _ HB6.out) (fun hHeld => ?_)
        clear hK K hb hk
        (try simp only [Act.put, List.getElem_toArray, List.getElem_cons_succ, List.getElem_cons_zero, List.setIfInBounds_toArray, List.set_cons_zero, List.set_cons_succ])
        obtain ⟨⟨g0, g1, g2, g3, g4⟩, k0, k1, k2, k3, k4⟩ := c5 HQ6.out
        refine wpAnyH_ready (rs := [6]) (by kernel_rfl) (by simp) ?_
        refine AllReadyH.cons rfl (fun K hK => ?_) AllReadyH.nil
        go_simp
        have hbn := below_st5 HB6.out HL5.out (.int .i64 pa.k) (.int .i64 pa.w) (.int .i64 pa.c) (.int .i64 pa.s) (.slice p3 np c3)
        have hqn := blk_st5 HQ6.out (.int .i64 pa.k) (.int .i64 pa.w) (.int .i64 pa.c) (.int .i64 pa.s) (.slice p3 np c3)
        have hkn := KV.st5 (Z' := Z) HK6.out (fun b hb => HZGb.out b hb) (fun b hb => hb) (.int .i64 pa.k) (.int .i64 pa.w) (.int .i64 pa.c) (.int .i64 pa.s) (.slice p3 np c3)
        refine hK.out _ _ (by exact HSS.out _ hbn) (fun hHeld => ?_)
        clear hK K
        (try simp only [Act.put, List.getElem_toArray, List.getElem_cons_succ, List.getElem_cons_zero, List.setIfInBounds_toArray, List.set_cons_zero, List.set_cons_succ])
        refine wpAnyH_done (by kernel_rfl) ?_ _
        refine NoPanic.normal ?_
        clear g0 g1 g2 g3 g4 k0 k1 k2 k3 k4 hHeld
        go_wp2_with fail
        go_meet
        exact ⟨_, p3, c3, rfl, hqn, hkn, HL5.out, hbn⟩
    case rest =>
    obtain ⟨g3, p3, c3, rfl, hq3, hk3, hg3, hbc⟩ := hcut
    have HB4 := Lib.hid (HB3.out.trans (hbc.mono HB3.out.size))
    have HX4 := Lib.hid (HQ3.out.next hbc)
    have HQ4 := Lib.hid hq3
    have HK4 := Lib.hid hk3
    have hwc4 : wc.cell? ⟨bw, ow + m, none⟩ = some (.int .i64 (i : Int)) := (cell_same (hbc.block bw hbw) _).trans hwc
    clear HSS HAT HWK hq3 hk3 hbc HZW hwc HB3 HQ3 HKX
    obtain ⟨w4, hw4⟩ : ∃ w4, w4 = wc := ⟨_, rfl⟩
    subst hw4
    have hil9 := hil
    obtain ⟨⟨y0, y1, y2, y3, y4⟩, -⟩ := c5 HQ4.out
    obtain ⟨⟨b0, b1, b2, b3, b4⟩, -⟩ := c5 HX4.out
    have hwp : IntKind.i64.wrap ((i : Int) + 1) = (i : Int) + 1 := IntWalk.i64_in _ (by have := HK4.out.cap; have h9 := HK4.out.slice; obtain ⟨_, _, e, h8⟩ := h9; obtain ⟨-, e2, -⟩ := Value.slice.inj e; omega)
    have hwm : IntKind.i64.wrap ((i : Int) - 1) = (i : Int) - 1 := IntWalk.i64_in _ (by have h9 := HK4.out.slice; obtain ⟨_, _, e, h8⟩ := h9; obtain ⟨-, e2, -⟩ := Value.slice.inj e; omega)
    have hkr := HKR.out
    rw [← HPA.out] at hkr
    obtain ⟨kk, kw, kc, ks9⟩ := pa
    simp only at hkr y0 y1 y2 y3
    have hkd : kk = 1 ∨ kk = 2 ∨ kk = 3 ∨ kk = 4 := by omega
    have hdd : d = 1 ∨ d = 2 ∨ d = 3 ∨ d = 4 := by omega
    clear hkr hd1 hd4 h6
    rcases hdd with rfl | rfl | rfl | rfl
    · rcases hkd with rfl | rfl | rfl | rfl
      · by_cases hi0 : i = 0
        · subst hi0
          go_wp2_with fail
          refine (awake12_c w4).mono ?_
          rintro e w9 ⟨rfl, hb⟩
          have hb9 := HB4.out.trans (hb.mono HB4.out.size)
          clear hb
          go_wp2_with fail
          go_ret
          exact ⟨rfl, hb9⟩
        obtain ⟨z9, hz9⟩ : ∃ z, pp.ks[i - 1]? = some z := ⟨_, List.getElem?_eq_getElem (by rw [← HNP.out]; omega)⟩
        obtain ⟨-, gz, oz, sz, rfl, -, -, -, -, z0, -, -, -, -⟩ := HK4.out.kid hz9
        have hj0 : (0 : Int) ≤ ((i : Int) - 1) := by omega
        have hj1 : ((i : Int) - 1) < (np : Int) := by omega
        have hjn : (((i : Int) - 1)).toNat = i - 1 := by omega
        have hjn2 : ((i - 1 : Nat) : Int) = ((i : Int) - 1) := by omega
        have hnlt : ¬ (np : Int) ≤ ((i : Int) - 1) := by omega
        have hnneg : ¬ ((i : Int) - 1) < 0 := by omega
        by_cases hzk : z9.a.k = 0
        rotate_left
        · have hzb : (z9.a.k == 0) = false := by simpa using hzk
          go_wp2_with fail
          refine (awake12_c w4).mono ?_
          rintro e w9 ⟨rfl, hb⟩
          have hb9 := HB4.out.trans (hb.mono HB4.out.size)
          clear hb
          go_wp2_with fail
          go_ret
          exact ⟨rfl, hb9⟩
        have hzb : (z9.a.k == 0) = true := by simpa using hzk
        have hbes : besI pp.a.k pp.ks.length i 1 = some (i - 1) := by rw [← HPA.out, ← HNP.out]; unfold besI; simp (config := { decide := true }) [alongB, aheadB]; omega
        obtain ⟨m1, m2, m3⟩ := back_there HT.out (by decide) (by decide) HUW.out HPP.out HPY.out hbes hz9 hzk
        have hskf := swapK_fine HS.out.f HPP.out HPY.out hz9
        have hskc := swap_cnt HPP.out HPY.out hz9
        obtain ⟨SK, hSK⟩ : ∃ s, s = swapK x u0 pp i (i - 1) y z9 := ⟨_, rfl⟩
        rw [← hSK] at m1 m2 m3 hskf hskc
        have hsm : Small SK := small_of (by have := HCN.out; omega) hskf
        have hM1 := Move_c x (.slice p n cap) c 1 w4 (HK.out.next HB4.out).all HS.out HCN.out
        rw [m1] at hM1
        have HM1 := Lib.hid hM1
        have HM2 := Lib.hid m2
        have HM3 := Lib.hid m3
        have HSM := Lib.hid hsm
        have HSC : Hid (cnt SK ≤ 500) := by have := HCN.out; show _ ≤ _; omega
        clear m1 m2 m3 hskf hskc hSK hsm hM1 hbes hz9
        go_wp2_with fail
        with_reducible refine HM1.out.mono ?_
        rintro e w5 ⟨ya, pya, nya, kya, rfl, hka, hya, hb⟩
        rw [if_pos rfl] at hya
        simp only at hya
        subst hya
        have HB5 := Lib.hid (HB4.out.trans (hb.mono HB4.out.size))
        have HX5 := Lib.hid (HX4.out.next hb)
        have HKA := Lib.hid hka.all
        clear hb hka HM1 HB4 HX4 HQ4 HK4 hwc4 y0 y1 y2 y3 y4 b0 b1 b2 b3 b4 z0
        obtain ⟨⟨b0, b1, b2, b3, b4⟩, -⟩ := c5 HX5.out
        go_upto_region 15 with fail
        obtain ⟨w6, hw6⟩ : ∃ w6, w6 = w5.alloc (.cells #[.int .i64 ya.a.k, .int .i64 ya.a.w, .int .i64 ya.a.c, .int .i64 ya.a.s, .slice pya nya kya] 24) := ⟨_, rfl⟩
        have hb6 : Below w5.heap.size w5 w6 := by rw [hw6]; exact (Below.refl _ _).alloc (Nat.le_refl _) _
        have hq6 : Blk w6 w5.heap.size 24 #[.int .i64 ya.a.k, .int .i64 ya.a.w, .int .i64 ya.a.c, .int .i64 ya.a.s, .slice pya nya kya] := by rw [hw6]; exact Blk.new _ _ _
        rewrite [← hw6]
        obtain ⟨gA, hgA⟩ : ∃ g, g = w5.heap.size := ⟨_, rfl⟩
        rewrite [← hgA] at hq6 ⊢
        have HB6 := Lib.hid (HB5.out.trans (hb6.mono HB5.out.size))
        have HX6 := Lib.hid (HX5.out.next hb6)
        have HQ6 := Lib.hid hq6
        have HKA6 := Lib.hid (HKA.out.next hb6).all
        clear hw6 hb6 hq6 hgA HB5 HX5 HKA b0 b1 b2 b3 b4
        obtain ⟨⟨a0, a1, a2, a3, a4⟩, -⟩ := c5 HQ6.out
        have hM2 := Move_c ya (.slice pya nya kya) c (backD 1) w6 HKA6.out HSM.out HSC.out
        rw [HM2.out, show backD 1 = 2 from rfl] at hM2
        have HMM := Lib.hid hM2
        clear hM2
        have hxr : bits BinOp.xor IntKind.i64 (1 - 1) 1 = 2 - 1 := by rfl
        simp only [show ((1 : Int) - 1) = 0 from rfl, show ((2 : Int) - 1) = 1 from rfl] at hxr
        go_wp2_with fail
        with_reducible refine HMM.out.mono ?_
        rintro e w7 ⟨yb, pyb, nyb, kyb, rfl, hkb, hyb, hb⟩
        rw [if_pos rfl] at hyb
        simp only at hyb
        subst hyb
        have HB7 := Lib.hid (HB6.out.trans (hb.mono HB6.out.size))
        have HX7 := Lib.hid (HX6.out.next hb)
        have HQ7 := Lib.hid (HQ6.out.next hb)
        have HKA7 := Lib.hid (HKA6.out.next hb).all
        have HKB := Lib.hid hkb.all
        clear hb hkb HMM HB6 HX6 HQ6 HKA6 a0 a1 a2 a3 a4
        go_upto_region 16 with fail
        obtain ⟨w8, hw8⟩ : ∃ w6, w6 = w7.alloc (.cells #[.int .i64 yb.a.k, .int .i64 yb.a.w, .int .i64 yb.a.c, .int .i64 yb.a.s, .slice pyb nyb kyb] 24) := ⟨_, rfl⟩
        have hb8 : Below w7.heap.size w7 w8 := by rw [hw8]; exact (Below.refl _ _).alloc (Nat.le_refl _) _
        have hq8 : Blk w8 w7.heap.size 24 #[.int .i64 yb.a.k, .int .i64 yb.a.w, .int .i64 yb.a.c, .int .i64 yb.a.s, .slice pyb nyb kyb] := by rw [hw8]; exact Blk.new _ _ _
        rewrite [← hw8]
        obtain ⟨gB, hgB⟩ : ∃ g, g = w7.heap.size := ⟨_, rfl⟩
        rewrite [← hgB] at hq8 ⊢
        have HB8 := Lib.hid (HB7.out.trans (hb8.mono HB7.out.size))
        have HX8 := Lib.hid (HX7.out.next hb8)
        have HQA8 := Lib.hid (HQ7.out.next hb8)
        have HQB8 := Lib.hid hq8
        have HKA8 := Lib.hid (HKA7.out.next hb8).all
        have HKB8 := Lib.hid (HKB.out.next hb8).all
        clear hw8 hb8 hq8 hgB HB7 HX7 HQ7 HKA7 HKB
        obtain ⟨⟨b0, b1, b2, b3, b4⟩, -⟩ := c5 HX8.out
        obtain ⟨⟨a0, a1, a2, a3, a4⟩, -⟩ := c5 HQB8.out
        go_wp2_with fail
        refine (same_self rfl HKB8.out (HK.out.next HB8.out).all).mono ?_
        rintro e w9 ⟨rfl, hb⟩
        have HB9 := Lib.hid (HB8.out.trans (hb.mono HB8.out.size))
        have HX9 := Lib.hid (HX8.out.next hb)
        have HQA9 := Lib.hid (HQA8.out.next hb)
        have HKA9 := Lib.hid (HKA8.out.next hb).all
        clear hb HB8 HX8 HQA8 HQB8 HKA8 HKB8 b0 b1 b2 b3 b4 a0 a1 a2 a3 a4
        obtain ⟨⟨b0, b1, b2, b3, b4⟩, -⟩ := c5 HX9.out
        obtain ⟨⟨a0, a1, a2, a3, a4⟩, -⟩ := c5 HQA9.out
        have hsame := same_c _ _ ya yb (.slice pya nya kya) (.slice p n cap) w9 HKA9.out (HK.out.next HB9.out).all
        rw [show sameB ya yb = false by cases hsb : sameB ya yb; rfl; exact absurd ((sameB_iff _ _).1 hsb) HM3.out] at hsame
        have HSA := Lib.hid hsame
        clear hsame
        go_wp2_with fail
        refine HSA.out.mono ?_
        rintro e w10 ⟨rfl, hb⟩
        have HB10 := Lib.hid (HB9.out.trans (hb.mono HB9.out.size))
        clear hb
        go_wp2_with fail
        refine (awake12_c w10).mono ?_
        rintro e w11 ⟨rfl, hb⟩
        have hb11 := HB10.out.trans (hb.mono HB10.out.size)
        clear hb
        go_wp2_with fail
        go_ret
        exact ⟨rfl, hb11⟩
      · go_wp2_with fail
        refine (awake12_c w4).mono ?_
        rintro e w9 ⟨rfl, hb⟩
        have hb9 := HB4.out.trans (hb.mono HB4.out.size)
        clear hb
        go_wp2_with fail
        go_ret
        exact ⟨rfl, hb9⟩
      · by_cases hi0 : i = 0
        · subst hi0
          go_wp2_with fail
          refine (awake12_c w4).mono ?_
          rintro e w9 ⟨rfl, hb⟩
          have hb9 := HB4.out.trans (hb.mono HB4.out.size)
          clear hb
          go_wp2_with fail
          go_ret
          exact ⟨rfl, hb9⟩
        obtain ⟨z9, hz9⟩ : ∃ z, pp.ks[i - 1]? = some z := ⟨_, List.getElem?_eq_getElem (by rw [← HNP.out]; omega)⟩
        obtain ⟨-, gz, oz, sz, rfl, -, -, -, -, z0, -, -, -, -⟩ := HK4.out.kid hz9
        have hj0 : (0 : Int) ≤ ((i : Int) - 1) := by omega
        have hj1 : ((i : Int) - 1) < (np : Int) := by omega
        have hjn : (((i : Int) - 1)).toNat = i - 1 := by omega
        have hjn2 : ((i - 1 : Nat) : Int) = ((i : Int) - 1) := by omega
        have hnlt : ¬ (np : Int) ≤ ((i : Int) - 1) := by omega
        have hnneg : ¬ ((i : Int) - 1) < 0 := by omega
        by_cases hzk : z9.a.k = 0
        rotate_left
        · have hzb : (z9.a.k == 0) = false := by simpa using hzk
          go_wp2_with fail
          refine (awake12_c w4).mono ?_
          rintro e w9 ⟨rfl, hb⟩
          have hb9 := HB4.out.trans (hb.mono HB4.out.size)
          clear hb
          go_wp2_with fail
          go_ret
          exact ⟨rfl, hb9⟩
        have hzb : (z9.a.k == 0) = true := by simpa using hzk
        have hbes : besI pp.a.k pp.ks.length i 1 = some (i - 1) := by rw [← HPA.out, ← HNP.out]; unfold besI; simp (config := { decide := true }) [alongB, aheadB]; omega
        obtain ⟨m1, m2, m3⟩ := back_there HT.out (by decide) (by decide) HUW.out HPP.out HPY.out hbes hz9 hzk
        have hskf := swapK_fine HS.out.f HPP.out HPY.out hz9
        have hskc := swap_cnt HPP.out HPY.out hz9
        obtain ⟨SK, hSK⟩ : ∃ s, s = swapK x u0 pp i (i - 1) y z9 := ⟨_, rfl⟩
        rw [← hSK] at m1 m2 m3 hskf hskc
        have hsm : Small SK := small_of (by have := HCN.out; omega) hskf
        have hM1 := Move_c x (.slice p n cap) c 1 w4 (HK.out.next HB4.out).all HS.out HCN.out
        rw [m1] at hM1
        have HM1 := Lib.hid hM1
        have HM2 := Lib.hid m2
        have HM3 := Lib.hid m3
        have HSM := Lib.hid hsm
        have HSC : Hid (cnt SK ≤ 500) := by have := HCN.out; show _ ≤ _; omega
        clear m1 m2 m3 hskf hskc hSK hsm hM1 hbes hz9
        go_wp2_with fail
        with_reducible refine HM1.out.mono ?_
        rintro e w5 ⟨ya, pya, nya, kya, rfl, hka, hya, hb⟩
        rw [if_pos rfl] at hya
        simp only at hya
        subst hya
        have HB5 := Lib.hid (HB4.out.trans (hb.mono HB4.out.size))
        have HX5 := Lib.hid (HX4.out.next hb)
        have HKA := Lib.hid hka.all
        clear hb hka HM1 HB4 HX4 HQ4 HK4 hwc4 y0 y1 y2 y3 y4 b0 b1 b2 b3 b4 z0
        obtain ⟨⟨b0, b1, b2, b3, b4⟩, -⟩ := c5 HX5.out
        go_upto_region 15 with fail
        obtain ⟨w6, hw6⟩ : ∃ w6, w6 = w5.alloc (.cells #[.int .i64 ya.a.k, .int .i64 ya.a.w, .int .i64 ya.a.c, .int .i64 ya.a.s, .slice pya nya kya] 24) := ⟨_, rfl⟩
        have hb6 : Below w5.heap.size w5 w6 := by rw [hw6]; exact (Below.refl _ _).alloc (Nat.le_refl _) _
        have hq6 : Blk w6 w5.heap.size 24 #[.int .i64 ya.a.k, .int .i64 ya.a.w, .int .i64 ya.a.c, .int .i64 ya.a.s, .slice pya nya kya] := by rw [hw6]; exact Blk.new _ _ _
        rewrite [← hw6]
        obtain ⟨gA, hgA⟩ : ∃ g, g = w5.heap.size := ⟨_, rfl⟩
        rewrite [← hgA] at hq6 ⊢
        have HB6 := Lib.hid (HB5.out.trans (hb6.mono HB5.out.size))
        have HX6 := Lib.hid (HX5.out.next hb6)
        have HQ6 := Lib.hid hq6
        have HKA6 := Lib.hid (HKA.out.next hb6).all
        clear hw6 hb6 hq6 hgA HB5 HX5 HKA b0 b1 b2 b3 b4
        obtain ⟨⟨a0, a1, a2, a3, a4⟩, -⟩ := c5 HQ6.out
        have hM2 := Move_c ya (.slice pya nya kya) c (backD 1) w6 HKA6.out HSM.out HSC.out
        rw [HM2.out, show backD 1 = 2 from rfl] at hM2
        have HMM := Lib.hid hM2
        clear hM2
        have hxr : bits BinOp.xor IntKind.i64 (1 - 1) 1 = 2 - 1 := by rfl
        simp only [show ((1 : Int) - 1) = 0 from rfl, show ((2 : Int) - 1) = 1 from rfl] at hxr
        go_wp2_with fail
        with_reducible refine HMM.out.mono ?_
        rintro e w7 ⟨yb, pyb, nyb, kyb, rfl, hkb, hyb, hb⟩
        rw [if_pos rfl] at hyb
        simp only at hyb
        subst hyb
        have HB7 := Lib.hid (HB6.out.trans (hb.mono HB6.out.size))
        have HX7 := Lib.hid (HX6.out.next hb)
        have HQ7 := Lib.hid (HQ6.out.next hb)
        have HKA7 := Lib.hid (HKA6.out.next hb).all
        have HKB := Lib.hid hkb.all
        clear hb hkb HMM HB6 HX6 HQ6 HKA6 a0 a1 a2 a3 a4
        go_upto_region 16 with fail
        obtain ⟨w8, hw8⟩ : ∃ w6, w6 = w7.alloc (.cells #[.int .i64 yb.a.k, .int .i64 yb.a.w, .int .i64 yb.a.c, .int .i64 yb.a.s, .slice pyb nyb kyb] 24) := ⟨_, rfl⟩
        have hb8 : Below w7.heap.size w7 w8 := by rw [hw8]; exact (Below.refl _ _).alloc (Nat.le_refl _) _
        have hq8 : Blk w8 w7.heap.size 24 #[.int .i64 yb.a.k, .int .i64 yb.a.w, .int .i64 yb.a.c, .int .i64 yb.a.s, .slice pyb nyb kyb] := by rw [hw8]; exact Blk.new _ _ _
        rewrite [← hw8]
        obtain ⟨gB, hgB⟩ : ∃ g, g = w7.heap.size := ⟨_, rfl⟩
        rewrite [← hgB] at hq8 ⊢
        have HB8 := Lib.hid (HB7.out.trans (hb8.mono HB7.out.size))
        have HX8 := Lib.hid (HX7.out.next hb8)
        have HQA8 := Lib.hid (HQ7.out.next hb8)
        have HQB8 := Lib.hid hq8
        have HKA8 := Lib.hid (HKA7.out.next hb8).all
        have HKB8 := Lib.hid (HKB.out.next hb8).all
        clear hw8 hb8 hq8 hgB HB7 HX7 HQ7 HKA7 HKB
        obtain ⟨⟨b0, b1, b2, b3, b4⟩, -⟩ := c5 HX8.out
        obtain ⟨⟨a0, a1, a2, a3, a4⟩, -⟩ := c5 HQB8.out
        go_wp2_with fail
        refine (same_self rfl HKB8.out (HK.out.next HB8.out).all).mono ?_
        rintro e w9 ⟨rfl, hb⟩
        have HB9 := Lib.hid (HB8.out.trans (hb.mono HB8.out.size))
        have HX9 := Lib.hid (HX8.out.next hb)
        have HQA9 := Lib.hid (HQA8.out.next hb)
        have HKA9 := Lib.hid (HKA8.out.next hb).all
        clear hb HB8 HX8 HQA8 HQB8 HKA8 HKB8 b0 b1 b2 b3 b4 a0 a1 a2 a3 a4
        obtain ⟨⟨b0, b1, b2, b3, b4⟩, -⟩ := c5 HX9.out
        obtain ⟨⟨a0, a1, a2, a3, a4⟩, -⟩ := c5 HQA9.out
        have hsame := same_c _ _ ya yb (.slice pya nya kya) (.slice p n cap) w9 HKA9.out (HK.out.next HB9.out).all
        rw [show sameB ya yb = false by cases hsb : sameB ya yb; rfl; exact absurd ((sameB_iff _ _).1 hsb) HM3.out] at hsame
        have HSA := Lib.hid hsame
        clear hsame
        go_wp2_with fail
        refine HSA.out.mono ?_
        rintro e w10 ⟨rfl, hb⟩
        have HB10 := Lib.hid (HB9.out.trans (hb.mono HB9.out.size))
        clear hb
        go_wp2_with fail
        refine (awake12_c w10).mono ?_
        rintro e w11 ⟨rfl, hb⟩
        have hb11 := HB10.out.trans (hb.mono HB10.out.size)
        clear hb
        go_wp2_with fail
        go_ret
        exact ⟨rfl, hb11⟩
      · go_wp2_with fail
        refine (awake12_c w4).mono ?_
        rintro e w9 ⟨rfl, hb⟩
        have hb9 := HB4.out.trans (hb.mono HB4.out.size)
        clear hb
        go_wp2_with fail
        go_ret
        exact ⟨rfl, hb9⟩
    · rcases hkd with rfl | rfl | rfl | rfl
      · by_cases hi0 : i + 1 < np
        rotate_left
        · have hnl : (np : Int) ≤ (i : Int) + 1 := by omega
          have hnn : ¬ (i : Int) + 1 < 0 := by omega
          go_wp2_with fail
          refine (awake12_c w4).mono ?_
          rintro e w9 ⟨rfl, hb⟩
          have hb9 := HB4.out.trans (hb.mono HB4.out.size)
          clear hb
          go_wp2_with fail
          go_ret
          exact ⟨rfl, hb9⟩
        obtain ⟨z9, hz9⟩ : ∃ z, pp.ks[i + 1]? = some z := ⟨_, List.getElem?_eq_getElem (by rw [← HNP.out]; omega)⟩
        obtain ⟨-, gz, oz, sz, rfl, -, -, -, -, z0, -, -, -, -⟩ := HK4.out.kid hz9
        have hj0 : (0 : Int) ≤ ((i : Int) + 1) := by omega
        have hj1 : ((i : Int) + 1) < (np : Int) := by omega
        have hjn : (((i : Int) + 1)).toNat = i + 1 := by omega
        have hjn2 : ((i + 1 : Nat) : Int) = ((i : Int) + 1) := by omega
        have hnlt : ¬ (np : Int) ≤ ((i : Int) + 1) := by omega
        have hnneg : ¬ ((i : Int) + 1) < 0 := by omega
        by_cases hzk : z9.a.k = 0
        rotate_left
        · have hzb : (z9.a.k == 0) = false := by simpa using hzk
          go_wp2_with fail
          refine (awake12_c w4).mono ?_
          rintro e w9 ⟨rfl, hb⟩
          have hb9 := HB4.out.trans (hb.mono HB4.out.size)
          clear hb
          go_wp2_with fail
          go_ret
          exact ⟨rfl, hb9⟩
        have hzb : (z9.a.k == 0) = true := by simpa using hzk
        have hbes : besI pp.a.k pp.ks.length i 2 = some (i + 1) := by rw [← HPA.out, ← HNP.out]; unfold besI; simp (config := { decide := true }) [alongB, aheadB]; omega
        obtain ⟨m1, m2, m3⟩ := back_there HT.out (by decide) (by decide) HUW.out HPP.out HPY.out hbes hz9 hzk
        have hskf := swapK_fine HS.out.f HPP.out HPY.out hz9
        have hskc := swap_cnt HPP.out HPY.out hz9
        obtain ⟨SK, hSK⟩ : ∃ s, s = swapK x u0 pp i (i + 1) y z9 := ⟨_, rfl⟩
        rw [← hSK] at m1 m2 m3 hskf hskc
        have hsm : Small SK := small_of (by have := HCN.out; omega) hskf
        have hM1 := Move_c x (.slice p n cap) c 2 w4 (HK.out.next HB4.out).all HS.out HCN.out
        rw [m1] at hM1
        have HM1 := Lib.hid hM1
        have HM2 := Lib.hid m2
        have HM3 := Lib.hid m3
        have HSM := Lib.hid hsm
        have HSC : Hid (cnt SK ≤ 500) := by have := HCN.out; show _ ≤ _; omega
        clear m1 m2 m3 hskf hskc hSK hsm hM1 hbes hz9
        go_wp2_with fail
        with_reducible refine HM1.out.mono ?_
        rintro e w5 ⟨ya, pya, nya, kya, rfl, hka, hya, hb⟩
        rw [if_pos rfl] at hya
        simp only at hya
        subst hya
        have HB5 := Lib.hid (HB4.out.trans (hb.mono HB4.out.size))
        have HX5 := Lib.hid (HX4.out.next hb)
        have HKA := Lib.hid hka.all
        clear hb hka HM1 HB4 HX4 HQ4 HK4 hwc4 y0 y1 y2 y3 y4 b0 b1 b2 b3 b4 z0
        obtain ⟨⟨b0, b1, b2, b3, b4⟩, -⟩ := c5 HX5.out
        go_upto_region 15 with fail
        obtain ⟨w6, hw6⟩ : ∃ w6, w6 = w5.alloc (.cells #[.int .i64 ya.a.k, .int .i64 ya.a.w, .int .i64 ya.a.c, .int .i64 ya.a.s, .slice pya nya kya] 24) := ⟨_, rfl⟩
        have hb6 : Below w5.heap.size w5 w6 := by rw [hw6]; exact (Below.refl _ _).alloc (Nat.le_refl _) _
        have hq6 : Blk w6 w5.heap.size 24 #[.int .i64 ya.a.k, .int .i64 ya.a.w, .int .i64 ya.a.c, .int .i64 ya.a.s, .slice pya nya kya] := by rw [hw6]; exact Blk.new _ _ _
        rewrite [← hw6]
        obtain ⟨gA, hgA⟩ : ∃ g, g = w5.heap.size := ⟨_, rfl⟩
        rewrite [← hgA] at hq6 ⊢
        have HB6 := Lib.hid (HB5.out.trans (hb6.mono HB5.out.size))
        have HX6 := Lib.hid (HX5.out.next hb6)
        have HQ6 := Lib.hid hq6
        have HKA6 := Lib.hid (HKA.out.next hb6).all
        clear hw6 hb6 hq6 hgA HB5 HX5 HKA b0 b1 b2 b3 b4
        obtain ⟨⟨a0, a1, a2, a3, a4⟩, -⟩ := c5 HQ6.out
        have hM2 := Move_c ya (.slice pya nya kya) c (backD 2) w6 HKA6.out HSM.out HSC.out
        rw [HM2.out, show backD 2 = 1 from rfl] at hM2
        have HMM := Lib.hid hM2
        clear hM2
        have hxr : bits BinOp.xor IntKind.i64 (2 - 1) 1 = 1 - 1 := by rfl
        simp only [show ((2 : Int) - 1) = 1 from rfl, show ((1 : Int) - 1) = 0 from rfl] at hxr
        go_wp2_with fail
        with_reducible refine HMM.out.mono ?_
        rintro e w7 ⟨yb, pyb, nyb, kyb, rfl, hkb, hyb, hb⟩
        rw [if_pos rfl] at hyb
        simp only at hyb
        subst hyb
        have HB7 := Lib.hid (HB6.out.trans (hb.mono HB6.out.size))
        have HX7 := Lib.hid (HX6.out.next hb)
        have HQ7 := Lib.hid (HQ6.out.next hb)
        have HKA7 := Lib.hid (HKA6.out.next hb).all
        have HKB := Lib.hid hkb.all
        clear hb hkb HMM HB6 HX6 HQ6 HKA6 a0 a1 a2 a3 a4
        go_upto_region 16 with fail
        obtain ⟨w8, hw8⟩ : ∃ w6, w6 = w7.alloc (.cells #[.int .i64 yb.a.k, .int .i64 yb.a.w, .int .i64 yb.a.c, .int .i64 yb.a.s, .slice pyb nyb kyb] 24) := ⟨_, rfl⟩
        have hb8 : Below w7.heap.size w7 w8 := by rw [hw8]; exact (Below.refl _ _).alloc (Nat.le_refl _) _
        have hq8 : Blk w8 w7.heap.size 24 #[.int .i64 yb.a.k, .int .i64 yb.a.w, .int .i64 yb.a.c, .int .i64 yb.a.s, .slice pyb nyb kyb] := by rw [hw8]; exact Blk.new _ _ _
        rewrite [← hw8]
        obtain ⟨gB, hgB⟩ : ∃ g, g = w7.heap.size := ⟨_, rfl⟩
        rewrite [← hgB] at hq8 ⊢
        have HB8 := Lib.hid (HB7.out.trans (hb8.mono HB7.out.size))
        have HX8 := Lib.hid (HX7.out.next hb8)
        have HQA8 := Lib.hid (HQ7.out.next hb8)
        have HQB8 := Lib.hid hq8
        have HKA8 := Lib.hid (HKA7.out.next hb8).all
        have HKB8 := Lib.hid (HKB.out.next hb8).all
        clear hw8 hb8 hq8 hgB HB7 HX7 HQ7 HKA7 HKB
        obtain ⟨⟨b0, b1, b2, b3, b4⟩, -⟩ := c5 HX8.out
        obtain ⟨⟨a0, a1, a2, a3, a4⟩, -⟩ := c5 HQB8.out
        go_wp2_with fail
        refine (same_self rfl HKB8.out (HK.out.next HB8.out).all).mono ?_
        rintro e w9 ⟨rfl, hb⟩
        have HB9 := Lib.hid (HB8.out.trans (hb.mono HB8.out.size))
        have HX9 := Lib.hid (HX8.out.next hb)
        have HQA9 := Lib.hid (HQA8.out.next hb)
        have HKA9 := Lib.hid (HKA8.out.next hb).all
        clear hb HB8 HX8 HQA8 HQB8 HKA8 HKB8 b0 b1 b2 b3 b4 a0 a1 a2 a3 a4
        obtain ⟨⟨b0, b1, b2, b3, b4⟩, -⟩ := c5 HX9.out
        obtain ⟨⟨a0, a1, a2, a3, a4⟩, -⟩ := c5 HQA9.out
        have hsame := same_c _ _ ya yb (.slice pya nya kya) (.slice p n cap) w9 HKA9.out (HK.out.next HB9.out).all
        rw [show sameB ya yb = false by cases hsb : sameB ya yb; rfl; exact absurd ((sameB_iff _ _).1 hsb) HM3.out] at hsame
        have HSA := Lib.hid hsame
        clear hsame
        go_wp2_with fail
        refine HSA.out.mono ?_
        rintro e w10 ⟨rfl, hb⟩
        have HB10 := Lib.hid (HB9.out.trans (hb.mono HB9.out.size))
        clear hb
        go_wp2_with fail
        refine (awake12_c w10).mono ?_
        rintro e w11 ⟨rfl, hb⟩
        have hb11 := HB10.out.trans (hb.mono HB10.out.size)
        clear hb
        go_wp2_with fail
        go_ret
        exact ⟨rfl, hb11⟩
      · go_wp2_with fail
        refine (awake12_c w4).mono ?_
        rintro e w9 ⟨rfl, hb⟩
        have hb9 := HB4.out.trans (hb.mono HB4.out.size)
        clear hb
        go_wp2_with fail
        go_ret
        exact ⟨rfl, hb9⟩
      · by_cases hi0 : i + 1 < np
        rotate_left
        · have hnl : (np : Int) ≤ (i : Int) + 1 := by omega
          have hnn : ¬ (i : Int) + 1 < 0 := by omega
          go_wp2_with fail
          refine (awake12_c w4).mono ?_
          rintro e w9 ⟨rfl, hb⟩
          have hb9 := HB4.out.trans (hb.mono HB4.out.size)
          clear hb
          go_wp2_with fail
          go_ret
          exact ⟨rfl, hb9⟩
        obtain ⟨z9, hz9⟩ : ∃ z, pp.ks[i + 1]? = some z := ⟨_, List.getElem?_eq_getElem (by rw [← HNP.out]; omega)⟩
        obtain ⟨-, gz, oz, sz, rfl, -, -, -, -, z0, -, -, -, -⟩ := HK4.out.kid hz9
        have hj0 : (0 : Int) ≤ ((i : Int) + 1) := by omega
        have hj1 : ((i : Int) + 1) < (np : Int) := by omega
        have hjn : (((i : Int) + 1)).toNat = i + 1 := by omega
        have hjn2 : ((i + 1 : Nat) : Int) = ((i : Int) + 1) := by omega
        have hnlt : ¬ (np : Int) ≤ ((i : Int) + 1) := by omega
        have hnneg : ¬ ((i : Int) + 1) < 0 := by omega
        by_cases hzk : z9.a.k = 0
        rotate_left
        · have hzb : (z9.a.k == 0) = false := by simpa using hzk
          go_wp2_with fail
          refine (awake12_c w4).mono ?_
          rintro e w9 ⟨rfl, hb⟩
          have hb9 := HB4.out.trans (hb.mono HB4.out.size)
          clear hb
          go_wp2_with fail
          go_ret
          exact ⟨rfl, hb9⟩
        have hzb : (z9.a.k == 0) = true := by simpa using hzk
        have hbes : besI pp.a.k pp.ks.length i 2 = some (i + 1) := by rw [← HPA.out, ← HNP.out]; unfold besI; simp (config := { decide := true }) [alongB, aheadB]; omega
        obtain ⟨m1, m2, m3⟩ := back_there HT.out (by decide) (by decide) HUW.out HPP.out HPY.out hbes hz9 hzk
        have hskf := swapK_fine HS.out.f HPP.out HPY.out hz9
        have hskc := swap_cnt HPP.out HPY.out hz9
        obtain ⟨SK, hSK⟩ : ∃ s, s = swapK x u0 pp i (i + 1) y z9 := ⟨_, rfl⟩
        rw [← hSK] at m1 m2 m3 hskf hskc
        have hsm : Small SK := small_of (by have := HCN.out; omega) hskf
        have hM1 := Move_c x (.slice p n cap) c 2 w4 (HK.out.next HB4.out).all HS.out HCN.out
        rw [m1] at hM1
        have HM1 := Lib.hid hM1
        have HM2 := Lib.hid m2
        have HM3 := Lib.hid m3
        have HSM := Lib.hid hsm
        have HSC : Hid (cnt SK ≤ 500) := by have := HCN.out; show _ ≤ _; omega
        clear m1 m2 m3 hskf hskc hSK hsm hM1 hbes hz9
        go_wp2_with fail
        with_reducible refine HM1.out.mono ?_
        rintro e w5 ⟨ya, pya, nya, kya, rfl, hka, hya, hb⟩
        rw [if_pos rfl] at hya
        simp only at hya
        subst hya
        have HB5 := Lib.hid (HB4.out.trans (hb.mono HB4.out.size))
        have HX5 := Lib.hid (HX4.out.next hb)
        have HKA := Lib.hid hka.all
        clear hb hka HM1 HB4 HX4 HQ4 HK4 hwc4 y0 y1 y2 y3 y4 b0 b1 b2 b3 b4 z0
        obtain ⟨⟨b0, b1, b2, b3, b4⟩, -⟩ := c5 HX5.out
        go_upto_region 15 with fail
        obtain ⟨w6, hw6⟩ : ∃ w6, w6 = w5.alloc (.cells #[.int .i64 ya.a.k, .int .i64 ya.a.w, .int .i64 ya.a.c, .int .i64 ya.a.s, .slice pya nya kya] 24) := ⟨_, rfl⟩
        have hb6 : Below w5.heap.size w5 w6 := by rw [hw6]; exact (Below.refl _ _).alloc (Nat.le_refl _) _
        have hq6 : Blk w6 w5.heap.size 24 #[.int .i64 ya.a.k, .int .i64 ya.a.w, .int .i64 ya.a.c, .int .i64 ya.a.s, .slice pya nya kya] := by rw [hw6]; exact Blk.new _ _ _
        rewrite [← hw6]
        obtain ⟨gA, hgA⟩ : ∃ g, g = w5.heap.size := ⟨_, rfl⟩
        rewrite [← hgA] at hq6 ⊢
        have HB6 := Lib.hid (HB5.out.trans (hb6.mono HB5.out.size))
        have HX6 := Lib.hid (HX5.out.next hb6)
        have HQ6 := Lib.hid hq6
        have HKA6 := Lib.hid (HKA.out.next hb6).all
        clear hw6 hb6 hq6 hgA HB5 HX5 HKA b0 b1 b2 b3 b4
        obtain ⟨⟨a0, a1, a2, a3, a4⟩, -⟩ := c5 HQ6.out
        have hM2 := Move_c ya (.slice pya nya kya) c (backD 2) w6 HKA6.out HSM.out HSC.out
        rw [HM2.out, show backD 2 = 1 from rfl] at hM2
        have HMM := Lib.hid hM2
        clear hM2
        have hxr : bits BinOp.xor IntKind.i64 (2 - 1) 1 = 1 - 1 := by rfl
        simp only [show ((2 : Int) - 1) = 1 from rfl, show ((1 : Int) - 1) = 0 from rfl] at hxr
        go_wp2_with fail
        with_reducible refine HMM.out.mono ?_
        rintro e w7 ⟨yb, pyb, nyb, kyb, rfl, hkb, hyb, hb⟩
        rw [if_pos rfl] at hyb
        simp only at hyb
        subst hyb
        have HB7 := Lib.hid (HB6.out.trans (hb.mono HB6.out.size))
        have HX7 := Lib.hid (HX6.out.next hb)
        have HQ7 := Lib.hid (HQ6.out.next hb)
        have HKA7 := Lib.hid (HKA6.out.next hb).all
        have HKB := Lib.hid hkb.all
        clear hb hkb HMM HB6 HX6 HQ6 HKA6 a0 a1 a2 a3 a4
        go_upto_region 16 with fail
        obtain ⟨w8, hw8⟩ : ∃ w6, w6 = w7.alloc (.cells #[.int .i64 yb.a.k, .int .i64 yb.a.w, .int .i64 yb.a.c, .int .i64 yb.a.s, .slice pyb nyb kyb] 24) := ⟨_, rfl⟩
        have hb8 : Below w7.heap.size w7 w8 := by rw [hw8]; exact (Below.refl _ _).alloc (Nat.le_refl _) _
        have hq8 : Blk w8 w7.heap.size 24 #[.int .i64 yb.a.k, .int .i64 yb.a.w, .int .i64 yb.a.c, .int .i64 yb.a.s, .slice pyb nyb kyb] := by rw [hw8]; exact Blk.new _ _ _
        rewrite [← hw8]
        obtain ⟨gB, hgB⟩ : ∃ g, g = w7.heap.size := ⟨_, rfl⟩
        rewrite [← hgB] at hq8 ⊢
        have HB8 := Lib.hid (HB7.out.trans (hb8.mono HB7.out.size))
        have HX8 := Lib.hid (HX7.out.next hb8)
        have HQA8 := Lib.hid (HQ7.out.next hb8)
        have HQB8 := Lib.hid hq8
        have HKA8 := Lib.hid (HKA7.out.next hb8).all
        have HKB8 := Lib.hid (HKB.out.next hb8).all
        clear hw8 hb8 hq8 hgB HB7 HX7 HQ7 HKA7 HKB
        obtain ⟨⟨b0, b1, b2, b3, b4⟩, -⟩ := c5 HX8.out
        obtain ⟨⟨a0, a1, a2, a3, a4⟩, -⟩ := c5 HQB8.out
        go_wp2_with fail
        refine (same_self rfl HKB8.out (HK.out.next HB8.out).all).mono ?_
        rintro e w9 ⟨rfl, hb⟩
        have HB9 := Lib.hid (HB8.out.trans (hb.mono HB8.out.size))
        have HX9 := Lib.hid (HX8.out.next hb)
        have HQA9 := Lib.hid (HQA8.out.next hb)
        have HKA9 := Lib.hid (HKA8.out.next hb).all
        clear hb HB8 HX8 HQA8 HQB8 HKA8 HKB8 b0 b1 b2 b3 b4 a0 a1 a2 a3 a4
        obtain ⟨⟨b0, b1, b2, b3, b4⟩, -⟩ := c5 HX9.out
        obtain ⟨⟨a0, a1, a2, a3, a4⟩, -⟩ := c5 HQA9.out
        have hsame := same_c _ _ ya yb (.slice pya nya kya) (.slice p n cap) w9 HKA9.out (HK.out.next HB9.out).all
        rw [show sameB ya yb = false by cases hsb : sameB ya yb; rfl; exact absurd ((sameB_iff _ _).1 hsb) HM3.out] at hsame
        have HSA := Lib.hid hsame
        clear hsame
        go_wp2_with fail
        refine HSA.out.mono ?_
        rintro e w10 ⟨rfl, hb⟩
        have HB10 := Lib.hid (HB9.out.trans (hb.mono HB9.out.size))
        clear hb
        go_wp2_with fail
        refine (awake12_c w10).mono ?_
        rintro e w11 ⟨rfl, hb⟩
        have hb11 := HB10.out.trans (hb.mono HB10.out.size)
        clear hb
        go_wp2_with fail
        go_ret
        exact ⟨rfl, hb11⟩
      · go_wp2_with fail
        refine (awake12_c w4).mono ?_
        rintro e w9 ⟨rfl, hb⟩
        have hb9 := HB4.out.trans (hb.mono HB4.out.size)
        clear hb
        go_wp2_with fail
        go_ret
        exact ⟨rfl, hb9⟩
    · rcases hkd with rfl | rfl | rfl | rfl
      · go_wp2_with fail
        refine (awake12_c w4).mono ?_
        rintro e w9 ⟨rfl, hb⟩
        have hb9 := HB4.out.trans (hb.mono HB4.out.size)
        clear hb
        go_wp2_with fail
        go_ret
        exact ⟨rfl, hb9⟩
      · by_cases hi0 : i = 0
        · subst hi0
          go_wp2_with fail
          refine (awake12_c w4).mono ?_
          rintro e w9 ⟨rfl, hb⟩
          have hb9 := HB4.out.trans (hb.mono HB4.out.size)
          clear hb
          go_wp2_with fail
          go_ret
          exact ⟨rfl, hb9⟩
        obtain ⟨z9, hz9⟩ : ∃ z, pp.ks[i - 1]? = some z := ⟨_, List.getElem?_eq_getElem (by rw [← HNP.out]; omega)⟩
        obtain ⟨-, gz, oz, sz, rfl, -, -, -, -, z0, -, -, -, -⟩ := HK4.out.kid hz9
        have hj0 : (0 : Int) ≤ ((i : Int) - 1) := by omega
        have hj1 : ((i : Int) - 1) < (np : Int) := by omega
        have hjn : (((i : Int) - 1)).toNat = i - 1 := by omega
        have hjn2 : ((i - 1 : Nat) : Int) = ((i : Int) - 1) := by omega
        have hnlt : ¬ (np : Int) ≤ ((i : Int) - 1) := by omega
        have hnneg : ¬ ((i : Int) - 1) < 0 := by omega
        by_cases hzk : z9.a.k = 0
        rotate_left
        · have hzb : (z9.a.k == 0) = false := by simpa using hzk
          go_wp2_with fail
          refine (awake12_c w4).mono ?_
          rintro e w9 ⟨rfl, hb⟩
          have hb9 := HB4.out.trans (hb.mono HB4.out.size)
          clear hb
          go_wp2_with fail
          go_ret
          exact ⟨rfl, hb9⟩
        have hzb : (z9.a.k == 0) = true := by simpa using hzk
        have hbes : besI pp.a.k pp.ks.length i 3 = some (i - 1) := by rw [← HPA.out, ← HNP.out]; unfold besI; simp (config := { decide := true }) [alongB, aheadB]; omega
        obtain ⟨m1, m2, m3⟩ := back_there HT.out (by decide) (by decide) HUW.out HPP.out HPY.out hbes hz9 hzk
        have hskf := swapK_fine HS.out.f HPP.out HPY.out hz9
        have hskc := swap_cnt HPP.out HPY.out hz9
        obtain ⟨SK, hSK⟩ : ∃ s, s = swapK x u0 pp i (i - 1) y z9 := ⟨_, rfl⟩
        rw [← hSK] at m1 m2 m3 hskf hskc
        have hsm : Small SK := small_of (by have := HCN.out; omega) hskf
        have hM1 := Move_c x (.slice p n cap) c 3 w4 (HK.out.next HB4.out).all HS.out HCN.out
        rw [m1] at hM1
        have HM1 := Lib.hid hM1
        have HM2 := Lib.hid m2
        have HM3 := Lib.hid m3
        have HSM := Lib.hid hsm
        have HSC : Hid (cnt SK ≤ 500) := by have := HCN.out; show _ ≤ _; omega
        clear m1 m2 m3 hskf hskc hSK hsm hM1 hbes hz9
        go_wp2_with fail
        with_reducible refine HM1.out.mono ?_
        rintro e w5 ⟨ya, pya, nya, kya, rfl, hka, hya, hb⟩
        rw [if_pos rfl] at hya
        simp only at hya
        subst hya
        have HB5 := Lib.hid (HB4.out.trans (hb.mono HB4.out.size))
        have HX5 := Lib.hid (HX4.out.next hb)
        have HKA := Lib.hid hka.all
        clear hb hka HM1 HB4 HX4 HQ4 HK4 hwc4 y0 y1 y2 y3 y4 b0 b1 b2 b3 b4 z0
        obtain ⟨⟨b0, b1, b2, b3, b4⟩, -⟩ := c5 HX5.out
        go_upto_region 15 with fail
        obtain ⟨w6, hw6⟩ : ∃ w6, w6 = w5.alloc (.cells #[.int .i64 ya.a.k, .int .i64 ya.a.w, .int .i64 ya.a.c, .int .i64 ya.a.s, .slice pya nya kya] 24) := ⟨_, rfl⟩
        have hb6 : Below w5.heap.size w5 w6 := by rw [hw6]; exact (Below.refl _ _).alloc (Nat.le_refl _) _
        have hq6 : Blk w6 w5.heap.size 24 #[.int .i64 ya.a.k, .int .i64 ya.a.w, .int .i64 ya.a.c, .int .i64 ya.a.s, .slice pya nya kya] := by rw [hw6]; exact Blk.new _ _ _
        rewrite [← hw6]
        obtain ⟨gA, hgA⟩ : ∃ g, g = w5.heap.size := ⟨_, rfl⟩
        rewrite [← hgA] at hq6 ⊢
        have HB6 := Lib.hid (HB5.out.trans (hb6.mono HB5.out.size))
        have HX6 := Lib.hid (HX5.out.next hb6)
        have HQ6 := Lib.hid hq6
        have HKA6 := Lib.hid (HKA.out.next hb6).all
        clear hw6 hb6 hq6 hgA HB5 HX5 HKA b0 b1 b2 b3 b4
        obtain ⟨⟨a0, a1, a2, a3, a4⟩, -⟩ := c5 HQ6.out
        have hM2 := Move_c ya (.slice pya nya kya) c (backD 3) w6 HKA6.out HSM.out HSC.out
        rw [HM2.out, show backD 3 = 4 from rfl] at hM2
        have HMM := Lib.hid hM2
        clear hM2
        have hxr : bits BinOp.xor IntKind.i64 (3 - 1) 1 = 4 - 1 := by rfl
        simp only [show ((3 : Int) - 1) = 2 from rfl, show ((4 : Int) - 1) = 3 from rfl] at hxr
        go_wp2_with fail
        with_reducible refine HMM.out.mono ?_
        rintro e w7 ⟨yb, pyb, nyb, kyb, rfl, hkb, hyb, hb⟩
        rw [if_pos rfl] at hyb
        simp only at hyb
        subst hyb
        have HB7 := Lib.hid (HB6.out.trans (hb.mono HB6.out.size))
        have HX7 := Lib.hid (HX6.out.next hb)
        have HQ7 := Lib.hid (HQ6.out.next hb)
        have HKA7 := Lib.hid (HKA6.out.next hb).all
        have HKB := Lib.hid hkb.all
        clear hb hkb HMM HB6 HX6 HQ6 HKA6 a0 a1 a2 a3 a4
        go_upto_region 16 with fail
        obtain ⟨w8, hw8⟩ : ∃ w6, w6 = w7.alloc (.cells #[.int .i64 yb.a.k, .int .i64 yb.a.w, .int .i64 yb.a.c, .int .i64 yb.a.s, .slice pyb nyb kyb] 24) := ⟨_, rfl⟩
        have hb8 : Below w7.heap.size w7 w8 := by rw [hw8]; exact (Below.refl _ _).alloc (Nat.le_refl _) _
        have hq8 : Blk w8 w7.heap.size 24 #[.int .i64 yb.a.k, .int .i64 yb.a.w, .int .i64 yb.a.c, .int .i64 yb.a.s, .slice pyb nyb kyb] := by rw [hw8]; exact Blk.new _ _ _
        rewrite [← hw8]
        obtain ⟨gB, hgB⟩ : ∃ g, g = w7.heap.size := ⟨_, rfl⟩
        rewrite [← hgB] at hq8 ⊢
        have HB8 := Lib.hid (HB7.out.trans (hb8.mono HB7.out.size))
        have HX8 := Lib.hid (HX7.out.next hb8)
        have HQA8 := Lib.hid (HQ7.out.next hb8)
        have HQB8 := Lib.hid hq8
        have HKA8 := Lib.hid (HKA7.out.next hb8).all
        have HKB8 := Lib.hid (HKB.out.next hb8).all
        clear hw8 hb8 hq8 hgB HB7 HX7 HQ7 HKA7 HKB
        obtain ⟨⟨b0, b1, b2, b3, b4⟩, -⟩ := c5 HX8.out
        obtain ⟨⟨a0, a1, a2, a3, a4⟩, -⟩ := c5 HQB8.out
        go_wp2_with fail
        refine (same_self rfl HKB8.out (HK.out.next HB8.out).all).mono ?_
        rintro e w9 ⟨rfl, hb⟩
        have HB9 := Lib.hid (HB8.out.trans (hb.mono HB8.out.size))
        have HX9 := Lib.hid (HX8.out.next hb)
        have HQA9 := Lib.hid (HQA8.out.next hb)
        have HKA9 := Lib.hid (HKA8.out.next hb).all
        clear hb HB8 HX8 HQA8 HQB8 HKA8 HKB8 b0 b1 b2 b3 b4 a0 a1 a2 a3 a4
        obtain ⟨⟨b0, b1, b2, b3, b4⟩, -⟩ := c5 HX9.out
        obtain ⟨⟨a0, a1, a2, a3, a4⟩, -⟩ := c5 HQA9.out
        have hsame := same_c _ _ ya yb (.slice pya nya kya) (.slice p n cap) w9 HKA9.out (HK.out.next HB9.out).all
        rw [show sameB ya yb = false by cases hsb : sameB ya yb; rfl; exact absurd ((sameB_iff _ _).1 hsb) HM3.out] at hsame
        have HSA := Lib.hid hsame
        clear hsame
        go_wp2_with fail
        refine HSA.out.mono ?_
        rintro e w10 ⟨rfl, hb⟩
        have HB10 := Lib.hid (HB9.out.trans (hb.mono HB9.out.size))
        clear hb
        go_wp2_with fail
        refine (awake12_c w10).mono ?_
        rintro e w11 ⟨rfl, hb⟩
        have hb11 := HB10.out.trans (hb.mono HB10.out.size)
        clear hb
        go_wp2_with fail
        go_ret
        exact ⟨rfl, hb11⟩
      · go_wp2_with fail
        refine (awake12_c w4).mono ?_
        rintro e w9 ⟨rfl, hb⟩
        have hb9 := HB4.out.trans (hb.mono HB4.out.size)
        clear hb
        go_wp2_with fail
        go_ret
        exact ⟨rfl, hb9⟩
      · by_cases hi0 : i = 0
        · subst hi0
          go_wp2_with fail
          refine (awake12_c w4).mono ?_
          rintro e w9 ⟨rfl, hb⟩
          have hb9 := HB4.out.trans (hb.mono HB4.out.size)
          clear hb
          go_wp2_with fail
          go_ret
          exact ⟨rfl, hb9⟩
        obtain ⟨z9, hz9⟩ : ∃ z, pp.ks[i - 1]? = some z := ⟨_, List.getElem?_eq_getElem (by rw [← HNP.out]; omega)⟩
        obtain ⟨-, gz, oz, sz, rfl, -, -, -, -, z0, -, -, -, -⟩ := HK4.out.kid hz9
        have hj0 : (0 : Int) ≤ ((i : Int) - 1) := by omega
        have hj1 : ((i : Int) - 1) < (np : Int) := by omega
        have hjn : (((i : Int) - 1)).toNat = i - 1 := by omega
        have hjn2 : ((i - 1 : Nat) : Int) = ((i : Int) - 1) := by omega
        have hnlt : ¬ (np : Int) ≤ ((i : Int) - 1) := by omega
        have hnneg : ¬ ((i : Int) - 1) < 0 := by omega
        by_cases hzk : z9.a.k = 0
        rotate_left
        · have hzb : (z9.a.k == 0) = false := by simpa using hzk
          go_wp2_with fail
          refine (awake12_c w4).mono ?_
          rintro e w9 ⟨rfl, hb⟩
          have hb9 := HB4.out.trans (hb.mono HB4.out.size)
          clear hb
          go_wp2_with fail
          go_ret
          exact ⟨rfl, hb9⟩
        have hzb : (z9.a.k == 0) = true := by simpa using hzk
        have hbes : besI pp.a.k pp.ks.length i 3 = some (i - 1) := by rw [← HPA.out, ← HNP.out]; unfold besI; simp (config := { decide := true }) [alongB, aheadB]; omega
        obtain ⟨m1, m2, m3⟩ := back_there HT.out (by decide) (by decide) HUW.out HPP.out HPY.out hbes hz9 hzk
        have hskf := swapK_fine HS.out.f HPP.out HPY.out hz9
        have hskc := swap_cnt HPP.out HPY.out hz9
        obtain ⟨SK, hSK⟩ : ∃ s, s = swapK x u0 pp i (i - 1) y z9 := ⟨_, rfl⟩
        rw [← hSK] at m1 m2 m3 hskf hskc
        have hsm : Small SK := small_of (by have := HCN.out; omega) hskf
        have hM1 := Move_c x (.slice p n cap) c 3 w4 (HK.out.next HB4.out).all HS.out HCN.out
        rw [m1] at hM1
        have HM1 := Lib.hid hM1
        have HM2 := Lib.hid m2
        have HM3 := Lib.hid m3
        have HSM := Lib.hid hsm
        have HSC : Hid (cnt SK ≤ 500) := by have := HCN.out; show _ ≤ _; omega
        clear m1 m2 m3 hskf hskc hSK hsm hM1 hbes hz9
        go_wp2_with fail
        with_reducible refine HM1.out.mono ?_
        rintro e w5 ⟨ya, pya, nya, kya, rfl, hka, hya, hb⟩
        rw [if_pos rfl] at hya
        simp only at hya
        subst hya
        have HB5 := Lib.hid (HB4.out.trans (hb.mono HB4.out.size))
        have HX5 := Lib.hid (HX4.out.next hb)
        have HKA := Lib.hid hka.all
        clear hb hka HM1 HB4 HX4 HQ4 HK4 hwc4 y0 y1 y2 y3 y4 b0 b1 b2 b3 b4 z0
        obtain ⟨⟨b0, b1, b2, b3, b4⟩, -⟩ := c5 HX5.out
        go_upto_region 15 with fail
        obtain ⟨w6, hw6⟩ : ∃ w6, w6 = w5.alloc (.cells #[.int .i64 ya.a.k, .int .i64 ya.a.w, .int .i64 ya.a.c, .int .i64 ya.a.s, .slice pya nya kya] 24) := ⟨_, rfl⟩
        have hb6 : Below w5.heap.size w5 w6 := by rw [hw6]; exact (Below.refl _ _).alloc (Nat.le_refl _) _
        have hq6 : Blk w6 w5.heap.size 24 #[.int .i64 ya.a.k, .int .i64 ya.a.w, .int .i64 ya.a.c, .int .i64 ya.a.s, .slice pya nya kya] := by rw [hw6]; exact Blk.new _ _ _
        rewrite [← hw6]
        obtain ⟨gA, hgA⟩ : ∃ g, g = w5.heap.size := ⟨_, rfl⟩
        rewrite [← hgA] at hq6 ⊢
        have HB6 := Lib.hid (HB5.out.trans (hb6.mono HB5.out.size))
        have HX6 := Lib.hid (HX5.out.next hb6)
        have HQ6 := Lib.hid hq6
        have HKA6 := Lib.hid (HKA.out.next hb6).all
        clear hw6 hb6 hq6 hgA HB5 HX5 HKA b0 b1 b2 b3 b4
        obtain ⟨⟨a0, a1, a2, a3, a4⟩, -⟩ := c5 HQ6.out
        have hM2 := Move_c ya (.slice pya nya kya) c (backD 3) w6 HKA6.out HSM.out HSC.out
        rw [HM2.out, show backD 3 = 4 from rfl] at hM2
        have HMM := Lib.hid hM2
        clear hM2
        have hxr : bits BinOp.xor IntKind.i64 (3 - 1) 1 = 4 - 1 := by rfl
        simp only [show ((3 : Int) - 1) = 2 from rfl, show ((4 : Int) - 1) = 3 from rfl] at hxr
        go_wp2_with fail
        with_reducible refine HMM.out.mono ?_
        rintro e w7 ⟨yb, pyb, nyb, kyb, rfl, hkb, hyb, hb⟩
        rw [if_pos rfl] at hyb
        simp only at hyb
        subst hyb
        have HB7 := Lib.hid (HB6.out.trans (hb.mono HB6.out.size))
        have HX7 := Lib.hid (HX6.out.next hb)
        have HQ7 := Lib.hid (HQ6.out.next hb)
        have HKA7 := Lib.hid (HKA6.out.next hb).all
        have HKB := Lib.hid hkb.all
        clear hb hkb HMM HB6 HX6 HQ6 HKA6 a0 a1 a2 a3 a4
        go_upto_region 16 with fail
        obtain ⟨w8, hw8⟩ : ∃ w6, w6 = w7.alloc (.cells #[.int .i64 yb.a.k, .int .i64 yb.a.w, .int .i64 yb.a.c, .int .i64 yb.a.s, .slice pyb nyb kyb] 24) := ⟨_, rfl⟩
        have hb8 : Below w7.heap.size w7 w8 := by rw [hw8]; exact (Below.refl _ _).alloc (Nat.le_refl _) _
        have hq8 : Blk w8 w7.heap.size 24 #[.int .i64 yb.a.k, .int .i64 yb.a.w, .int .i64 yb.a.c, .int .i64 yb.a.s, .slice pyb nyb kyb] := by rw [hw8]; exact Blk.new _ _ _
        rewrite [← hw8]
        obtain ⟨gB, hgB⟩ : ∃ g, g = w7.heap.size := ⟨_, rfl⟩
        rewrite [← hgB] at hq8 ⊢
        have HB8 := Lib.hid (HB7.out.trans (hb8.mono HB7.out.size))
        have HX8 := Lib.hid (HX7.out.next hb8)
        have HQA8 := Lib.hid (HQ7.out.next hb8)
        have HQB8 := Lib.hid hq8
        have HKA8 := Lib.hid (HKA7.out.next hb8).all
        have HKB8 := Lib.hid (HKB.out.next hb8).all
        clear hw8 hb8 hq8 hgB HB7 HX7 HQ7 HKA7 HKB
        obtain ⟨⟨b0, b1, b2, b3, b4⟩, -⟩ := c5 HX8.out
        obtain ⟨⟨a0, a1, a2, a3, a4⟩, -⟩ := c5 HQB8.out
        go_wp2_with fail
        refine (same_self rfl HKB8.out (HK.out.next HB8.out).all).mono ?_
        rintro e w9 ⟨rfl, hb⟩
        have HB9 := Lib.hid (HB8.out.trans (hb.mono HB8.out.size))
        have HX9 := Lib.hid (HX8.out.next hb)
        have HQA9 := Lib.hid (HQA8.out.next hb)
        have HKA9 := Lib.hid (HKA8.out.next hb).all
        clear hb HB8 HX8 HQA8 HQB8 HKA8 HKB8 b0 b1 b2 b3 b4 a0 a1 a2 a3 a4
        obtain ⟨⟨b0, b1, b2, b3, b4⟩, -⟩ := c5 HX9.out
        obtain ⟨⟨a0, a1, a2, a3, a4⟩, -⟩ := c5 HQA9.out
        have hsame := same_c _ _ ya yb (.slice pya nya kya) (.slice p n cap) w9 HKA9.out (HK.out.next HB9.out).all
        rw [show sameB ya yb = false by cases hsb : sameB ya yb; rfl; exact absurd ((sameB_iff _ _).1 hsb) HM3.out] at hsame
        have HSA := Lib.hid hsame
        clear hsame
        go_wp2_with fail
        refine HSA.out.mono ?_
        rintro e w10 ⟨rfl, hb⟩
        have HB10 := Lib.hid (HB9.out.trans (hb.mono HB9.out.size))
        clear hb
        go_wp2_with fail
        refine (awake12_c w10).mono ?_
        rintro e w11 ⟨rfl, hb⟩
        have hb11 := HB10.out.trans (hb.mono HB10.out.size)
        clear hb
        go_wp2_with fail
        go_ret
        exact ⟨rfl, hb11⟩
    · rcases hkd with rfl | rfl | rfl | rfl
      · go_wp2_with fail
        refine (awake12_c w4).mono ?_
        rintro e w9 ⟨rfl, hb⟩
        have hb9 := HB4.out.trans (hb.mono HB4.out.size)
        clear hb
        go_wp2_with fail
        go_ret
        exact ⟨rfl, hb9⟩
      · by_cases hi0 : i + 1 < np
        rotate_left
        · have hnl : (np : Int) ≤ (i : Int) + 1 := by omega
          have hnn : ¬ (i : Int) + 1 < 0 := by omega
          go_wp2_with fail
          refine (awake12_c w4).mono ?_
          rintro e w9 ⟨rfl, hb⟩
          have hb9 := HB4.out.trans (hb.mono HB4.out.size)
          clear hb
          go_wp2_with fail
          go_ret
          exact ⟨rfl, hb9⟩
        obtain ⟨z9, hz9⟩ : ∃ z, pp.ks[i + 1]? = some z := ⟨_, List.getElem?_eq_getElem (by rw [← HNP.out]; omega)⟩
        obtain ⟨-, gz, oz, sz, rfl, -, -, -, -, z0, -, -, -, -⟩ := HK4.out.kid hz9
        have hj0 : (0 : Int) ≤ ((i : Int) + 1) := by omega
        have hj1 : ((i : Int) + 1) < (np : Int) := by omega
        have hjn : (((i : Int) + 1)).toNat = i + 1 := by omega
        have hjn2 : ((i + 1 : Nat) : Int) = ((i : Int) + 1) := by omega
        have hnlt : ¬ (np : Int) ≤ ((i : Int) + 1) := by omega
        have hnneg : ¬ ((i : Int) + 1) < 0 := by omega
        by_cases hzk : z9.a.k = 0
        rotate_left
        · have hzb : (z9.a.k == 0) = false := by simpa using hzk
          go_wp2_with fail
          refine (awake12_c w4).mono ?_
          rintro e w9 ⟨rfl, hb⟩
          have hb9 := HB4.out.trans (hb.mono HB4.out.size)
          clear hb
          go_wp2_with fail
          go_ret
          exact ⟨rfl, hb9⟩
        have hzb : (z9.a.k == 0) = true := by simpa using hzk
        have hbes : besI pp.a.k pp.ks.length i 4 = some (i + 1) := by rw [← HPA.out, ← HNP.out]; unfold besI; simp (config := { decide := true }) [alongB, aheadB]; omega
        obtain ⟨m1, m2, m3⟩ := back_there HT.out (by decide) (by decide) HUW.out HPP.out HPY.out hbes hz9 hzk
        have hskf := swapK_fine HS.out.f HPP.out HPY.out hz9
        have hskc := swap_cnt HPP.out HPY.out hz9
        obtain ⟨SK, hSK⟩ : ∃ s, s = swapK x u0 pp i (i + 1) y z9 := ⟨_, rfl⟩
        rw [← hSK] at m1 m2 m3 hskf hskc
        have hsm : Small SK := small_of (by have := HCN.out; omega) hskf
        have hM1 := Move_c x (.slice p n cap) c 4 w4 (HK.out.next HB4.out).all HS.out HCN.out
        rw [m1] at hM1
        have HM1 := Lib.hid hM1
        have HM2 := Lib.hid m2
        have HM3 := Lib.hid m3
        have HSM := Lib.hid hsm
        have HSC : Hid (cnt SK ≤ 500) := by have := HCN.out; show _ ≤ _; omega
        clear m1 m2 m3 hskf hskc hSK hsm hM1 hbes hz9
        go_wp2_with fail
        with_reducible refine HM1.out.mono ?_
        rintro e w5 ⟨ya, pya, nya, kya, rfl, hka, hya, hb⟩
        rw [if_pos rfl] at hya
        simp only at hya
        subst hya
        have HB5 := Lib.hid (HB4.out.trans (hb.mono HB4.out.size))
        have HX5 := Lib.hid (HX4.out.next hb)
        have HKA := Lib.hid hka.all
        clear hb hka HM1 HB4 HX4 HQ4 HK4 hwc4 y0 y1 y2 y3 y4 b0 b1 b2 b3 b4 z0
        obtain ⟨⟨b0, b1, b2, b3, b4⟩, -⟩ := c5 HX5.out
        go_upto_region 15 with fail
        obtain ⟨w6, hw6⟩ : ∃ w6, w6 = w5.alloc (.cells #[.int .i64 ya.a.k, .int .i64 ya.a.w, .int .i64 ya.a.c, .int .i64 ya.a.s, .slice pya nya kya] 24) := ⟨_, rfl⟩
        have hb6 : Below w5.heap.size w5 w6 := by rw [hw6]; exact (Below.refl _ _).alloc (Nat.le_refl _) _
        have hq6 : Blk w6 w5.heap.size 24 #[.int .i64 ya.a.k, .int .i64 ya.a.w, .int .i64 ya.a.c, .int .i64 ya.a.s, .slice pya nya kya] := by rw [hw6]; exact Blk.new _ _ _
        rewrite [← hw6]
        obtain ⟨gA, hgA⟩ : ∃ g, g = w5.heap.size := ⟨_, rfl⟩
        rewrite [← hgA] at hq6 ⊢
        have HB6 := Lib.hid (HB5.out.trans (hb6.mono HB5.out.size))
        have HX6 := Lib.hid (HX5.out.next hb6)
        have HQ6 := Lib.hid hq6
        have HKA6 := Lib.hid (HKA.out.next hb6).all
        clear hw6 hb6 hq6 hgA HB5 HX5 HKA b0 b1 b2 b3 b4
        obtain ⟨⟨a0, a1, a2, a3, a4⟩, -⟩ := c5 HQ6.out
        have hM2 := Move_c ya (.slice pya nya kya) c (backD 4) w6 HKA6.out HSM.out HSC.out
        rw [HM2.out, show backD 4 = 3 from rfl] at hM2
        have HMM := Lib.hid hM2
        clear hM2
        have hxr : bits BinOp.xor IntKind.i64 (4 - 1) 1 = 3 - 1 := by rfl
        simp only [show ((4 : Int) - 1) = 3 from rfl, show ((3 : Int) - 1) = 2 from rfl] at hxr
        go_wp2_with fail
        with_reducible refine HMM.out.mono ?_
        rintro e w7 ⟨yb, pyb, nyb, kyb, rfl, hkb, hyb, hb⟩
        rw [if_pos rfl] at hyb
        simp only at hyb
        subst hyb
        have HB7 := Lib.hid (HB6.out.trans (hb.mono HB6.out.size))
        have HX7 := Lib.hid (HX6.out.next hb)
        have HQ7 := Lib.hid (HQ6.out.next hb)
        have HKA7 := Lib.hid (HKA6.out.next hb).all
        have HKB := Lib.hid hkb.all
        clear hb hkb HMM HB6 HX6 HQ6 HKA6 a0 a1 a2 a3 a4
        go_upto_region 16 with fail
        obtain ⟨w8, hw8⟩ : ∃ w6, w6 = w7.alloc (.cells #[.int .i64 yb.a.k, .int .i64 yb.a.w, .int .i64 yb.a.c, .int .i64 yb.a.s, .slice pyb nyb kyb] 24) := ⟨_, rfl⟩
        have hb8 : Below w7.heap.size w7 w8 := by rw [hw8]; exact (Below.refl _ _).alloc (Nat.le_refl _) _
        have hq8 : Blk w8 w7.heap.size 24 #[.int .i64 yb.a.k, .int .i64 yb.a.w, .int .i64 yb.a.c, .int .i64 yb.a.s, .slice pyb nyb kyb] := by rw [hw8]; exact Blk.new _ _ _
        rewrite [← hw8]
        obtain ⟨gB, hgB⟩ : ∃ g, g = w7.heap.size := ⟨_, rfl⟩
        rewrite [← hgB] at hq8 ⊢
        have HB8 := Lib.hid (HB7.out.trans (hb8.mono HB7.out.size))
        have HX8 := Lib.hid (HX7.out.next hb8)
        have HQA8 := Lib.hid (HQ7.out.next hb8)
        have HQB8 := Lib.hid hq8
        have HKA8 := Lib.hid (HKA7.out.next hb8).all
        have HKB8 := Lib.hid (HKB.out.next hb8).all
        clear hw8 hb8 hq8 hgB HB7 HX7 HQ7 HKA7 HKB
        obtain ⟨⟨b0, b1, b2, b3, b4⟩, -⟩ := c5 HX8.out
        obtain ⟨⟨a0, a1, a2, a3, a4⟩, -⟩ := c5 HQB8.out
        go_wp2_with fail
        refine (same_self rfl HKB8.out (HK.out.next HB8.out).all).mono ?_
        rintro e w9 ⟨rfl, hb⟩
        have HB9 := Lib.hid (HB8.out.trans (hb.mono HB8.out.size))
        have HX9 := Lib.hid (HX8.out.next hb)
        have HQA9 := Lib.hid (HQA8.out.next hb)
        have HKA9 := Lib.hid (HKA8.out.next hb).all
        clear hb HB8 HX8 HQA8 HQB8 HKA8 HKB8 b0 b1 b2 b3 b4 a0 a1 a2 a3 a4
        obtain ⟨⟨b0, b1, b2, b3, b4⟩, -⟩ := c5 HX9.out
        obtain ⟨⟨a0, a1, a2, a3, a4⟩, -⟩ := c5 HQA9.out
        have hsame := same_c _ _ ya yb (.slice pya nya kya) (.slice p n cap) w9 HKA9.out (HK.out.next HB9.out).all
        rw [show sameB ya yb = false by cases hsb : sameB ya yb; rfl; exact absurd ((sameB_iff _ _).1 hsb) HM3.out] at hsame
        have HSA := Lib.hid hsame
        clear hsame
        go_wp2_with fail
        refine HSA.out.mono ?_
        rintro e w10 ⟨rfl, hb⟩
        have HB10 := Lib.hid (HB9.out.trans (hb.mono HB9.out.size))
        clear hb
        go_wp2_with fail
        refine (awake12_c w10).mono ?_
        rintro e w11 ⟨rfl, hb⟩
        have hb11 := HB10.out.trans (hb.mono HB10.out.size)
        clear hb
        go_wp2_with fail
        go_ret
        exact ⟨rfl, hb11⟩
      · go_wp2_with fail
        refine (awake12_c w4).mono ?_
        rintro e w9 ⟨rfl, hb⟩
        have hb9 := HB4.out.trans (hb.mono HB4.out.size)
        clear hb
        go_wp2_with fail
        go_ret
        exact ⟨rfl, hb9⟩
      · by_cases hi0 : i + 1 < np
        rotate_left
        · have hnl : (np : Int) ≤ (i : Int) + 1 := by omega
          have hnn : ¬ (i : Int) + 1 < 0 := by omega
          go_wp2_with fail
          refine (awake12_c w4).mono ?_
          rintro e w9 ⟨rfl, hb⟩
          have hb9 := HB4.out.trans (hb.mono HB4.out.size)
          clear hb
          go_wp2_with fail
          go_ret
          exact ⟨rfl, hb9⟩
        obtain ⟨z9, hz9⟩ : ∃ z, pp.ks[i + 1]? = some z := ⟨_, List.getElem?_eq_getElem (by rw [← HNP.out]; omega)⟩
        obtain ⟨-, gz, oz, sz, rfl, -, -, -, -, z0, -, -, -, -⟩ := HK4.out.kid hz9
        have hj0 : (0 : Int) ≤ ((i : Int) + 1) := by omega
        have hj1 : ((i : Int) + 1) < (np : Int) := by omega
        have hjn : (((i : Int) + 1)).toNat = i + 1 := by omega
        have hjn2 : ((i + 1 : Nat) : Int) = ((i : Int) + 1) := by omega
        have hnlt : ¬ (np : Int) ≤ ((i : Int) + 1) := by omega
        have hnneg : ¬ ((i : Int) + 1) < 0 := by omega
        by_cases hzk : z9.a.k = 0
        rotate_left
        · have hzb : (z9.a.k == 0) = false := by simpa using hzk
          go_wp2_with fail
          refine (awake12_c w4).mono ?_
          rintro e w9 ⟨rfl, hb⟩
          have hb9 := HB4.out.trans (hb.mono HB4.out.size)
          clear hb
          go_wp2_with fail
          go_ret
          exact ⟨rfl, hb9⟩
        have hzb : (z9.a.k == 0) = true := by simpa using hzk
        have hbes : besI pp.a.k pp.ks.length i 4 = some (i + 1) := by rw [← HPA.out, ← HNP.out]; unfold besI; simp (config := { decide := true }) [alongB, aheadB]; omega
        obtain ⟨m1, m2, m3⟩ := back_there HT.out (by decide) (by decide) HUW.out HPP.out HPY.out hbes hz9 hzk
        have hskf := swapK_fine HS.out.f HPP.out HPY.out hz9
        have hskc := swap_cnt HPP.out HPY.out hz9
        obtain ⟨SK, hSK⟩ : ∃ s, s = swapK x u0 pp i (i + 1) y z9 := ⟨_, rfl⟩
        rw [← hSK] at m1 m2 m3 hskf hskc
        have hsm : Small SK := small_of (by have := HCN.out; omega) hskf
        have hM1 := Move_c x (.slice p n cap) c 4 w4 (HK.out.next HB4.out).all HS.out HCN.out
        rw [m1] at hM1
        have HM1 := Lib.hid hM1
        have HM2 := Lib.hid m2
        have HM3 := Lib.hid m3
        have HSM := Lib.hid hsm
        have HSC : Hid (cnt SK ≤ 500) := by have := HCN.out; show _ ≤ _; omega
        clear m1 m2 m3 hskf hskc hSK hsm hM1 hbes hz9
        go_wp2_with fail
        with_reducible refine HM1.out.mono ?_
        rintro e w5 ⟨ya, pya, nya, kya, rfl, hka, hya, hb⟩
        rw [if_pos rfl] at hya
        simp only at hya
        subst hya
        have HB5 := Lib.hid (HB4.out.trans (hb.mono HB4.out.size))
        have HX5 := Lib.hid (HX4.out.next hb)
        have HKA := Lib.hid hka.all
        clear hb hka HM1 HB4 HX4 HQ4 HK4 hwc4 y0 y1 y2 y3 y4 b0 b1 b2 b3 b4 z0
        obtain ⟨⟨b0, b1, b2, b3, b4⟩, -⟩ := c5 HX5.out
        go_upto_region 15 with fail
        obtain ⟨w6, hw6⟩ : ∃ w6, w6 = w5.alloc (.cells #[.int .i64 ya.a.k, .int .i64 ya.a.w, .int .i64 ya.a.c, .int .i64 ya.a.s, .slice pya nya kya] 24) := ⟨_, rfl⟩
        have hb6 : Below w5.heap.size w5 w6 := by rw [hw6]; exact (Below.refl _ _).alloc (Nat.le_refl _) _
        have hq6 : Blk w6 w5.heap.size 24 #[.int .i64 ya.a.k, .int .i64 ya.a.w, .int .i64 ya.a.c, .int .i64 ya.a.s, .slice pya nya kya] := by rw [hw6]; exact Blk.new _ _ _
        rewrite [← hw6]
        obtain ⟨gA, hgA⟩ : ∃ g, g = w5.heap.size := ⟨_, rfl⟩
        rewrite [← hgA] at hq6 ⊢
        have HB6 := Lib.hid (HB5.out.trans (hb6.mono HB5.out.size))
        have HX6 := Lib.hid (HX5.out.next hb6)
        have HQ6 := Lib.hid hq6
        have HKA6 := Lib.hid (HKA.out.next hb6).all
        clear hw6 hb6 hq6 hgA HB5 HX5 HKA b0 b1 b2 b3 b4
        obtain ⟨⟨a0, a1, a2, a3, a4⟩, -⟩ := c5 HQ6.out
        have hM2 := Move_c ya (.slice pya nya kya) c (backD 4) w6 HKA6.out HSM.out HSC.out
        rw [HM2.out, show backD 4 = 3 from rfl] at hM2
        have HMM := Lib.hid hM2
        clear hM2
        have hxr : bits BinOp.xor IntKind.i64 (4 - 1) 1 = 3 - 1 := by rfl
        simp only [show ((4 : Int) - 1) = 3 from rfl, show ((3 : Int) - 1) = 2 from rfl] at hxr
        go_wp2_with fail
        with_reducible refine HMM.out.mono ?_
        rintro e w7 ⟨yb, pyb, nyb, kyb, rfl, hkb, hyb, hb⟩
        rw [if_pos rfl] at hyb
        simp only at hyb
        subst hyb
        have HB7 := Lib.hid (HB6.out.trans (hb.mono HB6.out.size))
        have HX7 := Lib.hid (HX6.out.next hb)
        have HQ7 := Lib.hid (HQ6.out.next hb)
        have HKA7 := Lib.hid (HKA6.out.next hb).all
        have HKB := Lib.hid hkb.all
        clear hb hkb HMM HB6 HX6 HQ6 HKA6 a0 a1 a2 a3 a4
        go_upto_region 16 with fail
        obtain ⟨w8, hw8⟩ : ∃ w6, w6 = w7.alloc (.cells #[.int .i64 yb.a.k, .int .i64 yb.a.w, .int .i64 yb.a.c, .int .i64 yb.a.s, .slice pyb nyb kyb] 24) := ⟨_, rfl⟩
        have hb8 : Below w7.heap.size w7 w8 := by rw [hw8]; exact (Below.refl _ _).alloc (Nat.le_refl _) _
        have hq8 : Blk w8 w7.heap.size 24 #[.int .i64 yb.a.k, .int .i64 yb.a.w, .int .i64 yb.a.c, .int .i64 yb.a.s, .slice pyb nyb kyb] := by rw [hw8]; exact Blk.new _ _ _
        rewrite [← hw8]
        obtain ⟨gB, hgB⟩ : ∃ g, g = w7.heap.size := ⟨_, rfl⟩
        rewrite [← hgB] at hq8 ⊢
        have HB8 := Lib.hid (HB7.out.trans (hb8.mono HB7.out.size))
        have HX8 := Lib.hid (HX7.out.next hb8)
        have HQA8 := Lib.hid (HQ7.out.next hb8)
        have HQB8 := Lib.hid hq8
        have HKA8 := Lib.hid (HKA7.out.next hb8).all
        have HKB8 := Lib.hid (HKB.out.next hb8).all
        clear hw8 hb8 hq8 hgB HB7 HX7 HQ7 HKA7 HKB
        obtain ⟨⟨b0, b1, b2, b3, b4⟩, -⟩ := c5 HX8.out
        obtain ⟨⟨a0, a1, a2, a3, a4⟩, -⟩ := c5 HQB8.out
        go_wp2_with fail
        refine (same_self rfl HKB8.out (HK.out.next HB8.out).all).mono ?_
        rintro e w9 ⟨rfl, hb⟩
        have HB9 := Lib.hid (HB8.out.trans (hb.mono HB8.out.size))
        have HX9 := Lib.hid (HX8.out.next hb)
        have HQA9 := Lib.hid (HQA8.out.next hb)
        have HKA9 := Lib.hid (HKA8.out.next hb).all
        clear hb HB8 HX8 HQA8 HQB8 HKA8 HKB8 b0 b1 b2 b3 b4 a0 a1 a2 a3 a4
        obtain ⟨⟨b0, b1, b2, b3, b4⟩, -⟩ := c5 HX9.out
        obtain ⟨⟨a0, a1, a2, a3, a4⟩, -⟩ := c5 HQA9.out
        have hsame := same_c _ _ ya yb (.slice pya nya kya) (.slice p n cap) w9 HKA9.out (HK.out.next HB9.out).all
        rw [show sameB ya yb = false by cases hsb : sameB ya yb; rfl; exact absurd ((sameB_iff _ _).1 hsb) HM3.out] at hsame
        have HSA := Lib.hid hsame
        clear hsame
        go_wp2_with fail
        refine HSA.out.mono ?_
        rintro e w10 ⟨rfl, hb⟩
        have HB10 := Lib.hid (HB9.out.trans (hb.mono HB9.out.size))
        clear hb
        go_wp2_with fail
        refine (awake12_c w10).mono ?_
        rintro e w11 ⟨rfl, hb⟩
        have hb11 := HB10.out.trans (hb.mono HB10.out.size)
        clear hb
        go_wp2_with fail
        go_ret
        exact ⟨rfl, hb11⟩
end Go.Proofs.Ytjeabkcbaielhaa.Co
end
section
namespace Go.Proofs.Ytjeabkcbaielhaa
open Go.RowKit Go.WideShapes Go.ChangeShapes Go.ChangeAt

section
variable {H : Type} {enc : TypeId × Value → H} {P : Program}
theorem post_args {f : Func} {s : ChangeSpec} {apart fresh handsOn : Bool} {W W' : World} {args : Array Value} {v : Value} {ds gs : List (DataW H)} {places : List MemPlace}
    (hW : DataW.Whole enc P f.params.toList s.vars apart W args.toList ds gs places)
    (hres : ∀ (b : Nat) (sp : Nat → Bool) (hd : Bool), DataW.TrodAll enc P W' b sp hd f.resultTypes.toList (v.resultList f.resultTypes.size) (s.fn H (ds ++ gs)).results [])
    (hargs : DataW.TrodAll enc P W' 0 (fun b => decide (b < W.heap.size)) true f.params.toList args.toList (s.fn H (ds ++ gs)).args places)
    (hvars : DataW.TrodVars enc P W' (fun b => decide (b < W.heap.size)) s.vars (s.fn H (ds ++ gs)).vars []) (hb : Below W.heap.size W W') :
    s.post enc P f apart fresh handsOn false W args v W' := by
  exact ⟨ds, gs, _, [], _, [], hW, hres _ _ _, hargs, hvars, World.keptBut_mono (fun p hp => ⟨hp, .inr (.inl hp)⟩) (hb.frame (· ∈ places)), fun h => by cases h⟩
end
end Go.Proofs.Ytjeabkcbaielhaa
end
section
namespace Go.Proofs.Ytjeabkcbaielhaa.Co
open Go.RowKit Go.WideShapes Go.ChangeShapes Go.ChangeAt Go.Deep
theorem cs_int : Try.prog.cellsOf 3 = 1 := by kernel_rfl
theorem cs_con : Try.prog.cellsOf 24 = 5 := by kernel_rfl
theorem cs_cons : Try.prog.cellsOf 22 = 1 := by kernel_rfl
theorem i64_of_wf {a : Int} (h : (Lit.int .i64 a).wf = true) : I64 a := by
  simp only [Lit.wf, decide_eq_true_eq, Bool.and_eq_true] at h
  have h1 : IntKind.i64.min = -9223372036854775808 := rfl
  have h2 : IntKind.i64.max = 9223372036854775807 := rfl
  unfold I64; omega
theorem bytes_con : Try.prog.bytesOf 24 = 56 := by kernel_rfl
section
variable {H : Type} {enc : TypeId × Value → H} {w : World}
theorem weights_all {P : Program} {e : TypeId} : ∀ {l : List (DataW H)} {d : DataW H}, d ∈ l → ∀ n ∈ d.weights P e, n ∈ DataW.weightsAll P e l := by
  intro l
  induction l with
  | nil => intro d h; cases h
  | cons y r ih =>
    intro d h n hn
    simp only [DataW.weightsAll, List.mem_append]
    rcases List.mem_cons.1 h with rfl | h
    · exact .inl hn
    · exact .inr (ih h n hn)
theorem open_con : ∀ (fuel : Nat) (cs : List Value) (x : DataW H × List MemPlace), DataW.trod enc Try.prog w 0 (fun _ => true) true fuel 24 cs = some x → (∀ n ∈ x.1.weights Try.prog 24, n ≤ 140737488355328) →
    ∃ (y : Con) (s : Value), cs = encC y.a s ∧ KV w (fun b => b < w.heap.size) y.ks s ∧ y.a.wide := by
  intro fuel
  induction fuel using Nat.strongRecOn with
  | ind fuel ih =>
    intro cs x h hwt
    have hcl : cs.length = 5 := by
      obtain ⟨_, _, _, _, hl, _⟩ := DataW.trod_struct Try.underlying24 h
      rw [hl, cs_con]
    match cs, hcl with
    | [c0, c1, c2, c3, c4], _ =>
      obtain ⟨xs, n, hfn, hx, _, hlen, hg⟩ := DataW.trod_struct Try.underlying24 h
      obtain ⟨y0, e0⟩ : ∃ y, xs[0]? = some y := ⟨_, List.getElem?_eq_getElem (by rw [hlen]; decide)⟩
      have k0 : DataW.trod enc Try.prog w 0 (fun _ => true) true n 3 [c0] = some y0 := by
        have h := (hg 0 _ rfl).trans e0
        simpa [cs_int] using h
      obtain ⟨y1, e1⟩ : ∃ y, xs[1]? = some y := ⟨_, List.getElem?_eq_getElem (by rw [hlen]; decide)⟩
      have k1 : DataW.trod enc Try.prog w 0 (fun _ => true) true n 3 [c1] = some y1 := by
        have h := (hg 1 _ rfl).trans e1
        simpa [cs_int] using h
      obtain ⟨y2, e2⟩ : ∃ y, xs[2]? = some y := ⟨_, List.getElem?_eq_getElem (by rw [hlen]; decide)⟩
      have k2 : DataW.trod enc Try.prog w 0 (fun _ => true) true n 3 [c2] = some y2 := by
        have h := (hg 2 _ rfl).trans e2
        simpa [cs_int] using h
      obtain ⟨y3, e3⟩ : ∃ y, xs[3]? = some y := ⟨_, List.getElem?_eq_getElem (by rw [hlen]; decide)⟩
      have k3 : DataW.trod enc Try.prog w 0 (fun _ => true) true n 3 [c3] = some y3 := by
        have h := (hg 3 _ rfl).trans e3
        simpa [cs_int] using h
      obtain ⟨y4, e4⟩ : ∃ y, xs[4]? = some y := ⟨_, List.getElem?_eq_getElem (by rw [hlen]; decide)⟩
      have k4 : DataW.trod enc Try.prog w 0 (fun _ => true) true n 22 [c4] = some y4 := by
        have h := (hg 4 _ rfl).trans e4
        simpa [cs_cons] using h
      obtain ⟨z0, q0, _, w0⟩ := DataW.trod_int Try.underlying3 k0
      simp only [List.cons.injEq, and_true] at q0
      obtain ⟨z1, q1, _, w1⟩ := DataW.trod_int Try.underlying3 k1
      simp only [List.cons.injEq, and_true] at q1
      obtain ⟨z2, q2, _, w2⟩ := DataW.trod_int Try.underlying3 k2
      simp only [List.cons.injEq, and_true] at q2
      obtain ⟨z3, q3, _, w3⟩ := DataW.trod_int Try.underlying3 k3
      simp only [List.cons.injEq, and_true] at q3
      subst q0 q1 q2 q3
      have hw4 : ∀ n ∈ y4.1.weights Try.prog 22, n ≤ 140737488355328 := fun n hn => hwt n (by
        rw [hx]
        simp only [DataW.weights, Try.underlying24]
        exact DataW.weights_mem_each (j := 4) (t := 22) (d := y4.1) rfl (by rw [List.getElem?_map, e4]; rfl) n hn)
      have hwide : I64 z0 ∧ I64 z1 ∧ I64 z2 ∧ I64 z3 := ⟨i64_of_wf w0, i64_of_wf w1, i64_of_wf w2, i64_of_wf w3⟩
      rcases DataW.trod_slice Try.underlying22 k4 with ⟨hcs, _⟩ | ⟨a, len, cap, elems, rest, n', hn', hcs, hy4, _, hl, hm, hle, hel, _⟩
      · simp only [List.cons.injEq, and_true] at hcs
        subst hcs
        exact ⟨.mk ⟨z0, z1, z2, z3⟩ [], .slice none 0 0, rfl, KV.nil w _ none 0, hwide⟩
      · simp only [List.cons.injEq, and_true] at hcs
        subst hcs
        have hy4' : y4.1 = .slice (elems.map (·.1)) (rest.map (·.1)) := by rw [hy4]
        have hlen9' : len ≤ 2513169434917 := by
          have := hw4 _ (by rw [hy4']; simp only [DataW.weights, Try.underlying22]; exact List.mem_cons_self ..)
          rw [bytes_con, List.length_map, hle] at this
          omega
        have hwe : ∀ e ∈ elems, ∀ n ∈ e.1.weights Try.prog 24, n ≤ 140737488355328 := fun e he n hn => hw4 n (by
          rw [hy4']
          simp only [DataW.weights, Try.underlying22]
          exact List.mem_cons_of_mem _ (List.mem_append.2 (.inl (weights_all (List.mem_map.2 ⟨e, he, rfl⟩) n hn))))
        have hex : ∀ i : Nat, ∃ p : Con × Value, i < len → (∀ (k : Nat) (u : Value), (encC p.1.a p.2)[k]? = some u → w.cell? (a.add (i * 5 + k)) = some u) ∧ KV w (fun b => b < w.heap.size) p.1.ks p.2 ∧ p.1.a.wide := fun i => by
          by_cases hi : i < len
          · have h9 := hel i hi
            obtain ⟨e9, he9⟩ : ∃ e, elems[i]? = some e := ⟨_, List.getElem?_eq_getElem (by omega)⟩
            rw [he9, Option.bind_eq_some_iff] at h9
            obtain ⟨cs', h10, h11⟩ := h9
            obtain ⟨y, s, rfl, h12, h13⟩ := ih n' (by omega) cs' e9 h11 (hwe e9 (List.mem_of_getElem? he9))
            rw [cs_con] at h10
            obtain ⟨_, hl5, hat⟩ := World.cells?_some h10
            refine ⟨(y, s), fun _ => ⟨fun k u hu => ?_, h12, h13⟩⟩
            have hk := (List.getElem?_eq_some_iff.1 hu).1
            rw [enc_len] at hk
            have h14 := hat k hk
            rw [← Go.Deep.add_add, h14]
            exact hu
          · exact ⟨(.mk D0 [], undef), fun h => absurd h hi⟩
        obtain ⟨f, hf⟩ := Classical.axiomOfChoice hex
        have hlist : ∀ (j : Nat) (x : Con), ((List.range len).map fun i => (f i).1)[j]? = some x → j < len ∧ x = (f j).1 := fun j x hx => by
          rw [List.getElem?_map] at hx
          have hj : j < len := by
            have := Option.map_eq_some_iff.1 hx
            obtain ⟨i, hi, _⟩ := this
            have := (List.getElem?_eq_some_iff.1 hi).1
            simpa using this
          rw [List.getElem?_range hj] at hx
          exact ⟨hj, (Option.some.inj hx).symm⟩
        have hlen9 : ((List.range len).map fun i => (f i).1).length = len := by simp
        refine ⟨.mk ⟨z0, z1, z2, z3⟩ ((List.range len).map fun i => (f i).1), .slice (some a) len cap, rfl, ?_, hwide⟩
        have := KV.mk (w := w) (Z := fun b => b < w.heap.size) ((List.range len).map fun i => (f i).1) (some a) cap (fun i => (f i).2) (by rw [hlen9]; omega) (by rw [hlen9]; exact hl) (fun j x hx => by
          obtain ⟨hj, rfl⟩ := hlist j x hx
          obtain ⟨h1, h2, h3⟩ := hf j hj
          have hc := h1 0 _ rfl
          have h0 := (hf 0 (by omega)).1 0 _ rfl
          rw [show 0 * 5 + 0 = 0 from rfl, show a.add 0 = a by unfold Addr.add; simp] at h0
          have ha : a = ⟨a.block, a.off, none⟩ := by
            have h8 : a.spot = none := World.cell?_spot h0
            obtain ⟨b, o, s⟩ := a
            simp only at h8
            subst h8; rfl
          have hlt := World.block_lt_of_cell? w _ h0
          refine ⟨a.block, a.off, by rw [← ha], hlt, hlt, h3, fun i u hu => ?_⟩
          have := h1 i u hu
          rw [ha, Addr.add_lit] at this
          rwa [show a.off + (j * 5 + i) = a.off + j * 5 + i by omega] at this) (fun j x hx => by
          obtain ⟨hj, rfl⟩ := hlist j x hx
          exact (hf j hj).2.1)
        rwa [hlen9] at this
set_option maxRecDepth 100000 in
theorem con_of {b0 : Nat} {v : Value} {d : DataW H} {q : List MemPlace} {ts : List TypeId} {ds : List (DataW H)} {j : Nat} (hsz : (DataW.weightsEach Try.prog ts ds).all (· ≤ reachBytes) = true) (ht : ts[j]? = some 24) (hd : ds[j]? = some d)
    (hv : Value.okWide Try.prog w .any b0 24 v) (h : DataW.Trod enc Try.prog w 0 (fun _ => true) true 24 v d q) :
    ∃ (x : Con) (s : Value), v = conV x.a s ∧ KV w (fun b => b < w.heap.size) x.ks s ∧ x.a.wide := by
  obtain ⟨⟨l⟩, rfl, hs5⟩ := okWide_struct Try.underlying24 hv
  obtain ⟨fuel, hf⟩ := h
  obtain ⟨x, s, h1, h2, h3⟩ := open_con fuel _ _ hf (fun n hn => by
    have := List.all_eq_true.1 hsz n (DataW.weights_mem_each ht hd n hn)
    have h9 := reachBytes_lt
    have h3 : (2 : Nat) ^ 47 = 140737488355328 := by decide
    have := of_decide_eq_true this
    omega)
  refine ⟨x, s, ?_, h2, h3⟩
  have h1 : l = encC x.a s := h1
  rw [h1]; rfl
end
end Go.Proofs.Ytjeabkcbaielhaa.Co
end
section
namespace Go.Proofs.Ytjeabkcbaielhaa.lawWalkBack
open Go.ChangeShapes Go.WideShapes Go.ChangeAt Go.RowKit Go.Joins
theorem own : ownKnob Try.prog.godebug = none := by kernel_rfl
theorem laidOut : laidOutB Try.prog = true := by kernel_rfl
set_option maxHeartbeats 1000000 in
set_option maxRecDepth 100000 in
theorem lifted (os : Os) (started : os.Started) (H : Type) (enc : TypeId × Value → H) :
    ReturnsInHanded {} Try.checked os 15 .any (Rows.walkBackSpec.pre6 enc Try.prog Try.f15 Rows.walkBackRow.domain false) (Rows.walkBackSpec.post enc Try.prog Try.f15 false true false false) := by
  refine returnsInHanded_of_change_sized (C := Try.checked) own started (by kernel_rfl) Try.func15
    (ChangeSpec.witness6 (enc := enc) (C := Try.checked) false ⟨#[], #[.agg #[.int .i64 0, .int .i64 0, .int .i64 0, .int .i64 0, .slice none 0 0], .int .i64 0, .int .i64 0], []⟩ 8 (by kernel_rfl) (by kernel_rfl) (by kernel_rfl) (by kernel_rfl)) ?_
  intro W base args ds gs before hval0 hW _ hsz0 _
  have hsz : (DataW.weightsEach Try.prog (Try.f15.params.toList ++ Rows.walkBackSpec.plain.varTypes Try.prog) (ds ++ gs)).all (· ≤ reachBytes) = true := hsz0
  have hval : ∀ (j : Nat) t v, Try.f15.params[j]? = some t → args[j]? = some v → Value.okWide Try.prog W .any base t v := hval0
  have hW' := hW
  obtain ⟨p, q, hA0, hV, rfl, _, _⟩ := hW
  have hA : DataW.TrodAll enc Try.prog W 0 (fun _ => true) true Try.f15.params.toList args.toList ds p := hA0
  rw [Try.params15] at hA hval hsz
  obtain ⟨v0, vs0, d0, ds0, p0, q0, hargs, rfl, rfl, h0, r0⟩ := trodAll_cons hA
  obtain ⟨v1, vs1, d1, ds1, p1, q1, rfl, rfl, rfl, h1, r1⟩ := trodAll_cons r0
  obtain ⟨v2, vs2, d2, ds2, p2, q2, rfl, rfl, rfl, h2, r2⟩ := trodAll_cons r1
  obtain ⟨rfl, rfl, rfl⟩ := trodAll_nil r2
  obtain rfl : args = #[v0, v1, v2] := by cases args; simp_all
  obtain ⟨rfl, rfl⟩ := trodVars_none hV
  have k0 := h0
  have k1 := h1
  have k2 := h2
  clear hA0 hval0
  simp only [List.append_nil] at hW'
  obtain ⟨x0, s0, rfl, p0, z0⟩ := Co.con_of hsz (j := 0) (d := d0) rfl rfl (hval 0 24 v0 rfl rfl) h0
  obtain ⟨a1, rfl, _, _, hw1⟩ := open_int Try.underlying3 (hval 1 3 v1 rfl rfl) h1
  obtain ⟨a2, rfl, _, _, hw2⟩ := open_int Try.underlying3 (hval 2 3 v2 rfl rfl) h2
  refine (Co.backs_c x0 s0 a1 a2 W p0 z0).mono fun e W' ⟨he, hb⟩ => ?_
  subst he
  have g0 := Below.trod (W' := W') laidOut (by kernel_rfl) (of_decide_eq_true (by kernel_rfl)) k0 hb (fun y hy => by simpa using hW'.lt y (by simp [hy]))
  have g1 := Below.trod (W' := W') laidOut (by kernel_rfl) (of_decide_eq_true (by kernel_rfl)) k1 hb (fun y hy => by simpa using hW'.lt y (by simp [hy]))
  have g2 := Below.trod (W' := W') laidOut (by kernel_rfl) (of_decide_eq_true (by kernel_rfl)) k2 hb (fun y hy => by simpa using hW'.lt y (by simp [hy]))
  exact ⟨_, rfl, post_args hW' (fun _ _ _ => (trodAll_cons_mk (shut_bool Try.underlying4 _) trodAll_mk0)) (by have hh := (trodAll_cons_mk g0 (trodAll_cons_mk g1 (trodAll_cons_mk g2 trodAll_mk0))); simp only [List.append_nil] at hh; exact hh) rfl hb⟩
theorem over : Rows.walkBackRow.holds Try.pinned (OpenSpec.ofChange Rows.walkBackSpec) :=
  OpenClaim.holds_of_wide 15 Try.f15 rfl rfl rfl rfl rfl rfl rfl ⟨rfl, rfl, rfl, rfl, rfl⟩ rfl rfl rfl rfl rfl (by kernel_rfl) Try.func15 (by kernel_rfl)
    (of_decide_eq_true (by kernel_rfl)) (by unfold Func.isWrapper; first | (rw [if_pos (by decide +kernel)]; kernel_rfl) | (rw [if_neg (by decide +kernel)]; exact ⟨rfl, rfl⟩))
    (fun os started H enc _ => lifted os started H enc)
theorem proved : Rows.WalkBackSaid := over
#print axioms proved
end Go.Proofs.Ytjeabkcbaielhaa.lawWalkBack
end
