/- The document's Work, walked. -/
import Derived.Test.YteaeccmlibmmmaaArI
import Derived.Deep.DeepCutAuto
namespace Go.Proofs.Yteaeccmlibmmmaa.Ar
open Go.RowKit Go.Shelf
/-- An edge by its number. -/
def edI (k : Nat) (s : Str) : Int := if k = 0 then s.l else if k = 1 then s.t else if k = 2 then s.r else s.b
theorem edge_c (s : Str) (k : Nat) (hk : k ≤ 3) (w : World) : Calls Try.prog 33 #[strV s, .int .i64 (k : Int)] w fun e w' => e = .returned (.int .i64 (edI k s)) ∧ Below w.heap.size w w' := by
  rcases (show k = 0 ∨ k = 1 ∨ k = 2 ∨ k = 3 by omega) with rfl | rfl | rfl | rfl
  all_goals
    go_enter Try.func33, Try.ntmps33
    go_wp2_with fail
    go_ret
    exact ⟨rfl, (Below.refl w.heap.size w).alloc (Nat.le_refl _) _⟩
/-- The numbers found so far: those of the first k edges, and of edge k among so many. -/
def edR (n : ByteArray) (l : List Str) (k : Nat) (m : Int) (j : Nat) : Int := if j < k then stg n (edI j) l else if j = k then m else 0
theorem edR_lt {n : ByteArray} {l : List Str} {k : Nat} {m m' : Int} {j : Nat} (h : j ≠ k) : edR n l k m j = edR n l k m' j := by unfold edR; simp [h]
theorem edR_at (n : ByteArray) (l : List Str) (k : Nat) (m : Int) : edR n l k m k = m := by unfold edR; simp
theorem edR_next (n : ByteArray) (l : List Str) (k j : Nat) : edR n l k (stg n (edI k) l) j = edR n l (k + 1) 0 j := by
  unfold edR
  by_cases h1 : j < k
  · rw [if_pos h1, if_pos (by omega)]
  · rw [if_neg h1]
    by_cases h2 : j = k
    · rw [if_pos h2, if_pos (by omega), h2]
    · rw [if_neg h2, if_neg (by omega)]; split <;> rfl
abbrev EdA (f : Nat → Int) : Array Value := #[.int .i64 (f 0), .int .i64 (f 1), .int .i64 (f 2), .int .i64 (f 3)]
theorem EdA_at {w : World} {g : Nat} {T : TypeId} {f : Nat → Int} (h : Blk w g T (EdA f)) {k : Nat} (hk : k < 4) : w.cell? ⟨g, k, none⟩ = some (.int .i64 (f k)) := by
  rcases (show k = 0 ∨ k = 1 ∨ k = 2 ∨ k = 3 by omega) with rfl | rfl | rfl | rfl
  · exact h.at_ (i := 0) rfl
  · exact h.at_ (i := 1) rfl
  · exact h.at_ (i := 2) rfl
  · exact h.at_ (i := 3) rfl
theorem EdA_set {w : World} {g : Nat} {T : TypeId} {n : ByteArray} {l : List Str} {k : Nat} {m m' : Int} (h : Blk w g T (EdA (edR n l k m))) (hk : k < 4) : Blk (w.setCell ⟨g, k, none⟩ (.int .i64 m')) g T (EdA (edR n l k m')) := by
  have h2 := h.set_ k (.int .i64 m')
  suffices e : (EdA (edR n l k m)).setIfInBounds k (.int .i64 m') = EdA (edR n l k m') by rw [← e]; exact h2
  rcases (show k = 0 ∨ k = 1 ∨ k = 2 ∨ k = 3 by omega) with rfl | rfl | rfl | rfl
  · simp [EdA, edR]
  · simp [EdA, edR]
  · simp [EdA, edR]
  · simp [EdA, edR]
set_option maxHeartbeats 8000000 in
set_option maxRecDepth 100000 in
theorem rwork_c (o : Out) (v : Value) (l : List Str) (w : World) (hR : RdK encS 5 w v l) (hn : l.length ≤ 9223372036854775807) :
    Calls Try.prog 14 #[outV o, v] w fun e w' => e = .returned (rcV (workI o l)) ∧ Below w.heap.size w w' := by
  obtain ⟨p, c, rfl, hcell⟩ := hR
  have HC := Lib.hid hcell
  obtain ⟨n, hln⟩ : ∃ n, n = l.length := ⟨_, rfl⟩
  rw [← hln] at hn ⊢
  have HN := Lib.hid hln
  obtain ⟨wB, hwB⟩ : ∃ wB, wB = ((w.alloc (OutB o)).alloc (.cells (EdC 0 0 0 0) 29)).alloc (.cells (EdC 0 0 0 0) 3) := ⟨_, rfl⟩
  have hB0 : Below w.heap.size w wB := by rw [hwB]; exact (((Below.refl w.heap.size w).alloc (Nat.le_refl _) _).alloc (by simp) _).alloc (by simp; omega) _
  have hQ0 : Blk wB w.heap.size 31 (OutC o) := by rw [hwB]; exact ((Blk.new w 31 _).alloc _).alloc _
  have hZ0 : Blk wB (w.heap.size + 1) 29 (EdC 0 0 0 0) := by
    rw [hwB]; have := (Blk.new (w.alloc (OutB o)) 29 (EdC 0 0 0 0)).alloc (.cells (EdC 0 0 0 0) 3); rwa [World.size_alloc] at this
  have hE0 : Blk wB (w.heap.size + 1 + 1) 3 (EdA (edR o.n l 0 0)) := by
    rw [hwB]; have := Blk.new ((w.alloc (OutB o)).alloc (.cells (EdC 0 0 0 0) 29)) 3 (EdC 0 0 0 0); rwa [World.size_alloc, World.size_alloc] at this
  have HWB := Lib.hid hwB
  have HIN := Lib.hid (fun W => rinset_c o.x o.y o.w o.h (stg o.n (edI 0) l) (stg o.n (edI 1) l) (stg o.n (edI 2) l) (stg o.n (edI 3) l) W)
  have HWI : Hid (workI o l = insetR o.x o.y o.w o.h (stg o.n (edI 0) l) (stg o.n (edI 1) l) (stg o.n (edI 2) l) (stg o.n (edI 3) l)) := rfl
  clear hcell hln hwB
  go_enter Try.func14, Try.ntmps14
  go_upto_region 3 with fail
  rw [← HWB.out]
  go_loopw [6] (fun z wr => ∃ k : Nat, k ≤ 4 ∧ z = .int .i64 k ∧ Below w.heap.size w wr ∧ Blk wr w.heap.size 31 (OutC o) ∧ Blk wr (w.heap.size + 1) 29 (EdC 0 0 0 0) ∧ Blk wr (w.heap.size + 1 + 1) 3 (EdA (edR o.n l k 0))) (fun z _ => 4 - (intOf z).toNat)
  case atStart => exact ⟨0, Nat.zero_le _, rfl, hB0, hQ0, hZ0, hE0⟩
  case round =>
    clear hB0 hQ0 hZ0 hE0
    obtain ⟨k, hk, rfl, hB, hQ, hZ, hE⟩ := hrel
    by_cases hk4 : k < 4
    · have hki : (k : Int) < 4 := by omega
      have hk0 : (0 : Int) ≤ (k : Int) := by omega
      have HB0 := Lib.hid hB
      have HQ0 := Lib.hid hQ
      have HZ0 := Lib.hid hZ
      have HE0 := Lib.hid hE
      clear hB hQ hZ hE
      obtain ⟨wo, hwo⟩ : ∃ wo, wo = wr := ⟨_, rfl⟩
      subst hwo
      go_upto_region 6 with fail
      go_loopw [7] (fun z wr => ∃ i : Nat, i ≤ n ∧ z = .int .i64 i ∧ Below w.heap.size w wr ∧ Blk wr w.heap.size 31 (OutC o) ∧ Blk wr (w.heap.size + 1) 29 (EdC 0 0 0 0) ∧ Blk wr (w.heap.size + 1 + 1) 3 (EdA (edR o.n l k (stg o.n (edI k) (l.take i))))) (fun z _ => n - (intOf z).toNat)
      case atStart => exact ⟨0, Nat.zero_le _, rfl, HB0.out, HQ0.out, HZ0.out, HE0.out⟩
      case round =>
        clear HB0 HQ0 HZ0 HE0
        obtain ⟨i, hi, rfl, hB, hQ, hZ, hE⟩ := hrel
        by_cases hlt : i < n
        · obtain ⟨x, hx⟩ : ∃ x, l[i]? = some x := ⟨_, List.getElem?_eq_getElem (by rw [← HN.out]; exact hlt)⟩
          obtain ⟨b, o', rfl, hb1, hb2⟩ := HC.out i x hx
          have hi0 : (0 : Int) ≤ (i : Int) := by omega
          have hi1 : (i : Int) < (n : Int) := by omega
          have s1 := stg_snoc (n := o.n) (f := edI k) hx
          obtain ⟨m, hm⟩ : ∃ m, m = stg o.n (edI k) (l.take i) := ⟨_, rfl⟩
          rw [← hm] at s1 hE
          have HSS : Hid (∀ W, Below wr.heap.size wr W → W.cell? ⟨b, o' + i * 5, none⟩ = some (.string x.n) ∧ W.cell? ⟨b, o' + i * 5 + 1, none⟩ = some (.int .i64 x.l) ∧ W.cell? ⟨b, o' + i * 5 + 2, none⟩ = some (.int .i64 x.r) ∧ W.cell? ⟨b, o' + i * 5 + 3, none⟩ = some (.int .i64 x.t) ∧ W.cell? ⟨b, o' + i * 5 + 4, none⟩ = some (.int .i64 x.b) ∧ W.cell? ⟨w.heap.size, 0, none⟩ = some (.string o.n) ∧ W.cell? ⟨w.heap.size + 1 + 1, k, none⟩ = some (.int .i64 m)) := fun W h => by
            obtain ⟨y0, y1, y2, y3, y4⟩ := RdK.str (w := W) (fun j u hu => ((hB.trans (h.mono hB.size)).cell (p := ⟨b, o' + i * 5 + j, none⟩) hb1).trans (hb2 j u hu))
            have h1 := EdA_at (hE.next h) hk4
            rw [edR_at] at h1
            exact ⟨y0, y1, y2, y3, y4, (hQ.next h).at_ (i := 0) rfl, h1⟩
          have HBd := Lib.hid (Below.refl wr.heap.size wr).drew
          have HED := Lib.hid (fun W => edge_c x k (by omega) W)
          have HBB := Lib.hid hB
          have HQQ := Lib.hid hQ
          have HZZ := Lib.hid hZ
          have HEE := Lib.hid hE
          obtain ⟨ed, hed⟩ : ∃ e, e = edI k x := ⟨_, rfl⟩
          rw [← hed] at HED s1
          cases hn9 : (x.n.toList == o.n.toList)
          · have hio : isOf o.n x = false := hn9
            rw [if_neg (by rw [hio]; simp)] at s1
            have HS1 := Lib.hid s1
            clear hb1 hb2 hx hB hQ hZ hE s1 hm hio hed HED
            go_upto_region 8 with fail
            refine wp_region_noPanic ?_
            refine wp_region_held_drew (S := fun wx => wx.cell? ⟨b, o' + i * 5, none⟩ = some (.string x.n) ∧ wx.cell? ⟨b, o' + i * 5 + 1, none⟩ = some (.int .i64 x.l) ∧ wx.cell? ⟨b, o' + i * 5 + 2, none⟩ = some (.int .i64 x.r) ∧ wx.cell? ⟨b, o' + i * 5 + 3, none⟩ = some (.int .i64 x.t) ∧ wx.cell? ⟨b, o' + i * 5 + 4, none⟩ = some (.int .i64 x.b) ∧ wx.cell? ⟨w.heap.size, 0, none⟩ = some (.string o.n) ∧ wx.cell? ⟨w.heap.size + 1 + 1, k, none⟩ = some (.int .i64 m)) (by kernel_rfl) (by exact HSS.out _ HBd.out) (fun hHeld => ?_)
            refine wpAnyH_take (i := 0) (v := ?vn0) rfl (by kernel_rfl) (by kernel_rfl) (by kernel_rfl) (fun _ _ _ h => h) (Or.inl ⟨by kernel_rfl, ?yn0⟩) (by assumption) ?rn0
            case yn0 => (intro wq hSw; (try dsimp only at hSw); go_simp; (try with_reducible rfl))
            (try simp only [Act.put, List.getElem_toArray, List.getElem_cons_zero, List.setIfInBounds_toArray, List.set_cons_zero, List.set_cons_succ])
            refine wpAnyH_take (i := 1) (v := ?vn1) rfl (by kernel_rfl) (by kernel_rfl) (by kernel_rfl) (fun _ _ _ h => h) (Or.inl ⟨by kernel_rfl, ?yn1⟩) (by assumption) ?rn1
            case yn1 => (intro wq hSw; (try dsimp only at hSw); go_simp; (try with_reducible rfl))
            (try simp only [Act.put, List.getElem_toArray, List.getElem_cons_succ, List.getElem_cons_zero, List.setIfInBounds_toArray, List.set_cons_zero, List.set_cons_succ])
            refine wpAnyH_take (i := 2) (v := ?vn2) rfl (by kernel_rfl) (by kernel_rfl) (by kernel_rfl) (fun _ _ _ h => h) (Or.inl ⟨by kernel_rfl, ?yn2⟩) (by assumption) ?rn2
            case yn2 => (intro wq hSw; (try dsimp only at hSw); go_simp; (try with_reducible rfl))
            (try simp only [Act.put, List.getElem_toArray, List.getElem_cons_succ, List.getElem_cons_zero, List.setIfInBounds_toArray, List.set_cons_zero, List.set_cons_succ])
            refine wpAnyH_take (i := 3) (v := ?vn3) rfl (by kernel_rfl) (by kernel_rfl) (by kernel_rfl) (fun _ _ _ h => h) (Or.inl ⟨by kernel_rfl, ?yn3⟩) (by assumption) ?rn3
            case yn3 => (intro wq hSw; (try dsimp only at hSw); go_simp; (try with_reducible rfl))
            (try simp only [Act.put, List.getElem_toArray, List.getElem_cons_succ, List.getElem_cons_zero, List.setIfInBounds_toArray, List.set_cons_zero, List.set_cons_succ])
            refine wpAnyH_take (i := 4) (v := ?vn4) rfl (by kernel_rfl) (by kernel_rfl) (by kernel_rfl) (fun _ _ _ h => h) (Or.inl ⟨by kernel_rfl, ?yn4⟩) (by assumption) ?rn4
            case yn4 => (intro wq hSw; (try dsimp only at hSw); go_simp; (try with_reducible rfl))
            (try simp only [Act.put, List.getElem_toArray, List.getElem_cons_succ, List.getElem_cons_zero, List.setIfInBounds_toArray, List.set_cons_zero, List.set_cons_succ])
            refine wpAnyH_take (i := 5) (v := ?vn5) rfl (by kernel_rfl) (by kernel_rfl) (by kernel_rfl) (fun _ _ _ h => h) (Or.inl ⟨by kernel_rfl, ?yn5⟩) (by assumption) ?rn5
            case yn5 => (intro wq hSw; (try dsimp only at hSw); go_simp; (try with_reducible rfl))
            (try simp only [Act.put, List.getElem_toArray, List.getElem_cons_succ, List.getElem_cons_zero, List.setIfInBounds_toArray, List.set_cons_zero, List.set_cons_succ])
            refine wpAnyH_take (i := 6) (v := ?vn6) rfl (by kernel_rfl) (by kernel_rfl) (by kernel_rfl) (fun _ _ _ h => h) (Or.inl ⟨by kernel_rfl, ?yn6⟩) (by assumption) ?rn6
            case yn6 => (intro wq hSw; (try dsimp only at hSw); go_simp; (try with_reducible rfl))
            (try simp only [Act.put, List.getElem_toArray, List.getElem_cons_succ, List.getElem_cons_zero, List.setIfInBounds_toArray, List.set_cons_zero, List.set_cons_succ])
            refine wpAnyH_take (i := 7) (v := ?vn7) rfl (by kernel_rfl) (by kernel_rfl) (by kernel_rfl) (fun _ _ _ h => h) (Or.inl ⟨by kernel_rfl, ?yn7⟩) (by assumption) ?rn7
            case yn7 => (intro wq hSw; (try dsimp only at hSw); go_simp; (try with_reducible rfl))
            (try simp only [Act.put, List.getElem_toArray, List.getElem_cons_succ, List.getElem_cons_zero, List.setIfInBounds_toArray, List.set_cons_zero, List.set_cons_succ])
            refine wpAnyH_take (i := 8) (v := ?vn8) rfl (by kernel_rfl) (by kernel_rfl) (by kernel_rfl) (fun _ _ _ h => h) (Or.inl ⟨by kernel_rfl, ?yn8⟩) (by assumption) ?rn8
            case yn8 => (intro wq hSw; (try dsimp only at hSw); go_simp; (try with_reducible rfl))
            (try simp only [Act.put, List.getElem_toArray, List.getElem_cons_succ, List.getElem_cons_zero, List.setIfInBounds_toArray, List.set_cons_zero, List.set_cons_succ])
            refine wpAnyH_take (i := 9) (v := undef) rfl (by kernel_rfl) (by kernel_rfl) (by kernel_rfl) (fun _ _ _ h => h) (Or.inr ⟨by kernel_rfl, rfl⟩) (by assumption) ?_
            (try simp only [Act.put, List.getElem_toArray, List.getElem_cons_succ, List.getElem_cons_zero, List.setIfInBounds_toArray, List.set_cons_zero, List.set_cons_succ])
            refine wpAnyH_take (i := 10) (v := undef) rfl (by kernel_rfl) (by kernel_rfl) (by kernel_rfl) (fun _ _ _ h => h) (Or.inr ⟨by kernel_rfl, rfl⟩) (by assumption) ?_
            (try simp only [Act.put, List.getElem_toArray, List.getElem_cons_succ, List.getElem_cons_zero, List.setIfInBounds_toArray, List.set_cons_zero, List.set_cons_succ])
            refine wpAnyH_take (i := 11) (v := undef) rfl (by kernel_rfl) (by kernel_rfl) (by kernel_rfl) (fun _ _ _ h => h) (Or.inr ⟨by kernel_rfl, rfl⟩) (by assumption) ?_
            (try simp only [Act.put, List.getElem_toArray, List.getElem_cons_succ, List.getElem_cons_zero, List.setIfInBounds_toArray, List.set_cons_zero, List.set_cons_succ])
            refine wpAnyH_take (i := 12) (v := undef) rfl (by kernel_rfl) (by kernel_rfl) (by kernel_rfl) (fun _ _ _ h => h) (Or.inr ⟨by kernel_rfl, rfl⟩) (by assumption) ?_
            (try simp only [Act.put, List.getElem_toArray, List.getElem_cons_succ, List.getElem_cons_zero, List.setIfInBounds_toArray, List.set_cons_zero, List.set_cons_succ])
            refine wpAnyH_take (i := 13) (v := undef) rfl (by kernel_rfl) (by kernel_rfl) (by kernel_rfl) (fun _ _ _ h => h) (Or.inr ⟨by kernel_rfl, rfl⟩) (by assumption) ?_
            (try simp only [Act.put, List.getElem_toArray, List.getElem_cons_succ, List.getElem_cons_zero, List.setIfInBounds_toArray, List.set_cons_zero, List.set_cons_succ])
            refine wpAnyH_take (i := 14) (v := undef) rfl (by kernel_rfl) (by kernel_rfl) (by kernel_rfl) (fun _ _ _ h => h) (Or.inr ⟨by kernel_rfl, rfl⟩) (by assumption) ?_
            (try simp only [Act.put, List.getElem_toArray, List.getElem_cons_succ, List.getElem_cons_zero, List.setIfInBounds_toArray, List.set_cons_zero, List.set_cons_succ])
            refine wpAnyH_take (i := 15) (v := undef) rfl (by kernel_rfl) (by kernel_rfl) (by kernel_rfl) (fun _ _ _ h => h) (Or.inr ⟨by kernel_rfl, rfl⟩) (by assumption) ?_
            (try simp only [Act.put, List.getElem_toArray, List.getElem_cons_succ, List.getElem_cons_zero, List.setIfInBounds_toArray, List.set_cons_zero, List.set_cons_succ])
            refine wpAnyH_take (i := 16) (v := undef) rfl (by kernel_rfl) (by kernel_rfl) (by kernel_rfl) (fun _ _ _ h => h) (Or.inr ⟨by kernel_rfl, rfl⟩) (by assumption) ?_
            (try simp only [Act.put, List.getElem_toArray, List.getElem_cons_succ, List.getElem_cons_zero, List.setIfInBounds_toArray, List.set_cons_zero, List.set_cons_succ])
            refine wpAnyH_take (i := 17) (v := undef) rfl (by kernel_rfl) (by kernel_rfl) (by kernel_rfl) (fun _ _ _ h => h) (Or.inr ⟨by kernel_rfl, rfl⟩) (by assumption) ?_
            (try simp only [Act.put, List.getElem_toArray, List.getElem_cons_succ, List.getElem_cons_zero, List.setIfInBounds_toArray, List.set_cons_zero, List.set_cons_succ])
            refine wpAnyH_take (i := 18) (v := undef) rfl (by kernel_rfl) (by kernel_rfl) (by kernel_rfl) (fun _ _ _ h => h) (Or.inr ⟨by kernel_rfl, rfl⟩) (by assumption) ?_
            (try simp only [Act.put, List.getElem_toArray, List.getElem_cons_succ, List.getElem_cons_zero, List.setIfInBounds_toArray, List.set_cons_zero, List.set_cons_succ])
            refine wpAnyH_take (i := 19) (v := undef) rfl (by kernel_rfl) (by kernel_rfl) (by kernel_rfl) (fun _ _ _ h => h) (Or.inr ⟨by kernel_rfl, rfl⟩) (by assumption) ?_
            (try simp only [Act.put, List.getElem_toArray, List.getElem_cons_succ, List.getElem_cons_zero, List.setIfInBounds_toArray, List.set_cons_zero, List.set_cons_succ])
            refine wpAnyH_take (i := 20) (v := ?vn20) rfl (by kernel_rfl) (by kernel_rfl) (by kernel_rfl) (fun _ _ _ h => h) (Or.inl ⟨by kernel_rfl, ?yn20⟩) (by assumption) ?rn20
            case yn20 => (intro wq hSw; (try dsimp only at hSw); go_simp; (try with_reducible rfl))
            (try simp only [Act.put, List.getElem_toArray, List.getElem_cons_succ, List.getElem_cons_zero, List.setIfInBounds_toArray, List.set_cons_zero, List.set_cons_succ])
            refine wpAnyH_done (by kernel_rfl) ?_ _
            refine NoPanic.normal ?_
            have HBd2 := Lib.hid (Below.refl wr.heap.size wr).drew
            clear hHeld HSS
            go_wp2_with fail
            go_roundw
            case rel => exact ⟨i + 1, by omega, by go_num, HBB.out.drew, HQQ.out.drew, HZZ.out.drew, by rw [HS1.out]; exact HEE.out.drew⟩
            case measure => simp [intOf]; omega
          · have hio : isOf o.n x = true := hn9
            rw [if_pos hio] at s1
            have HS1 := Lib.hid s1
            clear hb1 hb2 hx hB hQ hZ hE s1 hm hio hed
            go_upto_region 8 with fail
            refine wp_region_noPanic ?_
            refine wp_region_held_drew (S := fun wx => wx.cell? ⟨b, o' + i * 5, none⟩ = some (.string x.n) ∧ wx.cell? ⟨b, o' + i * 5 + 1, none⟩ = some (.int .i64 x.l) ∧ wx.cell? ⟨b, o' + i * 5 + 2, none⟩ = some (.int .i64 x.r) ∧ wx.cell? ⟨b, o' + i * 5 + 3, none⟩ = some (.int .i64 x.t) ∧ wx.cell? ⟨b, o' + i * 5 + 4, none⟩ = some (.int .i64 x.b) ∧ wx.cell? ⟨w.heap.size, 0, none⟩ = some (.string o.n) ∧ wx.cell? ⟨w.heap.size + 1 + 1, k, none⟩ = some (.int .i64 m)) (by kernel_rfl) (by exact HSS.out _ HBd.out) (fun hHeld => ?_)
            refine wpAnyH_take (i := 0) (v := ?vy0) rfl (by kernel_rfl) (by kernel_rfl) (by kernel_rfl) (fun _ _ _ h => h) (Or.inl ⟨by kernel_rfl, ?yy0⟩) (by assumption) ?ry0
            case yy0 => (intro wq hSw; (try dsimp only at hSw); go_simp; (try with_reducible rfl))
            (try simp only [Act.put, List.getElem_toArray, List.getElem_cons_zero, List.setIfInBounds_toArray, List.set_cons_zero, List.set_cons_succ])
            refine wpAnyH_take (i := 1) (v := ?vy1) rfl (by kernel_rfl) (by kernel_rfl) (by kernel_rfl) (fun _ _ _ h => h) (Or.inl ⟨by kernel_rfl, ?yy1⟩) (by assumption) ?ry1
            case yy1 => (intro wq hSw; (try dsimp only at hSw); go_simp; (try with_reducible rfl))
            (try simp only [Act.put, List.getElem_toArray, List.getElem_cons_succ, List.getElem_cons_zero, List.setIfInBounds_toArray, List.set_cons_zero, List.set_cons_succ])
            refine wpAnyH_take (i := 2) (v := ?vy2) rfl (by kernel_rfl) (by kernel_rfl) (by kernel_rfl) (fun _ _ _ h => h) (Or.inl ⟨by kernel_rfl, ?yy2⟩) (by assumption) ?ry2
            case yy2 => (intro wq hSw; (try dsimp only at hSw); go_simp; (try with_reducible rfl))
            (try simp only [Act.put, List.getElem_toArray, List.getElem_cons_succ, List.getElem_cons_zero, List.setIfInBounds_toArray, List.set_cons_zero, List.set_cons_succ])
            refine wpAnyH_take (i := 3) (v := ?vy3) rfl (by kernel_rfl) (by kernel_rfl) (by kernel_rfl) (fun _ _ _ h => h) (Or.inl ⟨by kernel_rfl, ?yy3⟩) (by assumption) ?ry3
            case yy3 => (intro wq hSw; (try dsimp only at hSw); go_simp; (try with_reducible rfl))
            (try simp only [Act.put, List.getElem_toArray, List.getElem_cons_succ, List.getElem_cons_zero, List.setIfInBounds_toArray, List.set_cons_zero, List.set_cons_succ])
            refine wpAnyH_take (i := 4) (v := ?vy4) rfl (by kernel_rfl) (by kernel_rfl) (by kernel_rfl) (fun _ _ _ h => h) (Or.inl ⟨by kernel_rfl, ?yy4⟩) (by assumption) ?ry4
            case yy4 => (intro wq hSw; (try dsimp only at hSw); go_simp; (try with_reducible rfl))
            (try simp only [Act.put, List.getElem_toArray, List.getElem_cons_succ, List.getElem_cons_zero, List.setIfInBounds_toArray, List.set_cons_zero, List.set_cons_succ])
            refine wpAnyH_take (i := 5) (v := ?vy5) rfl (by kernel_rfl) (by kernel_rfl) (by kernel_rfl) (fun _ _ _ h => h) (Or.inl ⟨by kernel_rfl, ?yy5⟩) (by assumption) ?ry5
            case yy5 => (intro wq hSw; (try dsimp only at hSw); go_simp; (try with_reducible rfl))
            (try simp only [Act.put, List.getElem_toArray, List.getElem_cons_succ, List.getElem_cons_zero, List.setIfInBounds_toArray, List.set_cons_zero, List.set_cons_succ])
            refine wpAnyH_take (i := 6) (v := ?vy6) rfl (by kernel_rfl) (by kernel_rfl) (by kernel_rfl) (fun _ _ _ h => h) (Or.inl ⟨by kernel_rfl, ?yy6⟩) (by assumption) ?ry6
            case yy6 => (intro wq hSw; (try dsimp only at hSw); go_simp; (try with_reducible rfl))
            (try simp only [Act.put, List.getElem_toArray, List.getElem_cons_succ, List.getElem_cons_zero, List.setIfInBounds_toArray, List.set_cons_zero, List.set_cons_succ])
            refine wpAnyH_take (i := 7) (v := ?vy7) rfl (by kernel_rfl) (by kernel_rfl) (by kernel_rfl) (fun _ _ _ h => h) (Or.inl ⟨by kernel_rfl, ?yy7⟩) (by assumption) ?ry7
            case yy7 => (intro wq hSw; (try dsimp only at hSw); go_simp; (try with_reducible rfl))
            (try simp only [Act.put, List.getElem_toArray, List.getElem_cons_succ, List.getElem_cons_zero, List.setIfInBounds_toArray, List.set_cons_zero, List.set_cons_succ])
            refine wpAnyH_take (i := 8) (v := ?vy8) rfl (by kernel_rfl) (by kernel_rfl) (by kernel_rfl) (fun _ _ _ h => h) (Or.inl ⟨by kernel_rfl, ?yy8⟩) (by assumption) ?ry8
            case yy8 => (intro wq hSw; (try dsimp only at hSw); go_simp; (try with_reducible rfl))
            (try simp only [Act.put, List.getElem_toArray, List.getElem_cons_succ, List.getElem_cons_zero, List.setIfInBounds_toArray, List.set_cons_zero, List.set_cons_succ])
            refine wpAnyH_take (i := 9) (v := ?vy9) rfl (by kernel_rfl) (by kernel_rfl) (by kernel_rfl) (fun _ _ _ h => h) (Or.inl ⟨by kernel_rfl, ?yy9⟩) (by assumption) ?ry9
            case yy9 => (intro wq hSw; (try dsimp only at hSw); go_simp; (try with_reducible rfl))
            (try simp only [Act.put, List.getElem_toArray, List.getElem_cons_succ, List.getElem_cons_zero, List.setIfInBounds_toArray, List.set_cons_zero, List.set_cons_succ])
            refine wpAnyH_take (i := 10) (v := ?vy10) rfl (by kernel_rfl) (by kernel_rfl) (by kernel_rfl) (fun _ _ _ h => h) (Or.inl ⟨by kernel_rfl, ?yy10⟩) (by assumption) ?ry10
            case yy10 => (intro wq hSw; (try dsimp only at hSw); go_simp; (try with_reducible rfl))
            (try simp only [Act.put, List.getElem_toArray, List.getElem_cons_succ, List.getElem_cons_zero, List.setIfInBounds_toArray, List.set_cons_zero, List.set_cons_succ])
            refine wpAnyH_take (i := 11) (v := ?vy11) rfl (by kernel_rfl) (by kernel_rfl) (by kernel_rfl) (fun _ _ _ h => h) (Or.inl ⟨by kernel_rfl, ?yy11⟩) (by assumption) ?ry11
            case yy11 => (intro wq hSw; (try dsimp only at hSw); go_simp; (try with_reducible rfl))
            (try simp only [Act.put, List.getElem_toArray, List.getElem_cons_succ, List.getElem_cons_zero, List.setIfInBounds_toArray, List.set_cons_zero, List.set_cons_succ])
            refine wpAnyH_take (i := 12) (v := ?vy12) rfl (by kernel_rfl) (by kernel_rfl) (by kernel_rfl) (fun _ _ _ h => h) (Or.inl ⟨by kernel_rfl, ?yy12⟩) (by assumption) ?ry12
            case yy12 => (intro wq hSw; (try dsimp only at hSw); go_simp; (try with_reducible rfl))
            (try simp only [Act.put, List.getElem_toArray, List.getElem_cons_succ, List.getElem_cons_zero, List.setIfInBounds_toArray, List.set_cons_zero, List.set_cons_succ])
            refine wpAnyH_take (i := 13) (v := ?vy13) rfl (by kernel_rfl) (by kernel_rfl) (by kernel_rfl) (fun _ _ _ h => h) (Or.inl ⟨by kernel_rfl, ?yy13⟩) (by assumption) ?ry13
            case yy13 => (intro wq hSw; (try dsimp only at hSw); go_simp; (try with_reducible rfl))
            (try simp only [Act.put, List.getElem_toArray, List.getElem_cons_succ, List.getElem_cons_zero, List.setIfInBounds_toArray, List.set_cons_zero, List.set_cons_succ])
            refine wpAnyH_take (i := 15) (v := ?vy15) rfl (by kernel_rfl) (by kernel_rfl) (by kernel_rfl) (fun _ _ _ h => h) (Or.inl ⟨by kernel_rfl, ?yy15⟩) (by assumption) ?ry15
            case yy15 => (intro wq hSw; (try dsimp only at hSw); go_simp; (try with_reducible rfl))
            (try simp only [Act.put, List.getElem_toArray, List.getElem_cons_succ, List.getElem_cons_zero, List.setIfInBounds_toArray, List.set_cons_zero, List.set_cons_succ])
            refine wpAnyH_take (i := 16) (v := ?vy16) rfl (by kernel_rfl) (by kernel_rfl) (by kernel_rfl) (fun _ _ _ h => h) (Or.inl ⟨by kernel_rfl, ?yy16⟩) (by assumption) ?ry16
            case yy16 => (intro wq hSw; (try dsimp only at hSw); go_simp; (try with_reducible rfl))
            (try simp only [Act.put, List.getElem_toArray, List.getElem_cons_succ, List.getElem_cons_zero, List.setIfInBounds_toArray, List.set_cons_zero, List.set_cons_succ])
            refine wpAnyH_take (i := 17) (v := ?vy17) rfl (by kernel_rfl) (by kernel_rfl) (by kernel_rfl) (fun _ _ _ h => h) (Or.inl ⟨by kernel_rfl, ?yy17⟩) (by assumption) ?ry17
            case yy17 => (intro wq hSw; (try dsimp only at hSw); go_simp; (try with_reducible rfl))
            (try simp only [Act.put, List.getElem_toArray, List.getElem_cons_succ, List.getElem_cons_zero, List.setIfInBounds_toArray, List.set_cons_zero, List.set_cons_succ])
            refine wpAnyH_take (i := 18) (v := ?vy18) rfl (by kernel_rfl) (by kernel_rfl) (by kernel_rfl) (fun _ _ _ h => h) (Or.inl ⟨by kernel_rfl, ?yy18⟩) (by assumption) ?ry18
            case yy18 => (intro wq hSw; (try dsimp only at hSw); go_simp; (try with_reducible rfl))
            (try simp only [Act.put, List.getElem_toArray, List.getElem_cons_succ, List.getElem_cons_zero, List.setIfInBounds_toArray, List.set_cons_zero, List.set_cons_succ])
            refine wpAnyH_ready (rs := [14]) (by kernel_rfl) (by simp) ?_
            refine AllReadyH.cons rfl (fun K hK => ?_) AllReadyH.nil
            go_simp
            refine (HED.out _).mono ?_
            rintro ex w3 ⟨rfl, hb⟩; have HB3 := Lib.hid (HBd.out.trans (hb.mono HBd.out.size)); have hS3 : w3.cell? ⟨b, o' + i * 5, none⟩ = some (.string x.n) ∧ w3.cell? ⟨b, o' + i * 5 + 1, none⟩ = some (.int .i64 x.l) ∧ w3.cell? ⟨b, o' + i * 5 + 2, none⟩ = some (.int .i64 x.r) ∧ w3.cell? ⟨b, o' + i * 5 + 3, none⟩ = some (.int .i64 x.t) ∧ w3.cell? ⟨b, o' + i * 5 + 4, none⟩ = some (.int .i64 x.b) ∧ w3.cell? ⟨w.heap.size, 0, none⟩ = some (.string o.n) ∧ w3.cell? ⟨w.heap.size + 1 + 1, k, none⟩ = some (.int .i64 m) := HSS.out _ HB3.out; clear hb
            (try dsimp only)
            refine hK.out _ _ (by exact hS3) (fun hHeld => ?_)
            clear hK K
            (try simp only [Act.put, List.getElem_toArray, List.getElem_cons_succ, List.getElem_cons_zero, List.setIfInBounds_toArray, List.set_cons_zero, List.set_cons_succ])
            refine wpAnyH_take (i := 19) (v := ?vy19) rfl (by kernel_rfl) (by kernel_rfl) (by kernel_rfl) (fun _ _ _ h => h) (Or.inl ⟨by kernel_rfl, ?yy19⟩) (by assumption) ?ry19
            case yy19 => (intro wq hSw; (try dsimp only at hSw); go_simp; (try with_reducible rfl))
            (try simp only [Act.put, List.getElem_toArray, List.getElem_cons_succ, List.getElem_cons_zero, List.setIfInBounds_toArray, List.set_cons_zero, List.set_cons_succ])
            refine wpAnyH_take (i := 20) (v := ?vy20) rfl (by kernel_rfl) (by kernel_rfl) (by kernel_rfl) (fun _ _ _ h => h) (Or.inl ⟨by kernel_rfl, ?yy20⟩) (by assumption) ?ry20
            case yy20 => (intro wq hSw; (try dsimp only at hSw); go_simp; (try with_reducible rfl))
            (try simp only [Act.put, List.getElem_toArray, List.getElem_cons_succ, List.getElem_cons_zero, List.setIfInBounds_toArray, List.set_cons_zero, List.set_cons_succ])
            refine wpAnyH_done (by kernel_rfl) ?_ _
            refine NoPanic.normal ?_
            have HB4 := Lib.hid (HBB.out.trans (HB3.out.mono HBB.out.size))
            have HQ4 := Lib.hid (HQQ.out.next HB3.out)
            have HZ4 := Lib.hid (HZZ.out.next HB3.out)
            have HE4 := Lib.hid (HEE.out.next HB3.out)
            clear hHeld
            by_cases hgt : m < ed
            · have HM : Hid (stg o.n (edI k) (l.take (i + 1)) = ed) := by show _ = _; rw [HS1.out]; omega
              obtain ⟨t0, t1, t2, t3, t4, t5, t6⟩ := hS3
              clear HSS HS1
              go_wp2_with fail
              refine (HED.out _).mono ?_
              rintro e w6 ⟨rfl, hb⟩
              have HB6 := Lib.hid (HB4.out.trans (hb.mono HB4.out.size))
              have HQ6 := Lib.hid (HQ4.out.next hb)
              have HZ6 := Lib.hid (HZ4.out.next hb)
              have HE6 := Lib.hid (HE4.out.next hb)
              have c9 := EdA_at HE6.out hk4
              have f9 := HE6.out.frozen k
              have hl9 := HE6.out.lt
              clear hb t0 t1 t2 t3 t4 t5 t6
              go_wp2_with fail
              go_roundw
              case rel => exact ⟨i + 1, by omega, by go_num, HB6.out.setCell (p := ⟨w.heap.size + 1 + 1, k, none⟩) (by simp; omega) _, HQ6.out.far (p := ⟨w.heap.size + 1 + 1, k, none⟩) (by simp; omega) _, HZ6.out.far (p := ⟨w.heap.size + 1 + 1, k, none⟩) (by simp) _, by rw [HM.out]; exact EdA_set HE6.out hk4⟩
              case measure => simp [intOf]; omega
            · have HM : Hid (stg o.n (edI k) (l.take (i + 1)) = m) := by show _ = _; rw [HS1.out]; omega
              clear HSS HS1 hS3
              go_wp2_with fail
              go_roundw
              case rel => exact ⟨i + 1, by omega, by go_num, HB4.out, HQ4.out, HZ4.out, by rw [HM.out]; exact HE4.out⟩
              case measure => simp [intOf]; omega
        · have ht := stg_all (n := o.n) (f := edI k) (l := l) (k := i) (by have := HN.out; omega)
          rw [ht] at hE
          have hE2 : Blk wr (w.heap.size + 1 + 1) 3 (EdA (edR o.n l (k + 1) 0)) := by
            have e : EdA (edR o.n l k (stg o.n (edI k) l)) = EdA (edR o.n l (k + 1) 0) := by simp only [EdA, edR_next]
            rw [← e]; exact hE
          have HB1 := Lib.hid hB
          have HQ1 := Lib.hid hQ
          have HZ1 := Lib.hid hZ
          have HE1 := Lib.hid hE2
          clear ht hB hQ hZ hE hE2
          go_wp2_with fail
          go_roundw
          case rel => exact ⟨k + 1, by omega, by go_num, HB1.out, HQ1.out, HZ1.out, HE1.out⟩
          case measure => simp [intOf]; omega
    · obtain rfl : k = 4 := by omega
      have hf : EdA (edR o.n l 4 0) = EdC (stg o.n (edI 0) l) (stg o.n (edI 1) l) (stg o.n (edI 2) l) (stg o.n (edI 3) l) := by simp [EdA, edR]
      rw [hf] at hE
      obtain ⟨a1, h1⟩ : ∃ a, a = stg o.n (edI 0) l := ⟨_, rfl⟩
      obtain ⟨a2, h2⟩ : ∃ a, a = stg o.n (edI 1) l := ⟨_, rfl⟩
      obtain ⟨a3, h3⟩ : ∃ a, a = stg o.n (edI 2) l := ⟨_, rfl⟩
      obtain ⟨a4, h4⟩ : ∃ a, a = stg o.n (edI 3) l := ⟨_, rfl⟩
      rw [← h1, ← h2, ← h3, ← h4] at hE HIN HWI
      obtain ⟨r, hr⟩ : ∃ i, i = insetR o.x o.y o.w o.h a1 a2 a3 a4 := ⟨_, rfl⟩
      rw [← hr] at HIN HWI
      have HSS : Hid (∀ W, Below wr.heap.size wr W → W.cell? ⟨w.heap.size, 1, none⟩ = some (.int .i64 o.x) ∧ W.cell? ⟨w.heap.size, 2, none⟩ = some (.int .i64 o.y) ∧ W.cell? ⟨w.heap.size, 3, none⟩ = some (.int .i64 o.w) ∧ W.cell? ⟨w.heap.size, 4, none⟩ = some (.int .i64 o.h) ∧ W.cell? ⟨w.heap.size + 1 + 1, 0, none⟩ = some (.int .i64 a1) ∧ W.cell? ⟨w.heap.size + 1 + 1, 1, none⟩ = some (.int .i64 a2) ∧ W.cell? ⟨w.heap.size + 1 + 1, 2, none⟩ = some (.int .i64 a3) ∧ W.cell? ⟨w.heap.size + 1 + 1, 3, none⟩ = some (.int .i64 a4)) := fun W h => by
        obtain ⟨⟨e0, e1, e2, e3⟩, -⟩ := (hE.next h).c4
        exact ⟨(hQ.next h).at_ (i := 1) rfl, (hQ.next h).at_ (i := 2) rfl, (hQ.next h).at_ (i := 3) rfl, (hQ.next h).at_ (i := 4) rfl, e0, e1, e2, e3⟩
      have HS6 : Hid (∀ W, Below wr.heap.size wr W → ((((W.setCell ⟨w.heap.size + 1, 0, none⟩ (.int .i64 r.x)).setCell ⟨w.heap.size + 1, 1, none⟩ (.int .i64 r.y)).setCell ⟨w.heap.size + 1, 2, none⟩ (.int .i64 r.w)).setCell ⟨w.heap.size + 1, 3, none⟩ (.int .i64 r.h)).cell? ⟨w.heap.size, 1, none⟩ = some (.int .i64 o.x) ∧ ((((W.setCell ⟨w.heap.size + 1, 0, none⟩ (.int .i64 r.x)).setCell ⟨w.heap.size + 1, 1, none⟩ (.int .i64 r.y)).setCell ⟨w.heap.size + 1, 2, none⟩ (.int .i64 r.w)).setCell ⟨w.heap.size + 1, 3, none⟩ (.int .i64 r.h)).cell? ⟨w.heap.size, 2, none⟩ = some (.int .i64 o.y) ∧ ((((W.setCell ⟨w.heap.size + 1, 0, none⟩ (.int .i64 r.x)).setCell ⟨w.heap.size + 1, 1, none⟩ (.int .i64 r.y)).setCell ⟨w.heap.size + 1, 2, none⟩ (.int .i64 r.w)).setCell ⟨w.heap.size + 1, 3, none⟩ (.int .i64 r.h)).cell? ⟨w.heap.size, 3, none⟩ = some (.int .i64 o.w) ∧ ((((W.setCell ⟨w.heap.size + 1, 0, none⟩ (.int .i64 r.x)).setCell ⟨w.heap.size + 1, 1, none⟩ (.int .i64 r.y)).setCell ⟨w.heap.size + 1, 2, none⟩ (.int .i64 r.w)).setCell ⟨w.heap.size + 1, 3, none⟩ (.int .i64 r.h)).cell? ⟨w.heap.size, 4, none⟩ = some (.int .i64 o.h) ∧ ((((W.setCell ⟨w.heap.size + 1, 0, none⟩ (.int .i64 r.x)).setCell ⟨w.heap.size + 1, 1, none⟩ (.int .i64 r.y)).setCell ⟨w.heap.size + 1, 2, none⟩ (.int .i64 r.w)).setCell ⟨w.heap.size + 1, 3, none⟩ (.int .i64 r.h)).cell? ⟨w.heap.size + 1 + 1, 0, none⟩ = some (.int .i64 a1) ∧ ((((W.setCell ⟨w.heap.size + 1, 0, none⟩ (.int .i64 r.x)).setCell ⟨w.heap.size + 1, 1, none⟩ (.int .i64 r.y)).setCell ⟨w.heap.size + 1, 2, none⟩ (.int .i64 r.w)).setCell ⟨w.heap.size + 1, 3, none⟩ (.int .i64 r.h)).cell? ⟨w.heap.size + 1 + 1, 1, none⟩ = some (.int .i64 a2) ∧ ((((W.setCell ⟨w.heap.size + 1, 0, none⟩ (.int .i64 r.x)).setCell ⟨w.heap.size + 1, 1, none⟩ (.int .i64 r.y)).setCell ⟨w.heap.size + 1, 2, none⟩ (.int .i64 r.w)).setCell ⟨w.heap.size + 1, 3, none⟩ (.int .i64 r.h)).cell? ⟨w.heap.size + 1 + 1, 2, none⟩ = some (.int .i64 a3) ∧ ((((W.setCell ⟨w.heap.size + 1, 0, none⟩ (.int .i64 r.x)).setCell ⟨w.heap.size + 1, 1, none⟩ (.int .i64 r.y)).setCell ⟨w.heap.size + 1, 2, none⟩ (.int .i64 r.w)).setCell ⟨w.heap.size + 1, 3, none⟩ (.int .i64 r.h)).cell? ⟨w.heap.size + 1 + 1, 3, none⟩ = some (.int .i64 a4)) := fun W h => by
        have hE2 := ((((hE.next h).far (p := ⟨w.heap.size + 1, 0, none⟩) (by simp) (.int .i64 r.x)).far (p := ⟨w.heap.size + 1, 1, none⟩) (by simp) (.int .i64 r.y)).far (p := ⟨w.heap.size + 1, 2, none⟩) (by simp) (.int .i64 r.w)).far (p := ⟨w.heap.size + 1, 3, none⟩) (by simp) (.int .i64 r.h)
        have hQ2 := ((((hQ.next h).far (p := ⟨w.heap.size + 1, 0, none⟩) (by simp) (.int .i64 r.x)).far (p := ⟨w.heap.size + 1, 1, none⟩) (by simp) (.int .i64 r.y)).far (p := ⟨w.heap.size + 1, 2, none⟩) (by simp) (.int .i64 r.w)).far (p := ⟨w.heap.size + 1, 3, none⟩) (by simp) (.int .i64 r.h)
        obtain ⟨⟨e0, e1, e2, e3⟩, -⟩ := hE2.c4
        exact ⟨hQ2.at_ (i := 1) rfl, hQ2.at_ (i := 2) rfl, hQ2.at_ (i := 3) rfl, hQ2.at_ (i := 4) rfl, e0, e1, e2, e3⟩
      have HBd := Lib.hid (Below.refl wr.heap.size wr).drew
      have HBB := Lib.hid hB
      have HZZ := Lib.hid hZ
      clear h1 h2 h3 h4 hr hf hB hQ hZ hE
      go_upto_region 10 with fail
      refine wp_region_noPanic ?_
      refine wp_region_held_drew (S := fun wx => wx.cell? ⟨w.heap.size, 1, none⟩ = some (.int .i64 o.x) ∧ wx.cell? ⟨w.heap.size, 2, none⟩ = some (.int .i64 o.y) ∧ wx.cell? ⟨w.heap.size, 3, none⟩ = some (.int .i64 o.w) ∧ wx.cell? ⟨w.heap.size, 4, none⟩ = some (.int .i64 o.h) ∧ wx.cell? ⟨w.heap.size + 1 + 1, 0, none⟩ = some (.int .i64 a1) ∧ wx.cell? ⟨w.heap.size + 1 + 1, 1, none⟩ = some (.int .i64 a2) ∧ wx.cell? ⟨w.heap.size + 1 + 1, 2, none⟩ = some (.int .i64 a3) ∧ wx.cell? ⟨w.heap.size + 1 + 1, 3, none⟩ = some (.int .i64 a4)) (by kernel_rfl) (by exact HSS.out _ HBd.out) (fun hHeld => ?_)
      refine wpAnyH_take (i := 0) (v := ?vz0) rfl (by kernel_rfl) (by kernel_rfl) (by kernel_rfl) (fun _ _ _ h => h) (Or.inl ⟨by kernel_rfl, ?yz0⟩) (by assumption) ?rz0
      case yz0 => (intro wq hSw; (try dsimp only at hSw); go_simp; (try with_reducible rfl))
      (try simp only [Act.put, List.getElem_toArray, List.getElem_cons_zero, List.setIfInBounds_toArray, List.set_cons_zero, List.set_cons_succ])
      refine wpAnyH_take (i := 1) (v := ?vz1) rfl (by kernel_rfl) (by kernel_rfl) (by kernel_rfl) (fun _ _ _ h => h) (Or.inl ⟨by kernel_rfl, ?yz1⟩) (by assumption) ?rz1
      case yz1 => (intro wq hSw; (try dsimp only at hSw); go_simp; (try with_reducible rfl))
      (try simp only [Act.put, List.getElem_toArray, List.getElem_cons_succ, List.getElem_cons_zero, List.setIfInBounds_toArray, List.set_cons_zero, List.set_cons_succ])
      refine wpAnyH_take (i := 2) (v := ?vz2) rfl (by kernel_rfl) (by kernel_rfl) (by kernel_rfl) (fun _ _ _ h => h) (Or.inl ⟨by kernel_rfl, ?yz2⟩) (by assumption) ?rz2
      case yz2 => (intro wq hSw; (try dsimp only at hSw); go_simp; (try with_reducible rfl))
      (try simp only [Act.put, List.getElem_toArray, List.getElem_cons_succ, List.getElem_cons_zero, List.setIfInBounds_toArray, List.set_cons_zero, List.set_cons_succ])
      refine wpAnyH_take (i := 3) (v := ?vz3) rfl (by kernel_rfl) (by kernel_rfl) (by kernel_rfl) (fun _ _ _ h => h) (Or.inl ⟨by kernel_rfl, ?yz3⟩) (by assumption) ?rz3
      case yz3 => (intro wq hSw; (try dsimp only at hSw); go_simp; (try with_reducible rfl))
      (try simp only [Act.put, List.getElem_toArray, List.getElem_cons_succ, List.getElem_cons_zero, List.setIfInBounds_toArray, List.set_cons_zero, List.set_cons_succ])
      refine wpAnyH_take (i := 4) (v := ?vz4) rfl (by kernel_rfl) (by kernel_rfl) (by kernel_rfl) (fun _ _ _ h => h) (Or.inl ⟨by kernel_rfl, ?yz4⟩) (by assumption) ?rz4
      case yz4 => (intro wq hSw; (try dsimp only at hSw); go_simp; (try with_reducible rfl))
      (try simp only [Act.put, List.getElem_toArray, List.getElem_cons_succ, List.getElem_cons_zero, List.setIfInBounds_toArray, List.set_cons_zero, List.set_cons_succ])
      refine wpAnyH_take (i := 5) (v := ?vz5) rfl (by kernel_rfl) (by kernel_rfl) (by kernel_rfl) (fun _ _ _ h => h) (Or.inl ⟨by kernel_rfl, ?yz5⟩) (by assumption) ?rz5
      case yz5 => (intro wq hSw; (try dsimp only at hSw); go_simp; (try with_reducible rfl))
      (try simp only [Act.put, List.getElem_toArray, List.getElem_cons_succ, List.getElem_cons_zero, List.setIfInBounds_toArray, List.set_cons_zero, List.set_cons_succ])
      refine wpAnyH_take (i := 6) (v := ?vz6) rfl (by kernel_rfl) (by kernel_rfl) (by kernel_rfl) (fun _ _ _ h => h) (Or.inl ⟨by kernel_rfl, ?yz6⟩) (by assumption) ?rz6
      case yz6 => (intro wq hSw; (try dsimp only at hSw); go_simp; (try with_reducible rfl))
      (try simp only [Act.put, List.getElem_toArray, List.getElem_cons_succ, List.getElem_cons_zero, List.setIfInBounds_toArray, List.set_cons_zero, List.set_cons_succ])
      refine wpAnyH_take (i := 7) (v := ?vz7) rfl (by kernel_rfl) (by kernel_rfl) (by kernel_rfl) (fun _ _ _ h => h) (Or.inl ⟨by kernel_rfl, ?yz7⟩) (by assumption) ?rz7
      case yz7 => (intro wq hSw; (try dsimp only at hSw); go_simp; (try with_reducible rfl))
      (try simp only [Act.put, List.getElem_toArray, List.getElem_cons_succ, List.getElem_cons_zero, List.setIfInBounds_toArray, List.set_cons_zero, List.set_cons_succ])
      refine wpAnyH_take (i := 8) (v := ?vz8) rfl (by kernel_rfl) (by kernel_rfl) (by kernel_rfl) (fun _ _ _ h => h) (Or.inl ⟨by kernel_rfl, ?yz8⟩) (by assumption) ?rz8
      case yz8 => (intro wq hSw; (try dsimp only at hSw); go_simp; (try with_reducible rfl))
      (try simp only [Act.put, List.getElem_toArray, List.getElem_cons_succ, List.getElem_cons_zero, List.setIfInBounds_toArray, List.set_cons_zero, List.set_cons_succ])
      refine wpAnyH_take (i := 9) (v := ?vz9) rfl (by kernel_rfl) (by kernel_rfl) (by kernel_rfl) (fun _ _ _ h => h) (Or.inl ⟨by kernel_rfl, ?yz9⟩) (by assumption) ?rz9
      case yz9 => (intro wq hSw; (try dsimp only at hSw); go_simp; (try with_reducible rfl))
      (try simp only [Act.put, List.getElem_toArray, List.getElem_cons_succ, List.getElem_cons_zero, List.setIfInBounds_toArray, List.set_cons_zero, List.set_cons_succ])
      refine wpAnyH_take (i := 10) (v := ?vz10) rfl (by kernel_rfl) (by kernel_rfl) (by kernel_rfl) (fun _ _ _ h => h) (Or.inl ⟨by kernel_rfl, ?yz10⟩) (by assumption) ?rz10
      case yz10 => (intro wq hSw; (try dsimp only at hSw); go_simp; (try with_reducible rfl))
      (try simp only [Act.put, List.getElem_toArray, List.getElem_cons_succ, List.getElem_cons_zero, List.setIfInBounds_toArray, List.set_cons_zero, List.set_cons_succ])
      refine wpAnyH_take (i := 11) (v := ?vz11) rfl (by kernel_rfl) (by kernel_rfl) (by kernel_rfl) (fun _ _ _ h => h) (Or.inl ⟨by kernel_rfl, ?yz11⟩) (by assumption) ?rz11
      case yz11 => (intro wq hSw; (try dsimp only at hSw); go_simp; (try with_reducible rfl))
      (try simp only [Act.put, List.getElem_toArray, List.getElem_cons_succ, List.getElem_cons_zero, List.setIfInBounds_toArray, List.set_cons_zero, List.set_cons_succ])
      refine wpAnyH_take (i := 12) (v := ?vz12) rfl (by kernel_rfl) (by kernel_rfl) (by kernel_rfl) (fun _ _ _ h => h) (Or.inl ⟨by kernel_rfl, ?yz12⟩) (by assumption) ?rz12
      case yz12 => (intro wq hSw; (try dsimp only at hSw); go_simp; (try with_reducible rfl))
      (try simp only [Act.put, List.getElem_toArray, List.getElem_cons_succ, List.getElem_cons_zero, List.setIfInBounds_toArray, List.set_cons_zero, List.set_cons_succ])
      refine wpAnyH_take (i := 13) (v := ?vz13) rfl (by kernel_rfl) (by kernel_rfl) (by kernel_rfl) (fun _ _ _ h => h) (Or.inl ⟨by kernel_rfl, ?yz13⟩) (by assumption) ?rz13
      case yz13 => (intro wq hSw; (try dsimp only at hSw); go_simp; (try with_reducible rfl))
      (try simp only [Act.put, List.getElem_toArray, List.getElem_cons_succ, List.getElem_cons_zero, List.setIfInBounds_toArray, List.set_cons_zero, List.set_cons_succ])
      refine wpAnyH_ready (rs := [14]) (by kernel_rfl) (by simp) ?_
      refine AllReadyH.cons rfl (fun K hK => ?_) AllReadyH.nil
      go_simp
      refine (HIN.out _).mono ?_
      rintro ex w5 ⟨rfl, hb⟩; have HB5 := Lib.hid (HBd.out.trans (hb.mono HBd.out.size)); have hS5 : w5.cell? ⟨w.heap.size, 1, none⟩ = some (.int .i64 o.x) ∧ w5.cell? ⟨w.heap.size, 2, none⟩ = some (.int .i64 o.y) ∧ w5.cell? ⟨w.heap.size, 3, none⟩ = some (.int .i64 o.w) ∧ w5.cell? ⟨w.heap.size, 4, none⟩ = some (.int .i64 o.h) ∧ w5.cell? ⟨w.heap.size + 1 + 1, 0, none⟩ = some (.int .i64 a1) ∧ w5.cell? ⟨w.heap.size + 1 + 1, 1, none⟩ = some (.int .i64 a2) ∧ w5.cell? ⟨w.heap.size + 1 + 1, 2, none⟩ = some (.int .i64 a3) ∧ w5.cell? ⟨w.heap.size + 1 + 1, 3, none⟩ = some (.int .i64 a4) := HSS.out _ HB5.out; have HZ5 := Lib.hid (HZZ.out.next HB5.out); obtain ⟨⟨z0, z1, z2, z3⟩, g0, g1, g2, g3⟩ := HZ5.out.c4; have hlz := HZ5.out.lt; have hS6 : ((((w5.setCell ⟨w.heap.size + 1, 0, none⟩ (.int .i64 r.x)).setCell ⟨w.heap.size + 1, 1, none⟩ (.int .i64 r.y)).setCell ⟨w.heap.size + 1, 2, none⟩ (.int .i64 r.w)).setCell ⟨w.heap.size + 1, 3, none⟩ (.int .i64 r.h)).cell? ⟨w.heap.size, 1, none⟩ = some (.int .i64 o.x) ∧ ((((w5.setCell ⟨w.heap.size + 1, 0, none⟩ (.int .i64 r.x)).setCell ⟨w.heap.size + 1, 1, none⟩ (.int .i64 r.y)).setCell ⟨w.heap.size + 1, 2, none⟩ (.int .i64 r.w)).setCell ⟨w.heap.size + 1, 3, none⟩ (.int .i64 r.h)).cell? ⟨w.heap.size, 2, none⟩ = some (.int .i64 o.y) ∧ ((((w5.setCell ⟨w.heap.size + 1, 0, none⟩ (.int .i64 r.x)).setCell ⟨w.heap.size + 1, 1, none⟩ (.int .i64 r.y)).setCell ⟨w.heap.size + 1, 2, none⟩ (.int .i64 r.w)).setCell ⟨w.heap.size + 1, 3, none⟩ (.int .i64 r.h)).cell? ⟨w.heap.size, 3, none⟩ = some (.int .i64 o.w) ∧ ((((w5.setCell ⟨w.heap.size + 1, 0, none⟩ (.int .i64 r.x)).setCell ⟨w.heap.size + 1, 1, none⟩ (.int .i64 r.y)).setCell ⟨w.heap.size + 1, 2, none⟩ (.int .i64 r.w)).setCell ⟨w.heap.size + 1, 3, none⟩ (.int .i64 r.h)).cell? ⟨w.heap.size, 4, none⟩ = some (.int .i64 o.h) ∧ ((((w5.setCell ⟨w.heap.size + 1, 0, none⟩ (.int .i64 r.x)).setCell ⟨w.heap.size + 1, 1, none⟩ (.int .i64 r.y)).setCell ⟨w.heap.size + 1, 2, none⟩ (.int .i64 r.w)).setCell ⟨w.heap.size + 1, 3, none⟩ (.int .i64 r.h)).cell? ⟨w.heap.size + 1 + 1, 0, none⟩ = some (.int .i64 a1) ∧ ((((w5.setCell ⟨w.heap.size + 1, 0, none⟩ (.int .i64 r.x)).setCell ⟨w.heap.size + 1, 1, none⟩ (.int .i64 r.y)).setCell ⟨w.heap.size + 1, 2, none⟩ (.int .i64 r.w)).setCell ⟨w.heap.size + 1, 3, none⟩ (.int .i64 r.h)).cell? ⟨w.heap.size + 1 + 1, 1, none⟩ = some (.int .i64 a2) ∧ ((((w5.setCell ⟨w.heap.size + 1, 0, none⟩ (.int .i64 r.x)).setCell ⟨w.heap.size + 1, 1, none⟩ (.int .i64 r.y)).setCell ⟨w.heap.size + 1, 2, none⟩ (.int .i64 r.w)).setCell ⟨w.heap.size + 1, 3, none⟩ (.int .i64 r.h)).cell? ⟨w.heap.size + 1 + 1, 2, none⟩ = some (.int .i64 a3) ∧ ((((w5.setCell ⟨w.heap.size + 1, 0, none⟩ (.int .i64 r.x)).setCell ⟨w.heap.size + 1, 1, none⟩ (.int .i64 r.y)).setCell ⟨w.heap.size + 1, 2, none⟩ (.int .i64 r.w)).setCell ⟨w.heap.size + 1, 3, none⟩ (.int .i64 r.h)).cell? ⟨w.heap.size + 1 + 1, 3, none⟩ = some (.int .i64 a4) := HS6.out _ HB5.out; clear hb
      (try dsimp only)
      refine hK.out _ _ (by exact hS5) (fun hHeld => ?_)
      clear hK K
      (try simp only [Act.put, List.getElem_toArray, List.getElem_cons_succ, List.getElem_cons_zero, List.setIfInBounds_toArray, List.set_cons_zero, List.set_cons_succ])
      refine wpAnyH_ready (rs := [15]) (by kernel_rfl) (by simp) ?_
      refine AllReadyH.cons rfl (fun K hK => ?_) AllReadyH.nil
      go_simp
      refine hK.out _ _ (by exact hS6) (fun hHeld => ?_)
      clear hK K
      (try simp only [Act.put, List.getElem_toArray, List.getElem_cons_succ, List.getElem_cons_zero, List.setIfInBounds_toArray, List.set_cons_zero, List.set_cons_succ])
      refine wpAnyH_done (by kernel_rfl) ?_ _
      refine NoPanic.normal ?_
      have HB6 := Lib.hid (HBB.out.trans (HB5.out.mono HBB.out.size))
      clear hHeld hS6 hS5 z0 z1 z2 z3 g0 g1 g2 g3
      have hfin := (((HZ5.out.set_ 0 (.int .i64 r.x)).set_ 1 (.int .i64 r.y)).set_ 2 (.int .i64 r.w)).set_ 3 (.int .i64 r.h)
      obtain ⟨⟨u0, u1, u2, u3⟩, -⟩ := (show Blk _ _ _ #[.int .i64 r.x, .int .i64 r.y, .int .i64 r.w, .int .i64 r.h] from hfin).c4
      go_wp2_with fail
      refine bodyPost_ret (v := rcV r) (by simp [results, Try.results14, go_sem, u0, u1, u2, u3]) rfl ?_
      refine ⟨by rw [HWI.out], ?_⟩
      exact (((HB6.out.setCell (p := ⟨w.heap.size + 1, 0, none⟩) (by simp) _).setCell (p := ⟨w.heap.size + 1, 1, none⟩) (by simp) _).setCell (p := ⟨w.heap.size + 1, 2, none⟩) (by simp) _).setCell (p := ⟨w.heap.size + 1, 3, none⟩) (by simp) _
end Go.Proofs.Yteaeccmlibmmmaa.Ar
