/- The reference's tree: without, Kids, Get, Ints. -/
import Derived.Test.YtfdgpbdppenhmaaGreatSae
import Derived.Maps.AppendAt
import Derived.Deep.QuietTactic
import Derived.BigQuiet
section
namespace Go.Proofs.YtfdgpbdppenhmaaGreat
open Go.RowKit Go.Shelf
def dropL (i : Int) (L : List Win) : List Win := L.filter (fun v => decide (v.id ≠ i))
def kidsL (L : List Win) (i : Int) : List Int := (L.filter (fun v => v.par == i)).map (·.id)
theorem winInfo : (Tryz.prog.info? 61).map (fun i => (i.zero, i.size, i.bytes)) = some (some (.agg #[.int .i64 0, .int .i64 0, .int .i64 0, .int .i64 0, .int .i64 0, .int .i64 0, .bool false]), 7, 56) := by kernel_rfl
theorem dropL_snoc {L : List Win} {i : Int} {k : Nat} {v : Win} (hv : L[k]? = some v) : dropL i (L.take (k + 1)) = if v.id = i then dropL i (L.take k) else dropL i (L.take k) ++ [v] := by
  unfold dropL
  rw [take_snoc_get hv, List.filter_append]
  by_cases h : v.id = i <;> simp [h]
theorem kidsL_snoc {L : List Win} {i : Int} {k : Nat} {v : Win} (hv : L[k]? = some v) : kidsL (L.take (k + 1)) i = if v.par = i then kidsL (L.take k) i ++ [v.id] else kidsL (L.take k) i := by
  unfold kidsL
  rw [take_snoc_get hv, List.filter_append, List.map_append]
  by_cases h : v.par = i <;> simp [h]
theorem dropL_len (i : Int) (L : List Win) (k : Nat) : (dropL i (L.take k)).length ≤ L.length := by
  unfold dropL
  refine Nat.le_trans (List.length_filter_le _ _) ?_
  rw [List.length_take]; omega
theorem kidsL_len (i : Int) (L : List Win) (k : Nat) : (kidsL (L.take k) i).length ≤ L.length := by
  unfold kidsL
  rw [List.length_map]
  refine Nat.le_trans (List.length_filter_le _ _) ?_
  rw [List.length_take]; omega
theorem oneCell_encW (v : Win) : ∀ u ∈ encW v, u.oneCell' = true := by
  intro u hu
  simp only [encW, List.mem_cons, List.not_mem_nil, or_false] at hu
  rcases hu with rfl | rfl | rfl | rfl | rfl | rfl | rfl <;> rfl
/-- The rounds: windows gathered. -/
def GwS (w : World) (wr : World) (v : Value) (xs : List Win) : Prop := OwK encW 61 7 wr w.heap.size v xs ∧ Below w.heap.size w wr
theorem GwS.put {w wr w1 : World} {v v' : Value} {xs : List Win} {u : Win} {o : Obj} (h : GwS w wr v xs) (ho : w1.ownsRow w.heap.size 61 7 v' (xs.length + 1) (xs.flatMap encW ++ encW u)) (hg : (wr.alloc o).grownBy w1 v.ownBlock) : GwS w w1 v' (xs ++ [u]) := by
  refine ⟨?_, below_only (h.2.alloc h.2.size _) hg (by have := h.2.size; simp; omega) (fun k hk => (h.1.lt hk).1)⟩
  unfold OwK
  rw [List.length_append, List.flatMap_append]
  simpa using ho
def GiS (w : World) (wr : World) (v : Value) (xs : List Int) : Prop := wr.ownsRow w.heap.size 3 1 v xs.length (xs.map (Value.int .i64)) ∧ Below w.heap.size w wr
theorem GiS.put {w wr w1 : World} {v v' : Value} {xs : List Int} {u : Int} {o : Obj} (h : GiS w wr v xs) (ho : w1.ownsRow w.heap.size 3 1 v' (xs.length + 1) (xs.map (Value.int .i64) ++ [.int .i64 u])) (hg : (wr.alloc o).grownBy w1 v.ownBlock) : GiS w w1 v' (xs ++ [u]) := by
  refine ⟨?_, below_only (h.2.alloc h.2.size _) hg (by have := h.2.size; simp; omega) (fun k hk => (World.ownsRow.lt h.1 k hk).1)⟩
  rw [List.length_append, List.map_append]
  exact ho
theorem row_less {w : World} {B B' : Nat} {T : TypeId} {k : Nat} {v : Value} {n : Nat} {xs : List Value} (h : w.ownsRow B T k v n xs) (hb : B' ≤ B) : w.ownsRow B' T k v n xs := by
  obtain ⟨h1, h2⟩ := h
  refine ⟨h1, ?_⟩
  rcases h2 with h2 | ⟨g, cap, cur, a, b, c⟩
  · exact .inl h2
  · exact .inr ⟨g, cap, cur, a, Nat.le_trans hb b, c⟩
section
variable {w : World} {R : RT} {sv : Value} {L : List Win}
set_option maxRecDepth 100000 in
set_option maxHeartbeats 4000000 in
theorem without_c (h : RW w sv L) (hL : L.length ≤ 1048576) (i : Int) :
    Calls Tryz.prog 86 #[refV R sv, .int .i64 i] w fun e w' => ∃ v', e = .returned v' ∧ OwK encW 61 7 w' w.heap.size v' (dropL i L) ∧ Below w.heap.size w w' := by
  obtain ⟨i0, hi0, hz0, hz1, hz2⟩ := info_parts winInfo
  obtain ⟨p, c, rfl, hc⟩ := h
  obtain ⟨wb, hwb⟩ : ∃ wb, wb = w.alloc (.cells (refA R (.slice p L.length c)) 54) := ⟨_, rfl⟩
  have hbel : Below w.heap.size w wb := by rw [hwb]; exact (Below.refl _ _).alloc (Nat.le_refl _) _
  have b5 : wb.cell? ⟨w.heap.size, 5, none⟩ = some (.slice p L.length c) := by rw [hwb]; exact (Blk.new w _ _).at_ (i := 5) rfl
  have hwl : w.heap.size < wb.heap.size := World.block_lt_of_cell? _ _ b5
  obtain ⟨n, hn⟩ : ∃ n, n = L.length := ⟨_, rfl⟩
  rw [← hn] at b5 hwb hL ⊢
  have HC := Lib.hid (fun (wr : World) (hr : Below wb.heap.size wb wr) (j : Nat) (v : Win) (hv : L[j]? = some v) => (show ∃ b o, p = some ⟨b, o, none⟩ ∧ ∀ (i : Nat) (u : Value), (encW v)[i]? = some u → wr.cell? ⟨b, o + j * 7 + i, none⟩ = some u from by
    obtain ⟨b, o, h1, h2, h3⟩ := hc j v hv
    exact ⟨b, o, h1, fun i u hu => (hr.cell (p := ⟨b, o + j * 7 + i, none⟩) (Nat.lt_of_lt_of_le h2 hbel.size)).trans ((hbel.cell (p := ⟨b, o + j * 7 + i, none⟩) h2).trans (h3 i u hu))⟩))
  have HX := Lib.hid (fun (wr : World) (hr : Below wb.heap.size wb wr) => (hr.cell (p := ⟨w.heap.size, 5, none⟩) hwl).trans b5)
  have HN := Lib.hid hn
  have HB := Lib.hid hbel
  have HW := Lib.hid hwb
  have HLL := Lib.hid (fun k => dropL_len i L k)
  have hm0 : (n : Int) ≤ 1048576 := by omega
  clear hc hn hbel
  go_enter Tryz.func86, Tryz.ntmps86
  go_upto_region 1 with fail
  rw [← HW.out]
  clear hwb
  go_wp2_with fail
  go_loopw [5, 6] (fun y z wr => ∃ k : Nat, k ≤ n ∧ z = .int .i64 k ∧ GwS wb wr y (dropL i (L.take k))) (fun _ z _ => n - (intOf z).toNat)
  case atStart => exact ⟨0, Nat.zero_le _, rfl, OwK.nil _ _, Below.refl _ _⟩
  case round =>
    obtain ⟨k, hk, rfl, hG⟩ := hrel
    have b5r := HX.out wr hG.2
    have HG := Lib.hid hG
    have hi0' : (0 : Int) ≤ (k : Int) := by omega
    clear b5
    by_cases hlt : k < n
    · obtain ⟨v, hv⟩ : ∃ v, L[k]? = some v := ⟨_, List.getElem?_eq_getElem (by rw [← HN.out]; exact hlt)⟩
      obtain ⟨b, o, rfl, hb2⟩ := HC.out wr hG.2 k v hv
      obtain ⟨r0, r1, r2, r3, r4, r5, r6⟩ := RW.cells hb2
      have hsn := dropL_snoc (i := i) hv
      clear hb2 hG hv
      have hi1 : (k : Int) < (n : Int) := by omega
      by_cases hvi : v.id = i
      · have h1 : (v.id == i) = true := by simpa using hvi
        have h2 : (v.id != i) = false := by simpa using hvi
        rw [if_pos hvi] at hsn
        have HSN := Lib.hid hsn
        clear hvi hsn
        go_wp2_with fail
        go_roundw
        case rel => exact ⟨k + 1, by omega, by go_num, by rw [HSN.out]; exact HG.out⟩
        case measure => simp [intOf]; omega
      · have h1 : (v.id == i) = false := by simpa using hvi
        have h2 : (v.id != i) = true := by simpa using hvi
        rw [if_neg hvi] at hsn
        have HSN := Lib.hid hsn
        clear hvi hsn
        go_wp2_with (at_builtin; refine wpList_append_own_at _ rfl (.tmp 22) (.tmp 28) 52 rfl wb.heap.size 61 i0 (.agg #[.int .i64 0, .int .i64 0, .int .i64 0, .int .i64 0, .int .i64 0, .int .i64 0, .bool false]) 7 56 Tryz.underlying52 hi0 hz0 hz1 hz2 rfl (by decide) _ _ _ rfl (World.ownsRow.alloc HG.out.1 _) ⟨_, 0, none⟩ 1 1 (encW v) rfl rfl (cell_list_at _ _ (encW v) _ rfl) (oneCell_encW v) (by unfold maxLen; have := HLL.out k; have := HN.out; omega) (by have := HLL.out k; have := HN.out; omega) (by have := HG.out.2.size; simp; omega) ?_; intro v3 w3 ho3 hg3 _ _; have HP := Lib.hid (HG.out.put ho3 hg3); clear ho3 hg3)
        go_roundw
        case rel => exact ⟨k + 1, by omega, by go_num, by rw [HSN.out]; exact HP.out⟩
        case measure => simp [intOf]; omega
    · obtain rfl : k = n := by omega
      clear hG
      go_wp2_with fail
      go_ret
      have hT : dropL i (L.take k) = dropL i L := by rw [HN.out, List.take_length]
      exact ⟨_, rfl, (hT ▸ HG.out.1).less HB.out.size, HG.out.2.on HB.out HB.out.size⟩
set_option maxRecDepth 100000 in
set_option maxHeartbeats 4000000 in
theorem rkids_c (h : RW w sv L) (hL : L.length ≤ 1048576) (i : Int) :
    Calls Tryz.prog 23 #[refV R sv, .int .i64 i] w fun e w' => ∃ v', e = .returned v' ∧ w'.ownsRow w.heap.size 3 1 v' (kidsL L i).length ((kidsL L i).map (Value.int .i64)) ∧ Below w.heap.size w w' := by
  obtain ⟨i0, hi0, hz0, hz1, hz2⟩ := info_parts intInfo
  obtain ⟨p, c, rfl, hc⟩ := h
  obtain ⟨wb, hwb⟩ : ∃ wb, wb = w.alloc (.cells (refA R (.slice p L.length c)) 54) := ⟨_, rfl⟩
  have hbel : Below w.heap.size w wb := by rw [hwb]; exact (Below.refl _ _).alloc (Nat.le_refl _) _
  have b5 : wb.cell? ⟨w.heap.size, 5, none⟩ = some (.slice p L.length c) := by rw [hwb]; exact (Blk.new w _ _).at_ (i := 5) rfl
  have hwl : w.heap.size < wb.heap.size := World.block_lt_of_cell? _ _ b5
  obtain ⟨n, hn⟩ : ∃ n, n = L.length := ⟨_, rfl⟩
  rw [← hn] at b5 hwb hL ⊢
  have HC := Lib.hid (fun (wr : World) (hr : Below wb.heap.size wb wr) (j : Nat) (v : Win) (hv : L[j]? = some v) => (show ∃ b o, p = some ⟨b, o, none⟩ ∧ ∀ (i : Nat) (u : Value), (encW v)[i]? = some u → wr.cell? ⟨b, o + j * 7 + i, none⟩ = some u from by
    obtain ⟨b, o, h1, h2, h3⟩ := hc j v hv
    exact ⟨b, o, h1, fun i u hu => (hr.cell (p := ⟨b, o + j * 7 + i, none⟩) (Nat.lt_of_lt_of_le h2 hbel.size)).trans ((hbel.cell (p := ⟨b, o + j * 7 + i, none⟩) h2).trans (h3 i u hu))⟩))
  have HX := Lib.hid (fun (wr : World) (hr : Below wb.heap.size wb wr) => (hr.cell (p := ⟨w.heap.size, 5, none⟩) hwl).trans b5)
  have HN := Lib.hid hn
  have HB := Lib.hid hbel
  have HW := Lib.hid hwb
  have HLL := Lib.hid (fun k => kidsL_len i L k)
  have hm0 : (n : Int) ≤ 1048576 := by omega
  clear hc hn hbel
  go_enter Tryz.func23, Tryz.ntmps23
  go_upto_region 1 with fail
  rw [← HW.out]
  clear hwb
  go_wp2_with fail
  go_loopw [5, 6] (fun y z wr => ∃ k : Nat, k ≤ n ∧ z = .int .i64 k ∧ GiS wb wr y (kidsL (L.take k) i)) (fun _ z _ => n - (intOf z).toNat)
  case atStart => exact ⟨0, Nat.zero_le _, rfl, World.ownsRow_nil _ _ _ _, Below.refl _ _⟩
  case round =>
    obtain ⟨k, hk, rfl, hG⟩ := hrel
    have b5r := HX.out wr hG.2
    have HG := Lib.hid hG
    have hi0' : (0 : Int) ≤ (k : Int) := by omega
    clear b5
    by_cases hlt : k < n
    · obtain ⟨v, hv⟩ : ∃ v, L[k]? = some v := ⟨_, List.getElem?_eq_getElem (by rw [← HN.out]; exact hlt)⟩
      obtain ⟨b, o, rfl, hb2⟩ := HC.out wr hG.2 k v hv
      obtain ⟨r0, r1, r2, r3, r4, r5, r6⟩ := RW.cells hb2
      have hsn := kidsL_snoc (i := i) hv
      clear hb2 hG hv
      have hi1 : (k : Int) < (n : Int) := by omega
      by_cases hvi : v.par = i
      · have h1 : (v.par == i) = true := by simpa using hvi
        rw [if_pos hvi] at hsn
        have HSN := Lib.hid hsn
        clear hvi hsn
        go_wp2_with (at_builtin; refine wpList_append_own_at _ rfl (.tmp 22) (.tmp 29) 67 rfl wb.heap.size 3 i0 (.int .i64 0) 1 8 Tryz.underlying67 hi0 hz0 hz1 hz2 rfl (by decide) _ _ _ rfl (World.ownsRow.alloc HG.out.1 _) ⟨_, 0, none⟩ 1 1 [.int .i64 v.id] rfl rfl (cell_list_at _ _ [.int .i64 v.id] _ rfl) (oneCell_ints [v.id]) (by unfold maxLen; have := HLL.out k; have := HN.out; omega) (by have := HLL.out k; have := HN.out; omega) (by have := HG.out.2.size; simp; omega) ?_; intro v3 w3 ho3 hg3 _ _; have HP := Lib.hid (HG.out.put ho3 hg3); clear ho3 hg3)
        go_roundw
        case rel => exact ⟨k + 1, by omega, by go_num, by rw [HSN.out]; exact HP.out⟩
        case measure => simp [intOf]; omega
      · have h1 : (v.par == i) = false := by simpa using hvi
        rw [if_neg hvi] at hsn
        have HSN := Lib.hid hsn
        clear hvi hsn
        go_wp2_with fail
        go_roundw
        case rel => exact ⟨k + 1, by omega, by go_num, by rw [HSN.out]; exact HG.out⟩
        case measure => simp [intOf]; omega
    · obtain rfl : k = n := by omega
      clear hG
      go_wp2_with fail
      go_ret
      have hT : kidsL (L.take k) i = kidsL L i := by rw [HN.out, List.take_length]
      have hG := HG.out.1
      rw [hT] at hG
      exact ⟨_, rfl, row_less hG HB.out.size, HG.out.2.on HB.out HB.out.size⟩
end
abbrev winR (v : Win) : Value := .agg #[.int .i64 v.id, .int .i64 v.par, .int .i64 v.x, .int .i64 v.y, .int .i64 v.w, .int .i64 v.h, .bool v.on]
def findL (i : Int) (L : List Win) : Option Win := match placeN i L with
  | none => none
  | some k => L[k]?
theorem set7 {B g : Nat} {a w : World} (h : Below B a w) (hg : B ≤ g) (v0 v1 v2 v3 v4 v5 v6 : Value) : Below B a (((((((w.setCell ⟨g, 0, none⟩ v0).setCell ⟨g, 1, none⟩ v1).setCell ⟨g, 2, none⟩ v2).setCell ⟨g, 3, none⟩ v3).setCell ⟨g, 4, none⟩ v4).setCell ⟨g, 5, none⟩ v5).setCell ⟨g, 6, none⟩ v6) :=
  ((((((h.setCell hg _).setCell hg _).setCell hg _).setCell hg _).setCell hg _).setCell hg _).setCell hg _
def rootW (R : RT) : Win := ⟨0, -1, R.x, R.y, R.w, R.h, true⟩
def getR (R : RT) (L : List Win) (i : Int) : Option Win := if i = 0 then some (rootW R) else findL i L
def getV (o : Option Win) : Value := match o with
  | some v => .tuple #[winR v, .bool true]
  | none => .tuple #[winR zeroW, .bool false]
section
variable {w : World} {R : RT} {sv : Value} {L : List Win}
set_option maxRecDepth 100000 in
set_option maxHeartbeats 4000000 in
theorem rget_c (h : RW w sv L) (hL : L.length ≤ 1048576) (i : Int) :
    Calls Tryz.prog 39 #[refV R sv, .int .i64 i] w fun e w' => e = .returned (getV (getR R L i)) ∧ Below w.heap.size w w' := by
  obtain ⟨wb, hwb⟩ : ∃ wb, wb = (w.alloc (.cells (refA R sv) 54)).alloc (.cells #[.int .i64 0, .int .i64 0, .int .i64 0, .int .i64 0, .int .i64 0, .int .i64 0, .bool false] 61) := ⟨_, rfl⟩
  have hbel : Below w.heap.size w wb := by rw [hwb]; exact ((Below.refl _ _).alloc (Nat.le_refl _) _).alloc (by simp) _
  have hbx : Blk wb w.heap.size 54 (refA R sv) := by rw [hwb]; exact (Blk.new w _ _).alloc _
  have hby : Blk wb (w.heap.size + 1) 61 #[.int .i64 0, .int .i64 0, .int .i64 0, .int .i64 0, .int .i64 0, .int .i64 0, .bool false] := by
    rw [hwb]
    have := Blk.new (w.alloc (.cells (refA R sv) 54)) 61 #[.int .i64 0, .int .i64 0, .int .i64 0, .int .i64 0, .int .i64 0, .int .i64 0, .bool false]
    rwa [World.size_alloc] at this
  have b0 := hbx.at_ (i := 0) rfl
  have b1 := hbx.at_ (i := 1) rfl
  have b2 := hbx.at_ (i := 2) rfl
  have b3 := hbx.at_ (i := 3) rfl
  have b4 := hbx.at_ (i := 4) rfl
  have b5 := hbx.at_ (i := 5) rfl
  obtain ⟨⟨y0, y1, y2, y3, y4, y5, y6⟩, ⟨f0, f1, f2, f3, f4, f5, f6⟩⟩ := hby.c7
  have HB := Lib.hid hbel
  have HW := Lib.hid hwb
  by_cases hi : i = 0
  · have h1 : (i == 0) = true := by simpa using hi
    have HR := Lib.hid (show getR R L i = some (rootW R) by unfold getR; rw [if_pos hi])
    clear hi h hbel hbx hby
    go_enter Tryz.func39, Tryz.ntmps39
    go_upto_region 1 with fail
    rw [← HW.out]
    clear hwb
    go_wp2_with fail
    refine bodyPost_ret (v := .tuple #[winR (rootW R), .bool true]) (by simp [results, Tryz.results39, go_sem, y0, y1, y2, y3, y4, y5, y6, rootW]) rfl ?_
    exact ⟨by rw [HR.out]; rfl, set7 HB.out (Nat.le_succ _) _ _ _ _ _ _ _⟩
  · have h1 : (i == 0) = false := by simpa using hi
    have hP := place_c (R := R) (h.below hbel) hL i
    obtain ⟨p, c, rfl, hcell⟩ := id h
    obtain ⟨n, hn⟩ : ∃ n, n = L.length := ⟨_, rfl⟩
    rw [← hn] at b5 hwb hP hbx ⊢
    have HX := Lib.hid (fun (W : World) (hW : Below wb.heap.size wb W) => And.intro (hbx.next hW) (hby.next hW))
    have HC := Lib.hid (fun (W : World) (hW : Below wb.heap.size wb W) (j : Nat) (v : Win) (hv : L[j]? = some v) => (show ∃ b o, p = some ⟨b, o, none⟩ ∧ ∀ (i : Nat) (u : Value), (encW v)[i]? = some u → W.cell? ⟨b, o + j * 7 + i, none⟩ = some u from by
      obtain ⟨b, o, h1, h2, h3⟩ := hcell j v hv
      exact ⟨b, o, h1, fun i u hu => (hW.cell (p := ⟨b, o + j * 7 + i, none⟩) (Nat.lt_of_lt_of_le h2 hbel.size)).trans ((hbel.cell (p := ⟨b, o + j * 7 + i, none⟩) h2).trans (h3 i u hu))⟩))
    have HN := Lib.hid hn
    have HW := Lib.hid hwb
    have hL2 : (n : Int) ≤ 1048576 := by omega
    cases hp : placeN i L with
    | none =>
      rw [hp] at hP
      have HP := Lib.hid (show Calls Tryz.prog 64 #[refV R (.slice p n c), .int .i64 i] wb fun e w' => e = .returned (.int .i64 (-1)) ∧ Below wb.heap.size wb w' from hP)
      have HR := Lib.hid (show getR R L i = none by unfold getR findL; rw [if_neg hi, hp])
      clear hi h hbel hbx hby hp hcell hn hP
      go_enter Tryz.func39, Tryz.ntmps39
      go_upto_region 1 with fail
      rw [← HW.out]
      clear hwb
      go_wp2_with (go_at_call 64; ((with_reducible refine (HP.out).mono ?_); rintro e w1 ⟨rfl, hb⟩); have HB1 := Lib.hid hb; obtain ⟨⟨z0, z1, z2, z3, z4, z5, z6⟩, ⟨g0, g1, g2, g3, g4, g5, g6⟩⟩ := (HX.out _ hb).2.c7; clear hb)
      refine bodyPost_ret (v := .tuple #[winR zeroW, .bool false]) (by simp [results, Tryz.results39, go_sem, z0, z1, z2, z3, z4, z5, z6, zeroW]) rfl ?_
      exact ⟨by rw [HR.out]; rfl, set7 (HB1.out.on HB.out HB.out.size) (Nat.le_succ _) _ _ _ _ _ _ _⟩
    | some k =>
      obtain ⟨v, hv, hvi, hkl⟩ := placeN_get L k hp
      rw [hp] at hP
      have HP := Lib.hid (show Calls Tryz.prog 64 #[refV R (.slice p n c), .int .i64 i] wb fun e w' => e = .returned (.int .i64 (k : Int)) ∧ Below wb.heap.size wb w' from hP)
      have HR := Lib.hid (show getR R L i = some v by unfold getR findL; rw [if_neg hi, hp]; exact hv)
      have HV := Lib.hid hv
      have hk1 : (k : Int) < (n : Int) := by omega
      have hk0 : (0 : Int) ≤ (k : Int) := by omega
      have hk2 : ¬ ((k : Int) < 0) := by omega
      clear hi h hbel hbx hby hp hcell hn hP hv hvi hkl
      go_enter Tryz.func39, Tryz.ntmps39
      go_upto_region 1 with fail
      rw [← HW.out]
      clear hwb
      go_wp2_with (go_at_call 64; ((with_reducible refine (HP.out).mono ?_); rintro e w1 ⟨rfl, hb⟩); have HB1 := Lib.hid hb; have x5 := (HX.out _ hb).1.at_ (i := 5) rfl; obtain ⟨⟨z0, z1, z2, z3, z4, z5, z6⟩, ⟨g0, g1, g2, g3, g4, g5, g6⟩⟩ := (HX.out _ hb).2.c7; obtain ⟨bb, o, rfl, hb2⟩ := HC.out _ hb k v HV.out; obtain ⟨r0, r1, r2, r3, r4, r5, r6⟩ := RW.cells hb2; clear hb hb2)
      refine bodyPost_ret (v := .tuple #[winR v, .bool true]) (by simp [results, Tryz.results39, go_sem, z0, z1, z2, z3, z4, z5, z6]) rfl ?_
      exact ⟨by rw [HR.out]; rfl, set7 (HB1.out.on HB.out HB.out.size) (Nat.le_succ _) _ _ _ _ _ _ _⟩
end
end Go.Proofs.YtfdgpbdppenhmaaGreat
end
