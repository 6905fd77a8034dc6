/- Texts Saj Saf Sak Sal. -/
import Derived.Test.YtnhchpiafchdgaaGreatTad
import Derived.Test.YtnhchpiafchdgaaGreatTab
import Derived.Maps.AppendAt
import Derived.Deep.QuietTactic
import Derived.BigQuiet
import Derived.Test.YtnhchpiafchdgaaGreatTaa
section
namespace Go.Proofs.YtnhchpiafchdgaaGreat
open Go.RowKit Go.Shelf Go.Maps
def xOf (nd : Int → Option Nd) (i : Int) : Int := match nd i with
 | some d => d.win.x
 | none => 0
def yOf (nd : Int → Option Nd) (i : Int) : Int := match nd i with
 | some d => d.win.y
 | none => 0
def absX (nd : Int → Option Nd) : Nat → Int → Int
 | 0, _ => 0
 | n + 1, i => absX nd n (parOf nd i) + xOf nd i
def absY (nd : Int → Option Nd) : Nat → Int → Int
 | 0, _ => 0
 | n + 1, i => absY nd n (parOf nd i) + yOf nd i
theorem wrap_wrap (a b : Int) : IntKind.i64.wrap (IntKind.i64.wrap a + b) = IntKind.i64.wrap (a + b) := by
 rw [IntKind.wrap_i64, IntKind.wrap_i64, IntKind.wrap_i64]
 omega
theorem abs_f {w : World} {p : Value} {i : Int} (hf : ∀ W, Below w.heap.size w W → Calls Tryz.prog 66 #[p, .int .i64 i] W fun e w' => e = .returned (.pointer none) ∧ W = w') :
  Calls Tryz.prog 51 #[p, .int .i64 i] w fun e w' => e = .returned (.tuple #[.agg #[.int .i64 0, .int .i64 0], .bool false]) ∧ Below w.heap.size w w' := by
 have H1 := Lib.hid (hf (w.alloc (.cells #[.int .i64 0, .int .i64 0] 87)) ((Below.refl _ w).alloc (Nat.le_refl _) _))
 clear hf
 go_enter Tryz.func51, Tryz.ntmps51
 go_wp2_with (go_at_call 66; ((with_reducible refine (H1.out).mono ?_); rintro e w' ⟨rfl, rfl⟩))
 refine bodyPost_ret (v := .tuple #[.agg #[.int .i64 0, .int .i64 0], .bool false]) (by simp [results, Tryz.results51, go_sem]) rfl ?_
 exact ⟨rfl, (Below.refl _ w).alloc (Nat.le_refl _) _⟩
section
variable {w : World} {t : Nat} {l : Lay} {nd : Int → Option Nd} {made : Int} {cnt : Nat}
theorem abs_none (h : TreeH w t l nd made cnt) {i : Int} (hi : I64 i) (hb : l.nb i = none) : Calls Tryz.prog 51 #[treeP t, .int .i64 i] w fun e w' => e = .returned (.tuple #[.agg #[.int .i64 0, .int .i64 0], .bool false]) ∧ Below w.heap.size w w' :=
 abs_f fun _ hW => find_none (h.next hW) hi hb
set_option maxRecDepth 100000 in
set_option maxHeartbeats 4000000 in
theorem abs_c (hw : Wide nd) : ∀ (n : Nat) (i : Int) (w : World), TreeH w t l nd made cnt → Way nd n i →
  Calls Tryz.prog 51 #[treeP t, .int .i64 i] w fun e w' => e = .returned (.tuple #[.agg #[.int .i64 (IntKind.i64.wrap (absX nd n i)), .int .i64 (IntKind.i64.wrap (absY nd n i))], .bool true]) ∧ Below w.heap.size w w'
 | n, i, w, h, hW => by
  obtain ⟨d, hd⟩ := hW.there
  obtain ⟨b, hb⟩ := h.block hd
  have hi := (hw i d hd).1
  obtain ⟨wb, hwb⟩ : ∃ wb, wb = w.alloc (.cells #[.int .i64 0, .int .i64 0] 87) := ⟨_, rfl⟩
  have hbel : Below w.heap.size w wb := by rw [hwb]; exact (Below.refl _ _).alloc (Nat.le_refl _) _
  have H1 := Lib.hid (find_some (h.next hbel) hi hb)
  have hbx : Blk wb w.heap.size 87 #[.int .i64 0, .int .i64 0] := by rw [hwb]; exact Blk.new w _ _
  cases n with
  | zero =>
   obtain ⟨rfl, _⟩ := hW
   have H0 := H1
   rw [hwb] at H0
   clear h hd hb hi hbel H1 hbx hwb
   go_enter Tryz.func51, Tryz.ntmps51
   go_wp2_with (go_at_call 66; ((with_reducible refine (H0.out).mono ?_); rintro e w' ⟨rfl, rfl⟩))
   refine bodyPost_ret (v := .tuple #[.agg #[.int .i64 0, .int .i64 0], .bool true]) (by simp [results, Tryz.results51, go_sem]) rfl ?_
   exact ⟨rfl, (Below.refl _ w).alloc (Nat.le_refl _) _⟩
  | succ n =>
   obtain ⟨hz, d', hd', hW'⟩ := hW
   rw [hd] at hd'
   injection hd' with hd'
   subst hd'
   have hz1 : (i == 0) = false := by simpa using hz
   have HR := Lib.hid (abs_c hw n d.win.par wb (h.next hbel) hW')
   have k1 := ((h.next hbel).cells hb hd).1.2.1
   have hsz : w.heap.size < wb.heap.size := hbx.lt
   obtain ⟨px, hpx⟩ : ∃ px, px = IntKind.i64.wrap (absX nd n d.win.par) := ⟨_, rfl⟩
   obtain ⟨py, hpy⟩ : ∃ py, py = IntKind.i64.wrap (absY nd n d.win.par) := ⟨_, rfl⟩
   rw [← hpx, ← hpy] at HR
   have HX := Lib.hid (show IntKind.i64.wrap (px + d.win.x) = IntKind.i64.wrap (absX nd (n + 1) i) by rw [hpx, wrap_wrap]; simp only [absX, parOf, xOf, hd])
   have HY := Lib.hid (show IntKind.i64.wrap (py + d.win.y) = IntKind.i64.wrap (absY nd (n + 1) i) by rw [hpy, wrap_wrap]; simp only [absY, parOf, yOf, hd])
   have HK := Lib.hid (fun W (hW : Below wb.heap.size wb W) => (((h.next hbel).next hW).cells hb hd).1)
   have HQ := Lib.hid (fun W (hW : Below wb.heap.size wb W) => (hbx.next hW).c2)
   have HBL := Lib.hid (fun W (hW : Below wb.heap.size wb W) => hW.on hbel hbel.size)
   have HB := Lib.hid (show b < w.heap.size from (h.node i b d hb hd).1.lt)
   have HW := Lib.hid hwb
   clear h hW' hd hb hi hz hbx hbel hpx hpy
   go_enter Tryz.func51, Tryz.ntmps51
   go_upto_region 1 with fail
   rw [← HW.out]
   clear hwb
   go_upto_region 5 with (first
    | (go_at_call 66; ((with_reducible refine (H1.out).mono ?_); rintro e w' ⟨rfl, rfl⟩))
    | (go_at_call 51; ((with_reducible refine (HR.out).mono ?_); rintro e W2 ⟨rfl, hb2⟩)))
   have hb3 : Below wb.heap.size wb (W2.alloc (.cells #[.int .i64 px, .int .i64 py] 87)) := hb2.alloc hb2.size _
   have hx3 := Blk.new W2 87 #[.int .i64 px, .int .i64 py]
   have hlt3 : wb.heap.size ≤ W2.heap.size := hb2.size
   generalize W2.alloc (.cells #[.int .i64 px, .int .i64 py] 87) = W3 at hb3 hx3 ⊢
   obtain ⟨⟨x0, x1⟩, -⟩ := hx3.c2
   obtain ⟨-, -, n2, n3, -⟩ := HK.out _ hb3
   obtain ⟨⟨q0, q1⟩, ⟨f0, f1⟩⟩ := HQ.out _ hb3
   have hb4 := HBL.out _ hb3
   have ne1 : W2.heap.size ≠ w.heap.size := by omega
   have ne2 : b ≠ w.heap.size := by have := HB.out; omega
   clear hb2 hx3 hb3 hlt3
   refine wp_region_noPanic ?_
   refine wp_region_held_drew (S := fun wx => (wx.cell? ⟨W2.heap.size, 0, none⟩ = some (.int .i64 px) ∧ wx.cell? ⟨W2.heap.size, 1, none⟩ = some (.int .i64 py)) ∧ wx.cell? ⟨b, 2, none⟩ = some (.int .i64 d.win.x) ∧ wx.cell? ⟨b, 3, none⟩ = some (.int .i64 d.win.y)) (by kernel_rfl) (by exact ⟨⟨x0, x1⟩, n2, n3⟩) (fun hHeld => ?_)
   refine tk 0 ?v0 rfl ?y0 ?r0
   case y0 => (intro q h; (try dsimp only at h); go_simp; (try with_reducible rfl))
   (try simp only [Act.put, p1, p3, p4, p5, p6])
   refine tk 1 ?v1 rfl ?y1 ?r1
   case y1 => (intro q h; (try dsimp only at h); go_simp; (try with_reducible rfl))
   (try simp only [Act.put, p1, p2, p3, p4, p5, p6])
   refine tk 2 ?v2 rfl ?y2 ?r2
   case y2 => (intro q h; (try dsimp only at h); go_simp; (try with_reducible rfl))
   (try simp only [Act.put, p1, p2, p3, p4, p5, p6])
   refine tk 3 ?v3 rfl ?y3 ?r3
   case y3 => (intro q h; (try dsimp only at h); go_simp; (try with_reducible rfl))
   (try simp only [Act.put, p1, p2, p3, p4, p5, p6])
   refine tk 4 ?v4 rfl ?y4 ?r4
   case y4 => (intro q h; (try dsimp only at h); go_simp; (try with_reducible rfl))
   (try simp only [Act.put, p1, p2, p3, p4, p5, p6])
   refine tk 5 ?v5 rfl ?y5 ?r5
   case y5 => (intro q h; (try dsimp only at h); go_simp; (try with_reducible rfl))
   (try simp only [Act.put, p1, p2, p3, p4, p5, p6])
   refine tk 6 ?v6 rfl ?y6 ?r6
   case y6 => (intro q h; (try dsimp only at h); go_simp; (try with_reducible rfl))
   (try simp only [Act.put, p1, p2, p3, p4, p5, p6])
   refine tk 7 ?v7 rfl ?y7 ?r7
   case y7 => (intro q h; (try dsimp only at h); go_simp; (try with_reducible rfl))
   (try simp only [Act.put, p1, p2, p3, p4, p5, p6])
   refine tk 8 ?v8 rfl ?y8 ?r8
   case y8 => (intro q h; (try dsimp only at h); go_simp; (try with_reducible rfl))
   (try simp only [Act.put, p1, p2, p3, p4, p5, p6])
   refine tk 9 ?v9 rfl ?y9 ?r9
   case y9 => (intro q h; (try dsimp only at h); go_simp; (try with_reducible rfl))
   (try simp only [Act.put, p1, p2, p3, p4, p5, p6])
   refine tk 10 ?v10 rfl ?y10 ?r10
   case y10 => (intro q h; (try dsimp only at h); go_simp; (try with_reducible rfl))
   (try simp only [Act.put, p1, p2, p3, p4, p5, p6])
   refine tk 11 ?v11 rfl ?y11 ?r11
   case y11 => (intro q h; (try dsimp only at h); go_simp; (try with_reducible rfl))
   (try simp only [Act.put, p1, p2, p3, p4, p5, p6])
   refine tk 12 ?v12 rfl ?y12 ?r12
   case y12 => (intro q h; (try dsimp only at h); go_simp; (try with_reducible rfl))
   (try simp only [Act.put, p1, p2, p3, p4, p5, p6])
   refine tk 13 ?v13 rfl ?y13 ?r13
   case y13 => (intro q h; (try dsimp only at h); go_simp; (try with_reducible rfl))
   (try simp only [Act.put, p1, p2, p3, p4, p5, p6])
   refine tk 14 ?v14 rfl ?y14 ?r14
   case y14 => (intro q h; (try dsimp only at h); go_simp; (try with_reducible rfl))
   (try simp only [Act.put, p1, p2, p3, p4, p5, p6])
   refine tk 15 ?v15 rfl ?y15 ?r15
   case y15 => (intro q h; (try dsimp only at h); go_simp; (try with_reducible rfl))
   (try simp only [Act.put, p1, p2, p3, p4, p5, p6])
   refine tk 16 ?v16 rfl ?y16 ?r16
   case y16 => (intro q h; (try dsimp only at h); go_simp; (try with_reducible rfl))
   (try simp only [Act.put, p1, p2, p3, p4, p5, p6])
   refine tk 17 ?v17 rfl ?y17 ?r17
   case y17 => (intro q h; (try dsimp only at h); go_simp; (try with_reducible rfl))
   (try simp only [Act.put, p1, p2, p3, p4, p5, p6])
   refine tk 18 ?v18 rfl ?y18 ?r18
   case y18 => (intro q h; (try dsimp only at h); go_simp; (try with_reducible rfl))
   (try simp only [Act.put, p1, p2, p3, p4, p5, p6])
   refine wpAnyH_ready (rs := [19]) (by kernel_rfl) (by simp) ?_
   refine AllReadyH.cons rfl (fun K hK => ?_) AllReadyH.nil
   go_simp
   refine hK.out _ _ (by exact ⟨⟨by go_simp, by go_simp⟩, by go_simp, by go_simp⟩) (fun hHeld => ?_)
   clear hK K
   (try simp only [Act.put, p1, p2, p3, p4, p5, p6])
   refine tk 20 ?v20 rfl ?y20 ?r20
   case y20 => (intro q h; (try dsimp only at h); go_simp; (try with_reducible rfl))
   (try simp only [Act.put, p1, p2, p3, p4, p5, p6])
   refine wpAnyH_done (by kernel_rfl) ?_ _
   refine NoPanic.normal ?_
   go_wp2_with fail
   refine bodyPost_ret (v := .tuple #[.agg #[.int .i64 (IntKind.i64.wrap (px + d.win.x)), .int .i64 (IntKind.i64.wrap (py + d.win.y))], .bool true]) (by simp [results, Tryz.results51, go_sem, q0, q1]) rfl ?_
   exact ⟨by rw [HX.out, HY.out], (hb4.drew.setCell (Nat.le_refl _) _).setCell (Nat.le_refl _) _⟩
end
end Go.Proofs.YtnhchpiafchdgaaGreat
end
section
namespace Go.Proofs.YtnhchpiafchdgaaGreat
open Go.RowKit Go.Shelf
def dropL (i : Int) (L : List Win) : List Win := L.filter (fun v => decide (v.id ≠ i))
def kidsL (L : List Win) (i : Int) : List Int := (L.filter (fun v => v.par == i)).map (·.id)
theorem winInfo : (Tryz.prog.info? 61).map (fun i => (i.zero, i.size, i.bytes)) = some (some (.agg #[.int .i64 0, .int .i64 0, .int .i64 0, .int .i64 0, .int .i64 0, .int .i64 0, .bool false]), 7, 56) := by kernel_rfl
theorem dropL_snoc {L : List Win} {i : Int} {k : Nat} {v : Win} (hv : L[k]? = some v) : dropL i (L.take (k + 1)) = if v.id = i then dropL i (L.take k) else dropL i (L.take k) ++ [v] := by
 unfold dropL
 rw [take_snoc_get hv, List.filter_append]
 by_cases h : v.id = i <;> simp [h]
theorem kidsL_snoc {L : List Win} {i : Int} {k : Nat} {v : Win} (hv : L[k]? = some v) : kidsL (L.take (k + 1)) i = if v.par = i then kidsL (L.take k) i ++ [v.id] else kidsL (L.take k) i := by
 unfold kidsL
 rw [take_snoc_get hv, List.filter_append, List.map_append]
 by_cases h : v.par = i <;> simp [h]
theorem dropL_len (i : Int) (L : List Win) (k : Nat) : (dropL i (L.take k)).length ≤ L.length := by
 unfold dropL
 refine Nat.le_trans (List.length_filter_le _ _) ?_
 rw [List.length_take]; omega
theorem kidsL_len (i : Int) (L : List Win) (k : Nat) : (kidsL (L.take k) i).length ≤ L.length := by
 unfold kidsL
 rw [List.length_map]
 refine Nat.le_trans (List.length_filter_le _ _) ?_
 rw [List.length_take]; omega
theorem oneCell_encW (v : Win) : ∀ u ∈ encW v, u.oneCell' = true := by
 intro u hu
 simp only [encW, List.mem_cons, List.not_mem_nil, or_false] at hu
 rcases hu with rfl | rfl | rfl | rfl | rfl | rfl | rfl <;> rfl
def GwS (w : World) (wr : World) (v : Value) (xs : List Win) : Prop := OwK encW 61 7 wr w.heap.size v xs ∧ Below w.heap.size w wr
theorem GwS.put {w wr w1 : World} {v v' : Value} {xs : List Win} {u : Win} {o : Obj} (h : GwS w wr v xs) (ho : w1.ownsRow w.heap.size 61 7 v' (xs.length + 1) (xs.flatMap encW ++ encW u)) (hg : (wr.alloc o).grownBy w1 v.ownBlock) : GwS w w1 v' (xs ++ [u]) := by
 refine ⟨?_, below_only (h.2.alloc h.2.size _) hg (by have := h.2.size; simp; omega) (fun k hk => (h.1.lt hk).1)⟩
 unfold OwK
 rw [List.length_append, List.flatMap_append]
 simpa using ho
def GiS (w : World) (wr : World) (v : Value) (xs : List Int) : Prop := wr.ownsRow w.heap.size 3 1 v xs.length (xs.map (Value.int .i64)) ∧ Below w.heap.size w wr
theorem GiS.put {w wr w1 : World} {v v' : Value} {xs : List Int} {u : Int} {o : Obj} (h : GiS w wr v xs) (ho : w1.ownsRow w.heap.size 3 1 v' (xs.length + 1) (xs.map (Value.int .i64) ++ [.int .i64 u])) (hg : (wr.alloc o).grownBy w1 v.ownBlock) : GiS w w1 v' (xs ++ [u]) := by
 refine ⟨?_, below_only (h.2.alloc h.2.size _) hg (by have := h.2.size; simp; omega) (fun k hk => (World.ownsRow.lt h.1 k hk).1)⟩
 rw [List.length_append, List.map_append]
 exact ho
theorem row_less {w : World} {B B' : Nat} {T : TypeId} {k : Nat} {v : Value} {n : Nat} {xs : List Value} (h : w.ownsRow B T k v n xs) (hb : B' ≤ B) : w.ownsRow B' T k v n xs := by
 obtain ⟨h1, h2⟩ := h
 refine ⟨h1, ?_⟩
 rcases h2 with h2 | ⟨g, cap, cur, a, b, c⟩
 · exact .inl h2
 · exact .inr ⟨g, cap, cur, a, Nat.le_trans hb b, c⟩
section
variable {w : World} {R : RT} {sv : Value} {L : List Win}
set_option maxRecDepth 100000 in
set_option maxHeartbeats 4000000 in
theorem without_c (h : RW w sv L) (hL : L.length ≤ 1048576) (i : Int) :
  Calls Tryz.prog 86 #[refV R sv, .int .i64 i] w fun e w' => ∃ v', e = .returned v' ∧ OwK encW 61 7 w' w.heap.size v' (dropL i L) ∧ Below w.heap.size w w' := by
 obtain ⟨i0, hi0, hz0, hz1, hz2⟩ := info_parts winInfo
 obtain ⟨p, c, rfl, hc⟩ := h
 obtain ⟨wb, hwb⟩ : ∃ wb, wb = w.alloc (.cells (refA R (.slice p L.length c)) 54) := ⟨_, rfl⟩
 have hbel : Below w.heap.size w wb := by rw [hwb]; exact (Below.refl _ _).alloc (Nat.le_refl _) _
 have b5 : wb.cell? ⟨w.heap.size, 5, none⟩ = some (.slice p L.length c) := by rw [hwb]; exact (Blk.new w _ _).at_ (i := 5) rfl
 have hwl : w.heap.size < wb.heap.size := World.block_lt_of_cell? _ _ b5
 obtain ⟨n, hn⟩ : ∃ n, n = L.length := ⟨_, rfl⟩
 rw [← hn] at b5 hwb hL ⊢
 have HC := Lib.hid (fun (wr : World) (hr : Below wb.heap.size wb wr) (j : Nat) (v : Win) (hv : L[j]? = some v) => (show ∃ b o, p = some ⟨b, o, none⟩ ∧ ∀ (i : Nat) (u : Value), (encW v)[i]? = some u → wr.cell? ⟨b, o + j * 7 + i, none⟩ = some u from by
  obtain ⟨b, o, h1, h2, h3⟩ := hc j v hv
  exact ⟨b, o, h1, fun i u hu => (hr.cell (p := ⟨b, o + j * 7 + i, none⟩) (Nat.lt_of_lt_of_le h2 hbel.size)).trans ((hbel.cell (p := ⟨b, o + j * 7 + i, none⟩) h2).trans (h3 i u hu))⟩))
 have HX := Lib.hid (fun (wr : World) (hr : Below wb.heap.size wb wr) => (hr.cell (p := ⟨w.heap.size, 5, none⟩) hwl).trans b5)
 have HN := Lib.hid hn
 have HB := Lib.hid hbel
 have HW := Lib.hid hwb
 have HLL := Lib.hid (fun k => dropL_len i L k)
 have hm0 : (n : Int) ≤ 1048576 := by omega
 clear hc hn hbel
 go_enter Tryz.func86, Tryz.ntmps86
 go_upto_region 1 with fail
 rw [← HW.out]
 clear hwb
 go_wp2_with fail
 go_loopw [5, 6] (fun y z wr => ∃ k : Nat, k ≤ n ∧ z = .int .i64 k ∧ GwS wb wr y (dropL i (L.take k))) (fun _ z _ => n - (intOf z).toNat)
 case atStart => exact ⟨0, Nat.zero_le _, rfl, OwK.nil _ _, Below.refl _ _⟩
 case round =>
  obtain ⟨k, hk, rfl, hG⟩ := hrel
  have b5r := HX.out wr hG.2
  have HG := Lib.hid hG
  have hi0' : (0 : Int) ≤ (k : Int) := by omega
  clear b5
  by_cases hlt : k < n
  · obtain ⟨v, hv⟩ : ∃ v, L[k]? = some v := ⟨_, List.getElem?_eq_getElem (by rw [← HN.out]; exact hlt)⟩
    obtain ⟨b, o, rfl, hb2⟩ := HC.out wr hG.2 k v hv
    obtain ⟨r0, r1, r2, r3, r4, r5, r6⟩ := RW.cells hb2
    have hsn := dropL_snoc (i := i) hv
    clear hb2 hG hv
    have hi1 : (k : Int) < (n : Int) := by omega
    by_cases hvi : v.id = i
    · have h1 : (v.id == i) = true := by simpa using hvi
      have h2 : (v.id != i) = false := by simpa using hvi
      rw [if_pos hvi] at hsn
      have HSN := Lib.hid hsn
      clear hvi hsn
      go_wp2_with fail
      go_roundw
      case rel => exact ⟨k + 1, by omega, by go_num, by rw [HSN.out]; exact HG.out⟩
      case measure => simp [intOf]; omega
    · have h1 : (v.id == i) = false := by simpa using hvi
      have h2 : (v.id != i) = true := by simpa using hvi
      rw [if_neg hvi] at hsn
      have HSN := Lib.hid hsn
      clear hvi hsn
      go_wp2_with (at_builtin; refine wpList_append_own_at _ rfl (.tmp 22) (.tmp 28) 52 rfl wb.heap.size 61 i0 (.agg #[.int .i64 0, .int .i64 0, .int .i64 0, .int .i64 0, .int .i64 0, .int .i64 0, .bool false]) 7 56 Tryz.underlying52 hi0 hz0 hz1 hz2 rfl (by decide) _ _ _ rfl (World.ownsRow.alloc HG.out.1 _) ⟨_, 0, none⟩ 1 1 (encW v) rfl rfl (cell_list_at _ _ (encW v) _ rfl) (oneCell_encW v) (by unfold maxLen; have := HLL.out k; have := HN.out; omega) (by have := HLL.out k; have := HN.out; omega) (by have := HG.out.2.size; simp; omega) ?_; intro v3 w3 ho3 hg3 _ _; have HP := Lib.hid (HG.out.put ho3 hg3); clear ho3 hg3)
      go_roundw
      case rel => exact ⟨k + 1, by omega, by go_num, by rw [HSN.out]; exact HP.out⟩
      case measure => simp [intOf]; omega
  · obtain rfl : k = n := by omega
    clear hG
    go_wp2_with fail
    go_ret
    have hT : dropL i (L.take k) = dropL i L := by rw [HN.out, List.take_length]
    exact ⟨_, rfl, (hT ▸ HG.out.1).less HB.out.size, HG.out.2.on HB.out HB.out.size⟩
set_option maxRecDepth 100000 in
set_option maxHeartbeats 4000000 in
theorem rkids_c (h : RW w sv L) (hL : L.length ≤ 1048576) (i : Int) :
  Calls Tryz.prog 23 #[refV R sv, .int .i64 i] w fun e w' => ∃ v', e = .returned v' ∧ w'.ownsRow w.heap.size 3 1 v' (kidsL L i).length ((kidsL L i).map (Value.int .i64)) ∧ Below w.heap.size w w' := by
 obtain ⟨i0, hi0, hz0, hz1, hz2⟩ := info_parts intInfo
 obtain ⟨p, c, rfl, hc⟩ := h
 obtain ⟨wb, hwb⟩ : ∃ wb, wb = w.alloc (.cells (refA R (.slice p L.length c)) 54) := ⟨_, rfl⟩
 have hbel : Below w.heap.size w wb := by rw [hwb]; exact (Below.refl _ _).alloc (Nat.le_refl _) _
 have b5 : wb.cell? ⟨w.heap.size, 5, none⟩ = some (.slice p L.length c) := by rw [hwb]; exact (Blk.new w _ _).at_ (i := 5) rfl
 have hwl : w.heap.size < wb.heap.size := World.block_lt_of_cell? _ _ b5
 obtain ⟨n, hn⟩ : ∃ n, n = L.length := ⟨_, rfl⟩
 rw [← hn] at b5 hwb hL ⊢
 have HC := Lib.hid (fun (wr : World) (hr : Below wb.heap.size wb wr) (j : Nat) (v : Win) (hv : L[j]? = some v) => (show ∃ b o, p = some ⟨b, o, none⟩ ∧ ∀ (i : Nat) (u : Value), (encW v)[i]? = some u → wr.cell? ⟨b, o + j * 7 + i, none⟩ = some u from by
  obtain ⟨b, o, h1, h2, h3⟩ := hc j v hv
  exact ⟨b, o, h1, fun i u hu => (hr.cell (p := ⟨b, o + j * 7 + i, none⟩) (Nat.lt_of_lt_of_le h2 hbel.size)).trans ((hbel.cell (p := ⟨b, o + j * 7 + i, none⟩) h2).trans (h3 i u hu))⟩))
 have HX := Lib.hid (fun (wr : World) (hr : Below wb.heap.size wb wr) => (hr.cell (p := ⟨w.heap.size, 5, none⟩) hwl).trans b5)
 have HN := Lib.hid hn
 have HB := Lib.hid hbel
 have HW := Lib.hid hwb
 have HLL := Lib.hid (fun k => kidsL_len i L k)
 have hm0 : (n : Int) ≤ 1048576 := by omega
 clear hc hn hbel
 go_enter Tryz.func23, Tryz.ntmps23
 go_upto_region 1 with fail
 rw [← HW.out]
 clear hwb
 go_wp2_with fail
 go_loopw [5, 6] (fun y z wr => ∃ k : Nat, k ≤ n ∧ z = .int .i64 k ∧ GiS wb wr y (kidsL (L.take k) i)) (fun _ z _ => n - (intOf z).toNat)
 case atStart => exact ⟨0, Nat.zero_le _, rfl, World.ownsRow_nil _ _ _ _, Below.refl _ _⟩
 case round =>
  obtain ⟨k, hk, rfl, hG⟩ := hrel
  have b5r := HX.out wr hG.2
  have HG := Lib.hid hG
  have hi0' : (0 : Int) ≤ (k : Int) := by omega
  clear b5
  by_cases hlt : k < n
  · obtain ⟨v, hv⟩ : ∃ v, L[k]? = some v := ⟨_, List.getElem?_eq_getElem (by rw [← HN.out]; exact hlt)⟩
    obtain ⟨b, o, rfl, hb2⟩ := HC.out wr hG.2 k v hv
    obtain ⟨r0, r1, r2, r3, r4, r5, r6⟩ := RW.cells hb2
    have hsn := kidsL_snoc (i := i) hv
    clear hb2 hG hv
    have hi1 : (k : Int) < (n : Int) := by omega
    by_cases hvi : v.par = i
    · have h1 : (v.par == i) = true := by simpa using hvi
      rw [if_pos hvi] at hsn
      have HSN := Lib.hid hsn
      clear hvi hsn
      go_wp2_with (at_builtin; refine wpList_append_own_at _ rfl (.tmp 22) (.tmp 29) 67 rfl wb.heap.size 3 i0 (.int .i64 0) 1 8 Tryz.underlying67 hi0 hz0 hz1 hz2 rfl (by decide) _ _ _ rfl (World.ownsRow.alloc HG.out.1 _) ⟨_, 0, none⟩ 1 1 [.int .i64 v.id] rfl rfl (cell_list_at _ _ [.int .i64 v.id] _ rfl) (oneCell_ints [v.id]) (by unfold maxLen; have := HLL.out k; have := HN.out; omega) (by have := HLL.out k; have := HN.out; omega) (by have := HG.out.2.size; simp; omega) ?_; intro v3 w3 ho3 hg3 _ _; have HP := Lib.hid (HG.out.put ho3 hg3); clear ho3 hg3)
      go_roundw
      case rel => exact ⟨k + 1, by omega, by go_num, by rw [HSN.out]; exact HP.out⟩
      case measure => simp [intOf]; omega
    · have h1 : (v.par == i) = false := by simpa using hvi
      rw [if_neg hvi] at hsn
      have HSN := Lib.hid hsn
      clear hvi hsn
      go_wp2_with fail
      go_roundw
      case rel => exact ⟨k + 1, by omega, by go_num, by rw [HSN.out]; exact HG.out⟩
      case measure => simp [intOf]; omega
  · obtain rfl : k = n := by omega
    clear hG
    go_wp2_with fail
    go_ret
    have hT : kidsL (L.take k) i = kidsL L i := by rw [HN.out, List.take_length]
    have hG := HG.out.1
    rw [hT] at hG
    exact ⟨_, rfl, row_less hG HB.out.size, HG.out.2.on HB.out HB.out.size⟩
end
abbrev winR (v : Win) : Value := .agg #[.int .i64 v.id, .int .i64 v.par, .int .i64 v.x, .int .i64 v.y, .int .i64 v.w, .int .i64 v.h, .bool v.on]
def findL (i : Int) (L : List Win) : Option Win := match placeN i L with
 | none => none
 | some k => L[k]?
theorem set7 {B g : Nat} {a w : World} (h : Below B a w) (hg : B ≤ g) (v0 v1 v2 v3 v4 v5 v6 : Value) : Below B a (((((((w.setCell ⟨g, 0, none⟩ v0).setCell ⟨g, 1, none⟩ v1).setCell ⟨g, 2, none⟩ v2).setCell ⟨g, 3, none⟩ v3).setCell ⟨g, 4, none⟩ v4).setCell ⟨g, 5, none⟩ v5).setCell ⟨g, 6, none⟩ v6) :=
 ((((((h.setCell hg _).setCell hg _).setCell hg _).setCell hg _).setCell hg _).setCell hg _).setCell hg _
def rootW (R : RT) : Win := ⟨0, -1, R.x, R.y, R.w, R.h, true⟩
def getR (R : RT) (L : List Win) (i : Int) : Option Win := if i = 0 then some (rootW R) else findL i L
def getV (o : Option Win) : Value := match o with
 | some v => .tuple #[winR v, .bool true]
 | none => .tuple #[winR zeroW, .bool false]
section
variable {w : World} {R : RT} {sv : Value} {L : List Win}
set_option maxRecDepth 100000 in
set_option maxHeartbeats 4000000 in
theorem rget_c (h : RW w sv L) (hL : L.length ≤ 1048576) (i : Int) :
   Calls Tryz.prog 39 #[refV R sv, .int .i64 i] w fun e w' => e = .returned (getV (getR R L i)) ∧ Below w.heap.size w w' := by
 obtain ⟨wb, hwb⟩ : ∃ wb, wb = (w.alloc (.cells (refA R sv) 54)).alloc (.cells #[.int .i64 0, .int .i64 0, .int .i64 0, .int .i64 0, .int .i64 0, .int .i64 0, .bool false] 61) := ⟨_, rfl⟩
 have hbel : Below w.heap.size w wb := by rw [hwb]; exact ((Below.refl _ _).alloc (Nat.le_refl _) _).alloc (by simp) _
 have hbx : Blk wb w.heap.size 54 (refA R sv) := by rw [hwb]; exact (Blk.new w _ _).alloc _
 have hby : Blk wb (w.heap.size + 1) 61 #[.int .i64 0, .int .i64 0, .int .i64 0, .int .i64 0, .int .i64 0, .int .i64 0, .bool false] := by
   rw [hwb]
   have := Blk.new (w.alloc (.cells (refA R sv) 54)) 61 #[.int .i64 0, .int .i64 0, .int .i64 0, .int .i64 0, .int .i64 0, .int .i64 0, .bool false]
   rwa [World.size_alloc] at this
 have b0 := hbx.at_ (i := 0) rfl
 have b1 := hbx.at_ (i := 1) rfl
 have b2 := hbx.at_ (i := 2) rfl
 have b3 := hbx.at_ (i := 3) rfl
 have b4 := hbx.at_ (i := 4) rfl
 have b5 := hbx.at_ (i := 5) rfl
 obtain ⟨⟨y0, y1, y2, y3, y4, y5, y6⟩, ⟨f0, f1, f2, f3, f4, f5, f6⟩⟩ := hby.c7
 have HB := Lib.hid hbel
 have HW := Lib.hid hwb
 by_cases hi : i = 0
 · have h1 : (i == 0) = true := by simpa using hi
   have HR := Lib.hid (show getR R L i = some (rootW R) by unfold getR; rw [if_pos hi])
   clear hi h hbel hbx hby
   go_enter Tryz.func39, Tryz.ntmps39
   go_upto_region 1 with fail
   rw [← HW.out]
   clear hwb
   go_wp2_with fail
   refine bodyPost_ret (v := .tuple #[winR (rootW R), .bool true]) (by simp [results, Tryz.results39, go_sem, y0, y1, y2, y3, y4, y5, y6, rootW]) rfl ?_
   exact ⟨by rw [HR.out]; rfl, set7 HB.out (Nat.le_succ _) _ _ _ _ _ _ _⟩
 · have h1 : (i == 0) = false := by simpa using hi
   have hP := place_c (R := R) (h.below hbel) hL i
   obtain ⟨p, c, rfl, hcell⟩ := id h
   obtain ⟨n, hn⟩ : ∃ n, n = L.length := ⟨_, rfl⟩
   rw [← hn] at b5 hwb hP hbx ⊢
   have HX := Lib.hid (fun (W : World) (hW : Below wb.heap.size wb W) => And.intro (hbx.next hW) (hby.next hW))
   have HC := Lib.hid (fun (W : World) (hW : Below wb.heap.size wb W) (j : Nat) (v : Win) (hv : L[j]? = some v) => (show ∃ b o, p = some ⟨b, o, none⟩ ∧ ∀ (i : Nat) (u : Value), (encW v)[i]? = some u → W.cell? ⟨b, o + j * 7 + i, none⟩ = some u from by
    obtain ⟨b, o, h1, h2, h3⟩ := hcell j v hv
    exact ⟨b, o, h1, fun i u hu => (hW.cell (p := ⟨b, o + j * 7 + i, none⟩) (Nat.lt_of_lt_of_le h2 hbel.size)).trans ((hbel.cell (p := ⟨b, o + j * 7 + i, none⟩) h2).trans (h3 i u hu))⟩))
   have HN := Lib.hid hn
   have HW := Lib.hid hwb
   have hL2 : (n : Int) ≤ 1048576 := by omega
   cases hp : placeN i L with
   | none =>
    rw [hp] at hP
    have HP := Lib.hid (show Calls Tryz.prog 64 #[refV R (.slice p n c), .int .i64 i] wb fun e w' => e = .returned (.int .i64 (-1)) ∧ Below wb.heap.size wb w' from hP)
    have HR := Lib.hid (show getR R L i = none by unfold getR findL; rw [if_neg hi, hp])
    clear hi h hbel hbx hby hp hcell hn hP
    go_enter Tryz.func39, Tryz.ntmps39
    go_upto_region 1 with fail
    rw [← HW.out]
    clear hwb
    go_wp2_with (go_at_call 64; ((with_reducible refine (HP.out).mono ?_); rintro e w1 ⟨rfl, hb⟩); have HB1 := Lib.hid hb; obtain ⟨⟨z0, z1, z2, z3, z4, z5, z6⟩, ⟨g0, g1, g2, g3, g4, g5, g6⟩⟩ := (HX.out _ hb).2.c7; clear hb)
    refine bodyPost_ret (v := .tuple #[winR zeroW, .bool false]) (by simp [results, Tryz.results39, go_sem, z0, z1, z2, z3, z4, z5, z6, zeroW]) rfl ?_
    exact ⟨by rw [HR.out]; rfl, set7 (HB1.out.on HB.out HB.out.size) (Nat.le_succ _) _ _ _ _ _ _ _⟩
   | some k =>
    obtain ⟨v, hv, hvi, hkl⟩ := placeN_get L k hp
    rw [hp] at hP
    have HP := Lib.hid (show Calls Tryz.prog 64 #[refV R (.slice p n c), .int .i64 i] wb fun e w' => e = .returned (.int .i64 (k : Int)) ∧ Below wb.heap.size wb w' from hP)
    have HR := Lib.hid (show getR R L i = some v by unfold getR findL; rw [if_neg hi, hp]; exact hv)
    have HV := Lib.hid hv
    have hk1 : (k : Int) < (n : Int) := by omega
    have hk0 : (0 : Int) ≤ (k : Int) := by omega
    have hk2 : ¬ ((k : Int) < 0) := by omega
    clear hi h hbel hbx hby hp hcell hn hP hv hvi hkl
    go_enter Tryz.func39, Tryz.ntmps39
    go_upto_region 1 with fail
    rw [← HW.out]
    clear hwb
    go_wp2_with (go_at_call 64; ((with_reducible refine (HP.out).mono ?_); rintro e w1 ⟨rfl, hb⟩); have HB1 := Lib.hid hb; have x5 := (HX.out _ hb).1.at_ (i := 5) rfl; obtain ⟨⟨z0, z1, z2, z3, z4, z5, z6⟩, ⟨g0, g1, g2, g3, g4, g5, g6⟩⟩ := (HX.out _ hb).2.c7; obtain ⟨bb, o, rfl, hb2⟩ := HC.out _ hb k v HV.out; obtain ⟨r0, r1, r2, r3, r4, r5, r6⟩ := RW.cells hb2; clear hb hb2)
    refine bodyPost_ret (v := .tuple #[winR v, .bool true]) (by simp [results, Tryz.results39, go_sem, z0, z1, z2, z3, z4, z5, z6]) rfl ?_
    exact ⟨by rw [HR.out]; rfl, set7 (HB1.out.on HB.out HB.out.size) (Nat.le_succ _) _ _ _ _ _ _ _⟩
end
end Go.Proofs.YtnhchpiafchdgaaGreat
end
section
namespace Go.Proofs.YtnhchpiafchdgaaGreat
open Go.RowKit Go.Shelf
def ndL (R : RT) (L : List Win) : Int → Option Nd := fun i => (getR R L i).map fun v => ⟨v, kidsL L i⟩
theorem ndL_some {R : RT} {L : List Win} {i : Int} {d : Nd} (h : ndL R L i = some d) : getR R L i = some d.win ∧ d.kids = kidsL L i := by
 unfold ndL at h
 obtain ⟨v, h1, rfl⟩ := Option.map_eq_some_iff.1 h
 exact ⟨h1, rfl⟩
def RBox (R : RT) (sv : Value) (g : Nat) (wb W : World) : Prop := Blk W g 54 (refA R sv) ∧ Below wb.heap.size wb W
theorem RBox.next {R : RT} {sv : Value} {g : Nat} {wb W W' : World} (h : RBox R sv g wb W) (hb : Below W.heap.size W W') : RBox R sv g wb W' := ⟨h.1.next hb, hb.on h.2 h.2.size⟩
theorem RBox.cells {R : RT} {sv : Value} {g : Nat} {wb W : World} (h : RBox R sv g wb W) : W.cell? ⟨g, 0, none⟩ = some (.int .i64 R.x) ∧ W.cell? ⟨g, 1, none⟩ = some (.int .i64 R.y) ∧ W.cell? ⟨g, 2, none⟩ = some (.int .i64 R.w) ∧ W.cell? ⟨g, 3, none⟩ = some (.int .i64 R.h) ∧ W.cell? ⟨g, 4, none⟩ = some (.int .i64 R.last) ∧ W.cell? ⟨g, 5, none⟩ = some sv :=
 ⟨h.1.at_ (i := 0) rfl, h.1.at_ (i := 1) rfl, h.1.at_ (i := 2) rfl, h.1.at_ (i := 3) rfl, h.1.at_ (i := 4) rfl, h.1.at_ (i := 5) rfl⟩
section
variable {w : World} {R : RT} {sv : Value} {L : List Win}
def VwS (R : RT) (sv : Value) (L : List Win) (g : Nat) (wb : World) (m : Nat) (i : Int) (k : Nat) (y : Value) (wr : World) : Prop :=
 ∃ (m' : Nat) (j : Int), k + m' = m ∧ y = .int .i64 j ∧ Way (ndL R L) m' j ∧ viewB (ndL R L) m i = viewB (ndL R L) m' j ∧ RBox R sv g wb wr
set_option maxRecDepth 100000 in
set_option maxHeartbeats 8000000 in
theorem rview_c (h : RW w sv L) (hL : L.length ≤ 1048576) {m : Nat} {i : Int} (hW : Way (ndL R L) m i) (hm : m ≤ L.length) :
  Calls Tryz.prog 42 #[refV R sv, .int .i64 i] w fun e w' => e = .returned (.bool (viewB (ndL R L) m i)) ∧ Below w.heap.size w w' := by
 obtain ⟨wb, hwb⟩ : ∃ wb, wb = w.alloc (.cells (refA R sv) 54) := ⟨_, rfl⟩
 have hbel : Below w.heap.size w wb := by rw [hwb]; exact (Below.refl _ _).alloc (Nat.le_refl _) _
 have hbx : RBox R sv w.heap.size wb wb := ⟨by rw [hwb]; exact Blk.new w _ _, Below.refl _ _⟩
 have hRW : ∀ W, RBox R sv w.heap.size wb W → RW W sv L := fun W hW => (h.below hbel).below hW.2
 have HG := Lib.hid (fun (W : World) (hW : RBox R sv w.heap.size wb W) (j : Int) => rget_c (R := R) (hRW W hW) hL j)
 obtain ⟨p, c, rfl, -⟩ := id h
 have HB := Lib.hid hbel
 have HW := Lib.hid hwb
 have H0 := Lib.hid hbx
 have HWY := Lib.hid hW
 have HML := Lib.hid hm
 obtain ⟨n, hn⟩ : ∃ n, n = L.length := ⟨_, rfl⟩
 rw [← hn] at HG H0 HML hwb HW ⊢
 have hL2 : (n : Int) ≤ 1048576 := by omega
 clear h hbel hbx hRW hW hm hn
 go_enter Tryz.func42, Tryz.ntmps42
 go_upto_region 1 with fail
 rw [← HW.out]
 clear hwb
 go_wp2_with fail
 go_loopw [1, 5] (fun y z wr => ∃ k : Nat, k ≤ m ∧ z = .int .i64 k ∧ VwS R (.slice p n c) L w.heap.size wb m i k y wr) (fun _ z _ => m + 1 - (intOf z).toNat)
 case atStart => exact ⟨0, Nat.zero_le _, rfl, m, i, by omega, rfl, HWY.out, rfl, H0.out⟩
 case round =>
  obtain ⟨k, hk, rfl, m', j, hkm, rfl, hWj, hv, hX⟩ := hrel
  have hkn : (k : Int) ≤ (n : Int) := by have := HML.out; omega
  have hk0 : (0 : Int) ≤ (k : Int) := by omega
  obtain ⟨d, hd⟩ := hWj.there
  obtain ⟨hg, -⟩ := ndL_some hd
  have hG := HG.out wr hX j
  rw [hg] at hG
  obtain ⟨x0, x1, x2, x3, x4, x5⟩ := hX.cells
  obtain ⟨u, hu⟩ : ∃ u, u = d.win := ⟨_, rfl⟩
  rw [← hu] at hG
  have HG1 := Lib.hid (show Calls Tryz.prog 39 #[refV R (.slice p n c), .int .i64 j] wr fun e w' => e = .returned (.tuple #[winR u, .bool true]) ∧ Below wr.heap.size wr w' from hG)
  have HX := Lib.hid hX
  have HV := Lib.hid hv
  have HD := Lib.hid (And.intro hd hu)
  have HWJ := Lib.hid hWj
  obtain ⟨uid, upar, ux, uy, uw, uh, uon⟩ := u
  clear hg hG hX hv hd hu hWj
  cases uon with
  | false =>
   have HR := Lib.hid (show viewB (ndL R L) m i = false by
    have h1 : onOf (ndL R L) j = false := by unfold onOf; rw [HD.out.1]; show d.win.on = false; rw [← HD.out.2]
    rw [HV.out]; cases m' <;> simp [viewB, h1])
   go_wp2_with (go_at_call 39; ((with_reducible refine (HG1.out).mono ?_); rintro e w1 ⟨rfl, hb⟩); have HX1 := Lib.hid (HX.out.next hb); clear hb)
   go_ret
   exact ⟨ret_bool HR.out.symm, (HX1.out.2.alloc HX1.out.2.size _).on HB.out HB.out.size⟩
  | true =>
   have h1 : onOf (ndL R L) j = true := by unfold onOf; rw [HD.out.1]; show d.win.on = true; rw [← HD.out.2]
   cases m' with
   | zero =>
    obtain ⟨rfl, -⟩ := HWJ.out
    have HR := Lib.hid (show viewB (ndL R L) m i = true by rw [HV.out]; simp [viewB, h1])
    clear h1
    go_wp2_with (go_at_call 39; ((with_reducible refine (HG1.out).mono ?_); rintro e w1 ⟨rfl, hb⟩); have HX1 := Lib.hid (HX.out.next hb); clear hb)
    go_ret
    exact ⟨ret_bool HR.out.symm, (HX1.out.2.alloc HX1.out.2.size _).on HB.out HB.out.size⟩
   | succ m' =>
    obtain ⟨hz, d', hd', hW'⟩ := HWJ.out
    have hde : d' = d := by have := HD.out.1; rw [hd'] at this; injection this
    subst hde
    have hpar : d'.win.par = upar := by rw [← HD.out.2]
    rw [hpar] at hW'
    have HW' := Lib.hid hW'
    have hz1 : (j == 0) = false := by simpa using hz
    have HR := Lib.hid (show viewB (ndL R L) m i = viewB (ndL R L) m' upar by rw [HV.out]; simp [viewB, h1, parOf, hd', hpar])
    clear h1 hz hd' hW' hpar
    go_wp2_with (go_at_call 39; ((with_reducible refine (HG1.out).mono ?_); rintro e w1 ⟨rfl, hb⟩); have HX1 := Lib.hid (HX.out.next hb); clear hb)
    go_roundw
    case rel => exact ⟨k + 1, by omega, by go_num, m', upar, by omega, rfl, HW'.out, HR.out, HX1.out.next ((Below.refl _ _).alloc (Nat.le_refl _) _)⟩
    case measure => simp [intOf]; omega
set_option maxRecDepth 100000 in
set_option maxHeartbeats 4000000 in
theorem rview_none (h : RW w sv L) (hL : L.length ≤ 1048576) {i : Int} (hg : getR R L i = none) :
  Calls Tryz.prog 42 #[refV R sv, .int .i64 i] w fun e w' => e = .returned (.bool false) ∧ Below w.heap.size w w' := by
 obtain ⟨wb, hwb⟩ : ∃ wb, wb = w.alloc (.cells (refA R sv) 54) := ⟨_, rfl⟩
 have hbel : Below w.heap.size w wb := by rw [hwb]; exact (Below.refl _ _).alloc (Nat.le_refl _) _
 have hbx : RBox R sv w.heap.size wb wb := ⟨by rw [hwb]; exact Blk.new w _ _, Below.refl _ _⟩
 have hG := rget_c (R := R) (h.below hbel) hL i
 rw [hg] at hG
 obtain ⟨p, c, rfl, -⟩ := id h
 have HG := Lib.hid (show Calls Tryz.prog 39 #[refV R (.slice p L.length c), .int .i64 i] wb fun e w' => e = .returned (.tuple #[.agg #[.int .i64 0, .int .i64 0, .int .i64 0, .int .i64 0, .int .i64 0, .int .i64 0, .bool false], .bool false]) ∧ Below wb.heap.size wb w' from hG)
 obtain ⟨x0, x1, x2, x3, x4, x5⟩ := hbx.cells
 have HB := Lib.hid hbel
 have HW := Lib.hid hwb
 obtain ⟨n, hn⟩ : ∃ n, n = L.length := ⟨_, rfl⟩
 rw [← hn] at HG x5 hwb HW ⊢
 have hL2 : (n : Int) ≤ 1048576 := by omega
 have hL3 : (0 : Int) ≤ (n : Int) := by omega
 clear h hbel hbx hG hg hn
 go_enter Tryz.func42, Tryz.ntmps42
 go_upto_region 1 with fail
 rw [← HW.out]
 clear hwb
 go_wp2_with fail
 go_loopw [1, 5] (fun y z wr => y = .int .i64 i ∧ z = .int .i64 0 ∧ wr = wb) (fun _ z _ => 0)
 case atStart => exact ⟨rfl, rfl, rfl⟩
 case round =>
  obtain ⟨rfl, rfl, rfl⟩ := hrel
  go_wp2_with (go_at_call 39; ((with_reducible refine (HG.out).mono ?_); rintro e w1 ⟨rfl, hb⟩); have HB1 := Lib.hid hb; clear hb)
  go_ret
  exact ⟨rfl, (HB1.out.alloc HB1.out.size _).on HB.out HB.out.size⟩
def AwS (R : RT) (sv : Value) (L : List Win) (s : Nat) (wb : World) (m : Nat) (i : Int) (k : Nat) (y : Value) (wr : World) : Prop :=
 ∃ (m' : Nat) (j ax ay : Int), k + m' = m ∧ y = .int .i64 j ∧ Way (ndL R L) m' j ∧ ax + absX (ndL R L) m' j = absX (ndL R L) m i ∧ ay + absY (ndL R L) m' j = absY (ndL R L) m i ∧ RBox R sv s wb wr ∧
  Blk wr (s + 1) 87 #[.int .i64 0, .int .i64 0] ∧ Blk wr (s + 1 + 1) 87 #[.int .i64 (IntKind.i64.wrap ax), .int .i64 (IntKind.i64.wrap ay)]
set_option maxRecDepth 100000 in
set_option maxHeartbeats 8000000 in
theorem rabs_c (h : RW w sv L) (hL : L.length ≤ 1048576) {m : Nat} {i : Int} (hW : Way (ndL R L) m i) (hm : m ≤ L.length) :
  Calls Tryz.prog 41 #[refV R sv, .int .i64 i] w fun e w' => e = .returned (.tuple #[.agg #[.int .i64 (IntKind.i64.wrap (absX (ndL R L) m i)), .int .i64 (IntKind.i64.wrap (absY (ndL R L) m i))], .bool true]) ∧ Below w.heap.size w w' := by
 obtain ⟨wb, hwb⟩ : ∃ wb, wb = ((w.alloc (.cells (refA R sv) 54)).alloc (.cells #[.int .i64 0, .int .i64 0] 87)).alloc (.cells #[.int .i64 0, .int .i64 0] 87) := ⟨_, rfl⟩
 have hbel : Below w.heap.size w wb := by rw [hwb]; exact (((Below.refl _ _).alloc (Nat.le_refl _) _).alloc (by simp) _).alloc (by simp; omega) _
 have hbA : Blk wb w.heap.size 54 (refA R sv) := by rw [hwb]; exact ((Blk.new w _ _).alloc _).alloc _
 have hbB : Blk wb (w.heap.size + 1) 87 #[.int .i64 0, .int .i64 0] := by
  rw [hwb]
  have := Blk.new (w.alloc (.cells (refA R sv) 54)) 87 #[.int .i64 0, .int .i64 0]
  rw [World.size_alloc] at this
  exact this.alloc _
 have hbC : Blk wb (w.heap.size + 1 + 1) 87 #[.int .i64 0, .int .i64 0] := by
  rw [hwb]
  have := Blk.new ((w.alloc (.cells (refA R sv) 54)).alloc (.cells #[.int .i64 0, .int .i64 0] 87)) 87 #[.int .i64 0, .int .i64 0]
  rw [World.size_alloc, World.size_alloc] at this
  exact this
 have hRW : ∀ W, Below w.heap.size w W → RW W sv L := fun W hW => h.below hW
 have HG := Lib.hid (fun (W : World) (hW : Below w.heap.size w W) (j : Int) => rget_c (R := R) (hRW W hW) hL j)
 obtain ⟨p, c, rfl, -⟩ := id h
 have HB := Lib.hid hbel
 have HW := Lib.hid hwb
 have H0 := Lib.hid (And.intro hbA (And.intro hbB hbC))
 have HWY := Lib.hid hW
 have HML := Lib.hid hm
 obtain ⟨n, hn⟩ : ∃ n, n = L.length := ⟨_, rfl⟩
 rw [← hn] at HG H0 HML hwb HW ⊢
 have hL2 : (n : Int) ≤ 1048576 := by omega
 clear h hbel hbA hbB hbC hRW hW hm hn
 go_enter Tryz.func41, Tryz.ntmps41
 go_upto_region 2 with fail
 rw [← HW.out]
 clear hwb
 go_wp2_with fail
 go_loopw [1, 7] (fun y z wr => ∃ k : Nat, k ≤ m ∧ z = .int .i64 k ∧ AwS R (.slice p n c) L w.heap.size w m i k y wr) (fun _ z _ => m + 1 - (intOf z).toNat)
 case atStart => exact ⟨0, Nat.zero_le _, rfl, m, i, 0, 0, by omega, rfl, HWY.out, by omega, by omega, ⟨H0.out.1, HB.out⟩, H0.out.2.1, H0.out.2.2⟩
 case round =>
  obtain ⟨k, hk, rfl, m', j, ax, ay, hkm, rfl, hWj, hv, hv2, hX, hZ, hP⟩ := hrel
  have hkn : (k : Int) ≤ (n : Int) := by have := HML.out; omega
  have hk0 : (0 : Int) ≤ (k : Int) := by omega
  obtain ⟨d, hd⟩ := hWj.there
  obtain ⟨hg, -⟩ := ndL_some hd
  have hG := HG.out wr hX.2 j
  rw [hg] at hG
  obtain ⟨x0, x1, x2, x3, x4, x5⟩ := hX.cells
  obtain ⟨u, hu⟩ : ∃ u, u = d.win := ⟨_, rfl⟩
  rw [← hu] at hG
  have HG1 := Lib.hid (show Calls Tryz.prog 39 #[refV R (.slice p n c), .int .i64 j] wr fun e w' => e = .returned (.tuple #[winR u, .bool true]) ∧ Below wr.heap.size wr w' from hG)
  have HX := Lib.hid (And.intro hX (And.intro hZ hP))
  have HV := Lib.hid (And.intro hv hv2)
  have HD := Lib.hid (And.intro hd hu)
  have HWJ := Lib.hid hWj
  obtain ⟨uid, upar, ux, uy, uw, uh, uon⟩ := u
  obtain ⟨px, hpx⟩ : ∃ px, px = IntKind.i64.wrap ax := ⟨_, rfl⟩
  obtain ⟨py, hpy⟩ : ∃ py, py = IntKind.i64.wrap ay := ⟨_, rfl⟩
  rw [← hpx, ← hpy] at HX
  have HPX := Lib.hid (And.intro hpx hpy)
  have HNX := Lib.hid (fun (W : World) (hW : Below wr.heap.size wr W) => And.intro (hX.next hW) (And.intro (hZ.next hW) (show Blk W (w.heap.size + 1 + 1) 87 #[.int .i64 px, .int .i64 py] from by rw [hpx, hpy]; exact hP.next hW)))
  clear hg hG hX hZ hP hv hv2 hd hu hWj hpx hpy
  cases m' with
  | zero =>
   obtain ⟨rfl, -⟩ := HWJ.out
   have HR := Lib.hid (show px = IntKind.i64.wrap (absX (ndL R L) m i) ∧ py = IntKind.i64.wrap (absY (ndL R L) m i) by
    obtain ⟨h1, h2⟩ := HV.out
    obtain ⟨h3, h4⟩ := HPX.out
    have e1 : absX (ndL R L) 0 0 = 0 := rfl
    have e2 : absY (ndL R L) 0 0 = 0 := rfl
    rw [e1] at h1; rw [e2] at h2
    rw [h3, h4, ← h1, ← h2]; constructor <;> congr 1 <;> omega)
   go_wp2_with (go_at_call 39; ((with_reducible refine (HG1.out).mono ?_); rintro e w1 ⟨rfl, hb⟩); have hX1 := HNX.out _ (hb.alloc hb.size (.cells #[.int .i64 uid, .int .i64 upar, .int .i64 ux, .int .i64 uy, .int .i64 uw, .int .i64 uh, .bool uon] 61)); obtain ⟨⟨z0, z1⟩, ⟨g0, g1⟩⟩ := hX1.2.1.c2; obtain ⟨⟨q0, q1⟩, -⟩ := hX1.2.2.c2; have HX1 := Lib.hid hX1; clear hb hX1)
   refine bodyPost_ret (v := .tuple #[.agg #[.int .i64 px, .int .i64 py], .bool true]) (by simp [results, Tryz.results41, go_sem, z0, z1]) rfl ?_
   exact ⟨by rw [HR.out.1, HR.out.2], (HX1.out.1.2.setCell (by show w.heap.size ≤ w.heap.size + 1; omega) _).setCell (by show w.heap.size ≤ w.heap.size + 1; omega) _⟩
  | succ m' =>
   obtain ⟨hz, d', hd', hW'⟩ := HWJ.out
   have hde : d' = d := by have := HD.out.1; rw [hd'] at this; injection this
   subst hde
   have hpar : d'.win.par = upar := by rw [← HD.out.2]
   have hxx : d'.win.x = ux := by rw [← HD.out.2]
   have hyy : d'.win.y = uy := by rw [← HD.out.2]
   rw [hpar] at hW'
   have HW' := Lib.hid hW'
   have hz1 : (j == 0) = false := by simpa using hz
   have HR := Lib.hid (show (ax + ux) + absX (ndL R L) m' upar = absX (ndL R L) m i ∧ (ay + uy) + absY (ndL R L) m' upar = absY (ndL R L) m i by
    obtain ⟨h1, h2⟩ := HV.out
    have e1 : absX (ndL R L) (m' + 1) j = absX (ndL R L) m' upar + ux := by simp only [absX, parOf, xOf, hd', hpar, hxx]
    have e2 : absY (ndL R L) (m' + 1) j = absY (ndL R L) m' upar + uy := by simp only [absY, parOf, yOf, hd', hpar, hyy]
    rw [e1] at h1; rw [e2] at h2
    constructor <;> omega)
   have HQ := Lib.hid (show IntKind.i64.wrap (px + ux) = IntKind.i64.wrap (ax + ux) ∧ IntKind.i64.wrap (py + uy) = IntKind.i64.wrap (ay + uy) by rw [HPX.out.1, HPX.out.2, wrap_wrap, wrap_wrap]; exact ⟨rfl, rfl⟩)
   clear hz hd' hW' hpar hxx hyy
   go_upto_region 8 with (go_at_call 39; ((with_reducible refine (HG1.out).mono ?_); rintro e w1 ⟨rfl, hb⟩); have hX1 := HNX.out _ (hb.alloc hb.size (.cells #[.int .i64 uid, .int .i64 upar, .int .i64 ux, .int .i64 uy, .int .i64 uw, .int .i64 uh, .bool uon] 61)); have hbu := Blk.new w1 61 #[.int .i64 uid, .int .i64 upar, .int .i64 ux, .int .i64 uy, .int .i64 uw, .int .i64 uh, .bool uon]; have hsz := hb.size; clear hb)
   generalize w1.alloc (.cells #[.int .i64 uid, .int .i64 upar, .int .i64 ux, .int .i64 uy, .int .i64 uw, .int .i64 uh, .bool uon] 61) = w2 at hX1 hbu ⊢
   obtain ⟨⟨q0, q1⟩, ⟨g0, g1⟩⟩ := hX1.2.2.c2
   obtain ⟨⟨-, t1, t2, t3, -, -, -⟩, -⟩ := hbu.c7
   have hlt := HX.out.2.2.lt
   have hne : w1.heap.size ≠ w.heap.size + 1 + 1 := by omega
   have HX1 := Lib.hid hX1
   clear hX1 hbu hlt hsz
   go_wp2_with fail
   go_roundw
   case rel => exact ⟨k + 1, by omega, by go_num, m', upar, ax + ux, ay + uy, by omega, rfl, HW'.out, HR.out.1, HR.out.2, by
    obtain ⟨hA, hB, hC⟩ := HX1.out
    refine ⟨⟨(hA.1.far (by show w.heap.size ≠ w.heap.size + 1 + 1; omega) _).far (by show w.heap.size ≠ w.heap.size + 1 + 1; omega) _, (hA.2.setCell (by show w.heap.size ≤ w.heap.size + 1 + 1; omega) _).setCell (by show w.heap.size ≤ w.heap.size + 1 + 1; omega) _⟩, (hB.far (by show w.heap.size + 1 ≠ w.heap.size + 1 + 1; omega) _).far (by show w.heap.size + 1 ≠ w.heap.size + 1 + 1; omega) _, ?_⟩
    have h1 := (hC.set_ 0 (.int .i64 (wrap64 (px + ux)))).set_ 1 (.int .i64 (wrap64 (py + uy)))
    rw [← HQ.out.1, ← HQ.out.2, IntWalk.i64_left, IntWalk.i64_left]
    exact h1⟩
   case measure => simp [intOf]; omega
set_option maxRecDepth 100000 in
set_option maxHeartbeats 4000000 in
theorem rabs_none (h : RW w sv L) (hL : L.length ≤ 1048576) {i : Int} (hg : getR R L i = none) :
  Calls Tryz.prog 41 #[refV R sv, .int .i64 i] w fun e w' => e = .returned (.tuple #[.agg #[.int .i64 0, .int .i64 0], .bool false]) ∧ Below w.heap.size w w' := by
 obtain ⟨wb, hwb⟩ : ∃ wb, wb = ((w.alloc (.cells (refA R sv) 54)).alloc (.cells #[.int .i64 0, .int .i64 0] 87)).alloc (.cells #[.int .i64 0, .int .i64 0] 87) := ⟨_, rfl⟩
 have hbel : Below w.heap.size w wb := by rw [hwb]; exact (((Below.refl _ _).alloc (Nat.le_refl _) _).alloc (by simp) _).alloc (by simp; omega) _
 have hbA : Blk wb w.heap.size 54 (refA R sv) := by rw [hwb]; exact ((Blk.new w _ _).alloc _).alloc _
 have hbB : Blk wb (w.heap.size + 1) 87 #[.int .i64 0, .int .i64 0] := by
  rw [hwb]
  have := Blk.new (w.alloc (.cells (refA R sv) 54)) 87 #[.int .i64 0, .int .i64 0]
  rw [World.size_alloc] at this
  exact this.alloc _
 have hG := rget_c (R := R) (h.below hbel) hL i
 rw [hg] at hG
 obtain ⟨p, c, rfl, -⟩ := id h
 have HG := Lib.hid (show Calls Tryz.prog 39 #[refV R (.slice p L.length c), .int .i64 i] wb fun e w' => e = .returned (.tuple #[.agg #[.int .i64 0, .int .i64 0, .int .i64 0, .int .i64 0, .int .i64 0, .int .i64 0, .bool false], .bool false]) ∧ Below wb.heap.size wb w' from hG)
 have x0 := hbA.at_ (i := 0) rfl
 have x1 := hbA.at_ (i := 1) rfl
 have x2 := hbA.at_ (i := 2) rfl
 have x3 := hbA.at_ (i := 3) rfl
 have x4 := hbA.at_ (i := 4) rfl
 have x5 := hbA.at_ (i := 5) rfl
 have HB := Lib.hid hbel
 have HBB := Lib.hid hbB
 have HW := Lib.hid hwb
 obtain ⟨n, hn⟩ : ∃ n, n = L.length := ⟨_, rfl⟩
 rw [← hn] at HG x5 hwb HW ⊢
 have hL2 : (n : Int) ≤ 1048576 := by omega
 have hL3 : (0 : Int) ≤ (n : Int) := by omega
 clear h hbel hbA hbB hG hg hn
 go_enter Tryz.func41, Tryz.ntmps41
 go_upto_region 2 with fail
 rw [← HW.out]
 clear hwb
 go_wp2_with fail
 go_loopw [1, 7] (fun y z wr => y = .int .i64 i ∧ z = .int .i64 0 ∧ wr = wb) (fun _ z _ => 0)
 case atStart => exact ⟨rfl, rfl, rfl⟩
 case round =>
  obtain ⟨rfl, rfl, rfl⟩ := hrel
  go_wp2_with (go_at_call 39; ((with_reducible refine (HG.out).mono ?_); rintro e w1 ⟨rfl, hb⟩); have HB1 := Lib.hid (hb.on HB.out HB.out.size); have hX1 := ((HBB.out.next hb).alloc (.cells #[.int .i64 0, .int .i64 0, .int .i64 0, .int .i64 0, .int .i64 0, .int .i64 0, .bool false] 61)); obtain ⟨⟨z0, z1⟩, ⟨g0, g1⟩⟩ := hX1.c2; clear hb hX1)
  refine bodyPost_ret (v := .tuple #[.agg #[.int .i64 0, .int .i64 0], .bool false]) (by simp [results, Tryz.results41, go_sem, z0, z1]) rfl ?_
  exact ⟨rfl, ((HB1.out.alloc HB1.out.size _).setCell (by show w.heap.size ≤ w.heap.size + 1; omega) _).setCell (by show w.heap.size ≤ w.heap.size + 1; omega) _⟩
def WnS (R : RT) (sv : Value) (L : List Win) (g : Nat) (wb : World) (m : Nat) (q i : Int) (k : Nat) (y : Value) (wr : World) : Prop :=
 ∃ (m' : Nat) (j : Int), k + m' = m ∧ y = .int .i64 j ∧ Way (ndL R L) m' j ∧ thruB (ndL R L) m q i = thruB (ndL R L) m' j i ∧ RBox R sv g wb wr
set_option maxRecDepth 100000 in
set_option maxHeartbeats 8000000 in
theorem within_c (h : RW w sv L) (hL : L.length ≤ 1048576) (hno : placeN 0 L = none) {m : Nat} {q i : Int} (hW : Way (ndL R L) m q) (hm : m ≤ L.length) :
  Calls Tryz.prog 84 #[refV R sv, .int .i64 q, .int .i64 i] w fun e w' => e = .returned (.bool (thruB (ndL R L) m q i)) ∧ Below w.heap.size w w' := by
 obtain ⟨wb, hwb⟩ : ∃ wb, wb = w.alloc (.cells (refA R sv) 54) := ⟨_, rfl⟩
 have hbel : Below w.heap.size w wb := by rw [hwb]; exact (Below.refl _ _).alloc (Nat.le_refl _) _
 have hbx : RBox R sv w.heap.size wb wb := ⟨by rw [hwb]; exact Blk.new w _ _, Below.refl _ _⟩
 have hRW : ∀ W, RBox R sv w.heap.size wb W → RW W sv L := fun W hW => (h.below hbel).below hW.2
 have HG := Lib.hid (fun (W : World) (hW : RBox R sv w.heap.size wb W) (j : Int) => place_c (R := R) (hRW W hW) hL j)
 obtain ⟨p, c, rfl, hcell⟩ := id h
 have HC := Lib.hid (fun (W : World) (hW : RBox R (.slice p L.length c) w.heap.size wb W) (j : Nat) (v : Win) (hv : L[j]? = some v) => (show ∃ b o, p = some ⟨b, o, none⟩ ∧ ∀ (i : Nat) (u : Value), (encW v)[i]? = some u → W.cell? ⟨b, o + j * 7 + i, none⟩ = some u from by
  obtain ⟨b, o, h1, h2, h3⟩ := hcell j v hv
  exact ⟨b, o, h1, fun i u hu => (hW.2.cell (p := ⟨b, o + j * 7 + i, none⟩) (Nat.lt_of_lt_of_le h2 hbel.size)).trans ((hbel.cell (p := ⟨b, o + j * 7 + i, none⟩) h2).trans (h3 i u hu))⟩))
 have HB := Lib.hid hbel
 have HW := Lib.hid hwb
 have H0 := Lib.hid hbx
 have HWY := Lib.hid hW
 have HML := Lib.hid hm
 have HNO := Lib.hid hno
 obtain ⟨n, hn⟩ : ∃ n, n = L.length := ⟨_, rfl⟩
 rw [← hn] at HG HC H0 HML hwb HW ⊢
 have HN := Lib.hid hn
 have hL2 : (n : Int) ≤ 1048576 := by omega
 clear h hbel hbx hRW hW hm hn hno hcell
 go_enter Tryz.func84, Tryz.ntmps84
 go_upto_region 1 with fail
 rw [← HW.out]
 clear hwb
 go_wp2_with fail
 go_loopw [1, 7] (fun y z wr => ∃ k : Nat, k ≤ m ∧ z = .int .i64 k ∧ WnS R (.slice p n c) L w.heap.size wb m q i k y wr) (fun _ z _ => m + 1 - (intOf z).toNat)
 case atStart => exact ⟨0, Nat.zero_le _, rfl, m, q, by omega, rfl, HWY.out, rfl, H0.out⟩
 case round =>
  obtain ⟨k, hk, rfl, m', j, hkm, rfl, hWj, hv, hX⟩ := hrel
  have hkn : (k : Int) ≤ (n : Int) := by have := HML.out; omega
  have hk0 : (0 : Int) ≤ (k : Int) := by omega
  obtain ⟨x0, x1, x2, x3, x4, x5⟩ := hX.cells
  have HX := Lib.hid hX
  have HV := Lib.hid hv
  have HWJ := Lib.hid hWj
  have hG := HG.out wr hX j
  clear hX hv hWj
  by_cases hji : j = i
  · have hb1 : (j == i) = true := by simpa using hji
    have HR := Lib.hid (show thruB (ndL R L) m q i = true by rw [HV.out, hji]; cases m' <;> simp [thruB])
    clear hji hG
    go_wp2_with fail
    go_ret
    exact ⟨ret_bool HR.out.symm, HX.out.2.on HB.out HB.out.size⟩
  · have hb1 : (j == i) = false := by simpa using hji
    cases m' with
    | zero =>
     obtain ⟨rfl, -⟩ := HWJ.out
     rw [HNO.out] at hG
     have HG1 := Lib.hid (show Calls Tryz.prog 64 #[refV R (.slice p n c), .int .i64 0] wr fun e w' => e = .returned (.int .i64 (-1)) ∧ Below wr.heap.size wr w' from hG)
     have HR := Lib.hid (show thruB (ndL R L) m q i = false by rw [HV.out]; simp only [thruB]; exact hb1)
     clear hji hG
     go_wp2_with (go_at_call 64; ((with_reducible refine (HG1.out).mono ?_); rintro e w1 ⟨rfl, hb⟩); have HX1 := Lib.hid (HX.out.next hb); clear hb)
     go_ret
     exact ⟨ret_bool HR.out.symm, HX1.out.2.on HB.out HB.out.size⟩
    | succ m' =>
     obtain ⟨hz, d, hd, hW'⟩ := HWJ.out
     obtain ⟨hg, -⟩ := ndL_some hd
     unfold getR at hg
     rw [if_neg hz] at hg
     unfold findL at hg
     cases hp : placeN j L with
     | none => rw [hp] at hg; cases hg
     | some kk =>
      rw [hp] at hg hG
      dsimp only at hg
      have hkl := (List.getElem?_eq_some_iff.1 hg).1
      have HG1 := Lib.hid (show Calls Tryz.prog 64 #[refV R (.slice p n c), .int .i64 j] wr fun e w' => e = .returned (.int .i64 (kk : Int)) ∧ Below wr.heap.size wr w' from hG)
      have HGG := Lib.hid hg
      have HR := Lib.hid (show thruB (ndL R L) m q i = thruB (ndL R L) m' d.win.par i by rw [HV.out]; simp only [thruB, parOf, hd]; rw [hb1]; rfl)
      have HW' := Lib.hid hW'
      have hk1 : (kk : Int) < (n : Int) := by have := HN.out; omega
      have hk2 : ¬ ((kk : Int) < 0) := by omega
      have hk3 : (0 : Int) ≤ (kk : Int) := by omega
      clear hji hG hz hd hg hp hkl hW'
      go_wp2_with (go_at_call 64; ((with_reducible refine (HG1.out).mono ?_); rintro e w1 ⟨rfl, hb⟩); have hX1 := HX.out.next hb; obtain ⟨y0, y1, y2, y3, y4, y5⟩ := hX1.cells; obtain ⟨bb, o, rfl, hb2⟩ := HC.out _ hX1 kk _ HGG.out; obtain ⟨-, r1, -⟩ := RW.cells hb2; have HX1 := Lib.hid hX1; clear hb hX1 hb2)
      go_roundw
      case rel => exact ⟨k + 1, by omega, by go_num, m', _, by omega, rfl, HW'.out, HR.out, HX1.out⟩
      case measure => simp [intOf]; omega
end
end Go.Proofs.YtnhchpiafchdgaaGreat
end
section
namespace Go.Proofs.YtnhchpiafchdgaaGreat
open Go.RowKit Go.Shelf
def Uniq (R : RT) (L : List Win) : Prop := ∀ v ∈ L, getR R L v.id = some v
theorem nd_of {R : RT} {L : List Win} (hU : Uniq R L) {v : Win} (hv : v ∈ L) : ndL R L v.id = some ⟨v, kidsL L v.id⟩ := by
 unfold ndL; rw [hU v hv]; rfl
section
variable {R : RT} {L : List Win}
end
end Go.Proofs.YtnhchpiafchdgaaGreat
end
