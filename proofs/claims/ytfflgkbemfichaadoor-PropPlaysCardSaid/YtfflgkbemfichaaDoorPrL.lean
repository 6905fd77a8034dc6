/- List of no properties; PropNobody, walked. -/
import Derived.Test.YtfflgkbemfichaaDoorPrK
import Derived.Test.YtfflgkbemfichaaDoorPrZ
import Derived.Test.YtfflgkbemfichaaDoorPrI
import Derived.Test.YtfflgkbemfichaaDoorPrF
namespace Go.Proofs.YtfflgkbemfichaaDoor
open Go.RowKit Go.Maps
theorem propInfo : (Tryd.prog.info? 27).map (fun i => (i.zero, i.size, i.bytes)) = some (some (.agg #[.string ByteArray.empty, .string ByteArray.empty, .string ByteArray.empty]), 3, 48) := by kernel_rfl
theorem make_props (n : Nat) (hn : n ≤ 1048576) (W : World) : (Instr.makeSlice 43 (.int .i64 0) (.int .i64 (n : Int))).run Tryd.prog W = .ok (.slice (some ⟨W.heap.size, 0, none⟩) 0 n) (W.alloc (.cells (madeCells #[.string ByteArray.empty, .string ByteArray.empty, .string ByteArray.empty] (n * 3)) 27)) := by
  obtain ⟨i0, hi0, hz0, hz1, hz2⟩ := info_parts propInfo
  have h := run_make (P := Tryd.prog) W 43 27 i0 (.agg #[.string ByteArray.empty, .string ByteArray.empty, .string ByteArray.empty]) Tryd.underlying43 hi0 hz0 .i64 .i64 0 (n : Int) (by omega) (by omega) (by rw [hz2]; omega) (by omega)
  rw [hz1, show ((n : Int)).toNat = n by omega] at h
  exact h
theorem neq_prop (a b c a' b' c' : ByteArray) (w : World) : (binOp .neq 27 (.agg #[.string a, .string b, .string c]) (.agg #[.string a', .string b', .string c'])).run Tryd.prog w = .ok (.bool (!decide (a = a' ∧ b = b' ∧ c = c'))) w := by
  have tl : ∀ a b : ByteArray, a.toList = b.toList ↔ a = b := fun a b => by
    rw [ByteArray.toList_eq, ByteArray.toList_eq]
    exact ⟨fun h => bytes_eq h, fun h => by rw [h]⟩
  by_cases h1 : a = a' <;> by_cases h2 : b = b' <;> by_cases h3 : c = c' <;> simp [go_sem, tl, h1, h2, h3]
section
variable {w : World} {v : Value}
set_option maxRecDepth 100000 in
set_option maxHeartbeats 2000000 in
theorem list_empty {i : Int} (h : Calls Tryd.prog 33 #[v, .int .i64 i] w fun e w' => e = .returned (.map none) ∧ w = w') :
    Calls Tryd.prog 19 #[v, .int .i64 i] w fun e w' => ∃ p, e = .returned (.slice p 0 0) ∧ Below w.heap.size w w' := by
  have HO := Lib.hid h
  have hmk : ∀ W : World, (Instr.makeSlice 43 (.int .i64 0) (.int .i64 0)).run Tryd.prog W = .ok (.slice (some ⟨W.heap.size, 0, none⟩) 0 0) (W.alloc (.cells (madeCells #[.string ByteArray.empty, .string ByteArray.empty, .string ByteArray.empty] (0 * 3)) 27)) := fun W => make_props 0 (by omega) W
  have elen := fun (W : World) ty => Maps.len_nil (P := Tryd.prog) (w := W) Tryd.underlying71 ty
  have HK := Lib.hid (fun W => keys_c none W)
  have HS := Lib.hid (fun W => sorted_none W)
  clear h
  go_enter Tryd.func19, Tryd.ntmps19
  go_upto_region 2 with (go_at_call 33; ((with_reducible refine (HO.out).mono ?_); rintro e w1 ⟨rfl, rfl⟩))
  go_upto_region 3 with fail
  have hb2 := (Below.refl w.heap.size w).alloc (Nat.le_refl _) (.cells (madeCells #[.string ByteArray.empty, .string ByteArray.empty, .string ByteArray.empty] (0 * 3)) 27)
  generalize w.alloc (.cells (madeCells #[.string ByteArray.empty, .string ByteArray.empty, .string ByteArray.empty] (0 * 3)) 27) = w2 at hb2 ⊢
  have HB2 := Lib.hid hb2
  clear hb2
  go_wp2_with (first
    | (go_at_call 37; ((with_reducible refine (HK.out _).mono ?_); rintro e w3 ⟨rfl, rfl⟩))
    | (go_at_call 36; ((with_reducible refine (HS.out _).mono ?_); rintro e w4 ⟨rfl, hb4⟩); have HB4 := Lib.hid (hb4.on (HB2.out.alloc HB2.out.size (.cells #[.map none] 71)) (Nat.le_trans HB2.out.size (by simp))); clear hb4))
  go_loopw [6, 19] (fun u z wr => u = .slice (some ⟨w.heap.size, 0, none⟩) 0 0 ∧ z = .int .i64 0 ∧ wr = w4) (fun _ z _ => 0)
  case atStart => exact ⟨rfl, rfl, rfl⟩
  case round =>
    obtain ⟨rfl, rfl, rfl⟩ := hrel
    go_wp2_with fail
    go_ret
    exact ⟨_, rfl, HB4.out⟩
end
attribute [local go_sem ↓] neq_prop
set_option maxRecDepth 100000 in
set_option maxHeartbeats 16000000 in
theorem nobody_w (A : Ac) (w : World) (hm : MaxL w) (hok : A.ok) :
    Calls Tryd.prog 8 #[.agg ⟨A.cells⟩] w fun e w' => e = .returned (.bool true) ∧ Below w.heap.size w w' := by
  obtain ⟨kk, win, p⟩ := A
  show Calls Tryd.prog 8 #[.agg #[.int .i64 kk, .int .i64 win, .string p.name, .string p.typ, .string p.data]] w fun e w' => e = .returned (.bool true) ∧ Below w.heap.size w w'
  obtain ⟨wb, hwb⟩ : ∃ wb, wb = w.alloc (.cells #[.int .i64 kk, .int .i64 win, .string p.name, .string p.typ, .string p.data] 29) := ⟨_, rfl⟩
  have hbel : Below w.heap.size w wb := by rw [hwb]; exact (Below.refl _ _).alloc (Nat.le_refl _) _
  have hbx : Blk wb w.heap.size 29 #[.int .i64 kk, .int .i64 win, .string p.name, .string p.typ, .string p.data] := by rw [hwb]; exact Blk.new w _ _
  have HX := Lib.hid (fun W (hW : Below wb.heap.size wb W) => (show W.cell? ⟨w.heap.size, 0, none⟩ = some (.int .i64 kk) ∧ W.cell? ⟨w.heap.size, 1, none⟩ = some (.int .i64 win) ∧ W.cell? ⟨w.heap.size, 2, none⟩ = some (.string p.name) ∧ W.cell? ⟨w.heap.size, 3, none⟩ = some (.string p.typ) ∧ W.cell? ⟨w.heap.size, 4, none⟩ = some (.string p.data) from ⟨(hbx.next hW).at_ rfl, (hbx.next hW).at_ rfl, (hbx.next hW).at_ rfl, (hbx.next hW).at_ rfl, (hbx.next hW).at_ rfl⟩))
  have HA := Lib.hid (fun W (hW : Below wb.heap.size wb W) => awake_c W (hm.next (hW.on hbel hbel.size)))
  have HB := Lib.hid hbel
  have HW := Lib.hid hwb
  have HI := Lib.hid hok
  clear hbel hbx hm hok
  go_enter Tryd.func8, Tryd.ntmps8
  go_upto_region 1 with fail
  rw [← HW.out]
  clear hwb
  go_upto_region 2 with fail
  obtain ⟨tb, htb⟩ : ∃ tb, tb = wb.heap.size := ⟨_, rfl⟩
  have hT : Blk ((wb.alloc (.cells #[.map none] 65)).alloc (.cells #[.pointer none, tabP wb.heap.size] 23)) wb.heap.size 65 #[.map none] := (Blk.new wb _ _).alloc _
  have hR : Blk ((wb.alloc (.cells #[.map none] 65)).alloc (.cells #[.pointer none, tabP wb.heap.size] 23)) (wb.heap.size + 1) 23 #[.pointer none, tabP wb.heap.size] := by
    have := Blk.new (wb.alloc (.cells #[.map none] 65)) 23 #[.pointer none, tabP wb.heap.size]
    rwa [World.size_alloc] at this
  have hW2 : Below wb.heap.size wb ((wb.alloc (.cells #[.map none] 65)).alloc (.cells #[.pointer none, tabP wb.heap.size] 23)) := ((Below.refl _ _).alloc (Nat.le_refl _) _).alloc (by simp) _
  rw [← htb] at hT hR hW2 ⊢
  generalize (wb.alloc (.cells #[.map none] 65)).alloc (.cells #[.pointer none, tabP tb] 23) = w2 at hT hR hW2 ⊢
  have HW2 := Lib.hid (htb ▸ hW2)
  have HT := Lib.hid hT
  have HRW := Lib.hid (fun W (hW : Below w2.heap.size w2 W) => (hR.next hW).c2.1)
  clear hT hR hW2 htb
  go_loopw [12] (fun z wr => (z = .int .i64 0 ∨ z = .int .i64 1 ∨ z = .int .i64 2) ∧ Below w2.heap.size w2 wr) (fun z _ => 2 - (intOf z).toNat)
  case atStart => exact ⟨.inl rfl, Below.refl _ _⟩
  case round =>
    obtain ⟨hz, hr⟩ := hrel
    have HR := Lib.hid hr
    clear hr
    rcases hz with rfl | rfl | rfl
    · obtain ⟨r0, r1⟩ := HRW.out wr HR.out
      have HSET := Lib.hid (fun W (hW : Below w2.heap.size w2 W) => set_nobody (IsNo.next (v := .pointer none) (.inl rfl) hW) HI.out.1 p)
      have HGET := Lib.hid (fun W (hW : Below w2.heap.size w2 W) => (show Calls Tryd.prog 16 #[_, .int .i64 win, .string p.name] W fun e w' => e = .returned (.tuple #[.agg #[.string ⟨#[]⟩, .string ⟨#[]⟩, .string ⟨#[]⟩], .bool false]) ∧ Below W.heap.size W w' from get_nobody (IsNo.next (v := .pointer none) (.inl rfl) hW) HI.out.1 HI.out.2.1))
      have HDR := Lib.hid (fun W (hW : Below w2.heap.size w2 W) => drop_no (IsNo.next (v := .pointer none) (.inl rfl) hW) HI.out.1)
      have HREM := Lib.hid (fun W (hW : Below w2.heap.size w2 W) => remove_nobody (IsNo.next (v := .pointer none) (.inl rfl) hW) HI.out.1 HI.out.2.1)
      have HLI := Lib.hid (fun W (hW : Below w2.heap.size w2 W) => list_empty (of_no (IsNo.next (v := .pointer none) (.inl rfl) hW) HI.out.1))
      go_upto_region 4 with fail
      clear r0 r1
      obtain ⟨x0, x1, x2, x3, x4⟩ := HX.out wr (HR.out.on HW2.out HW2.out.size)
      go_upto_region 5 with (go_at_call 11; ((with_reducible refine (HSET.out wr HR.out).mono ?_); rintro e w3 ⟨rfl, hb3⟩); have HB3 := Lib.hid (hb3.on HR.out HR.out.size); clear hb3; clear x0 x1 x2 x3 x4; obtain ⟨x0, x1, x2, x3, x4⟩ := HX.out w3 (HB3.out.on HW2.out HW2.out.size))
      go_upto_region 6 with (go_at_call 16; ((with_reducible refine (HGET.out w3 HB3.out).mono ?_); rintro e w4 ⟨rfl, hb4⟩); have HB4 := Lib.hid (hb4.on HB3.out HB3.out.size); clear hb4)
      have hx5 := Blk.new w4 27 #[.string ⟨#[]⟩, .string ⟨#[]⟩, .string ⟨#[]⟩]
      have hb5 := HB4.out.alloc HB4.out.size (.cells #[.string ⟨#[]⟩, .string ⟨#[]⟩, .string ⟨#[]⟩] 27)
      obtain ⟨g5, hg5⟩ : ∃ g, g = w4.heap.size := ⟨_, rfl⟩
      rw [← hg5] at hx5 ⊢
      clear hg5
      generalize w4.alloc (.cells #[.string ⟨#[]⟩, .string ⟨#[]⟩, .string ⟨#[]⟩] 27) = w5 at hx5 hb5 ⊢
      have HX5 := Lib.hid hx5
      have HB5 := Lib.hid hb5
      clear hx5 hb5 x0 x1 x2 x3 x4
      obtain ⟨x0, x1, x2, x3, x4⟩ := HX.out w5 (HB5.out.on HW2.out HW2.out.size)
      obtain ⟨⟨y0, y1, y2⟩, -⟩ := HX5.out.c3
      go_upto_region 7 with (go_at_call 15; ((with_reducible refine (HDR.out w5 HB5.out).mono ?_); rintro e w6 ⟨rfl, rfl⟩))
      go_wp2_with (first
        | (go_at_call 13; ((with_reducible refine (HREM.out w5 HB5.out).mono ?_); rintro e w7 ⟨rfl, hb7⟩); have HB7 := Lib.hid (hb7.on HB5.out HB5.out.size); clear hb7; clear x0 x1 x2 x3 x4; obtain ⟨x0, x1, x2, x3, x4⟩ := HX.out w7 (HB7.out.on HW2.out HW2.out.size))
        | (go_at_call 19; ((with_reducible refine (HLI.out w7 HB7.out).mono ?_); rintro e w8 ⟨pl, rfl, hb8⟩); have HB8 := Lib.hid (hb8.on HB7.out HB7.out.size); clear hb8))
      go_roundw
      case rel => exact ⟨.inr (.inl rfl), HB8.out⟩
      case measure => simp [intOf]
    · obtain ⟨r0, r1⟩ := HRW.out wr HR.out
      have HSET := Lib.hid (fun W (hW : Below w2.heap.size w2 W) => set_nobody (IsNo.next (v := tabP tb) (.inr ⟨tb, rfl, HT.out⟩) hW) HI.out.1 p)
      have HGET := Lib.hid (fun W (hW : Below w2.heap.size w2 W) => (show Calls Tryd.prog 16 #[_, .int .i64 win, .string p.name] W fun e w' => e = .returned (.tuple #[.agg #[.string ⟨#[]⟩, .string ⟨#[]⟩, .string ⟨#[]⟩], .bool false]) ∧ Below W.heap.size W w' from get_nobody (IsNo.next (v := tabP tb) (.inr ⟨tb, rfl, HT.out⟩) hW) HI.out.1 HI.out.2.1))
      have HDR := Lib.hid (fun W (hW : Below w2.heap.size w2 W) => drop_no (IsNo.next (v := tabP tb) (.inr ⟨tb, rfl, HT.out⟩) hW) HI.out.1)
      have HREM := Lib.hid (fun W (hW : Below w2.heap.size w2 W) => remove_nobody (IsNo.next (v := tabP tb) (.inr ⟨tb, rfl, HT.out⟩) hW) HI.out.1 HI.out.2.1)
      have HLI := Lib.hid (fun W (hW : Below w2.heap.size w2 W) => list_empty (of_no (IsNo.next (v := tabP tb) (.inr ⟨tb, rfl, HT.out⟩) hW) HI.out.1))
      go_upto_region 4 with fail
      clear r0 r1
      obtain ⟨x0, x1, x2, x3, x4⟩ := HX.out wr (HR.out.on HW2.out HW2.out.size)
      go_upto_region 5 with (go_at_call 11; ((with_reducible refine (HSET.out wr HR.out).mono ?_); rintro e w3 ⟨rfl, hb3⟩); have HB3 := Lib.hid (hb3.on HR.out HR.out.size); clear hb3; clear x0 x1 x2 x3 x4; obtain ⟨x0, x1, x2, x3, x4⟩ := HX.out w3 (HB3.out.on HW2.out HW2.out.size))
      go_upto_region 6 with (go_at_call 16; ((with_reducible refine (HGET.out w3 HB3.out).mono ?_); rintro e w4 ⟨rfl, hb4⟩); have HB4 := Lib.hid (hb4.on HB3.out HB3.out.size); clear hb4)
      have hx5 := Blk.new w4 27 #[.string ⟨#[]⟩, .string ⟨#[]⟩, .string ⟨#[]⟩]
      have hb5 := HB4.out.alloc HB4.out.size (.cells #[.string ⟨#[]⟩, .string ⟨#[]⟩, .string ⟨#[]⟩] 27)
      obtain ⟨g5, hg5⟩ : ∃ g, g = w4.heap.size := ⟨_, rfl⟩
      rw [← hg5] at hx5 ⊢
      clear hg5
      generalize w4.alloc (.cells #[.string ⟨#[]⟩, .string ⟨#[]⟩, .string ⟨#[]⟩] 27) = w5 at hx5 hb5 ⊢
      have HX5 := Lib.hid hx5
      have HB5 := Lib.hid hb5
      clear hx5 hb5 x0 x1 x2 x3 x4
      obtain ⟨x0, x1, x2, x3, x4⟩ := HX.out w5 (HB5.out.on HW2.out HW2.out.size)
      obtain ⟨⟨y0, y1, y2⟩, -⟩ := HX5.out.c3
      go_upto_region 7 with (go_at_call 15; ((with_reducible refine (HDR.out w5 HB5.out).mono ?_); rintro e w6 ⟨rfl, rfl⟩))
      go_wp2_with (first
        | (go_at_call 13; ((with_reducible refine (HREM.out w5 HB5.out).mono ?_); rintro e w7 ⟨rfl, hb7⟩); have HB7 := Lib.hid (hb7.on HB5.out HB5.out.size); clear hb7; clear x0 x1 x2 x3 x4; obtain ⟨x0, x1, x2, x3, x4⟩ := HX.out w7 (HB7.out.on HW2.out HW2.out.size))
        | (go_at_call 19; ((with_reducible refine (HLI.out w7 HB7.out).mono ?_); rintro e w8 ⟨pl, rfl, hb8⟩); have HB8 := Lib.hid (hb8.on HB7.out HB7.out.size); clear hb8))
      go_roundw
      case rel => exact ⟨.inr (.inr rfl), HB8.out⟩
      case measure => simp [intOf]
    · go_wp2_with (go_at_call 23; ((with_reducible refine (HA.out wr (HR.out.on HW2.out HW2.out.size)).mono ?_); rintro e w9 ⟨rfl, hb9⟩); have HB9 := Lib.hid hb9; clear hb9)
      go_ret
      exact ⟨rfl, HB9.out.on ((HR.out.on HW2.out HW2.out.size).on HB.out HB.out.size) (Nat.le_trans HB.out.size (HR.out.on HW2.out HW2.out.size).size)⟩
end Go.Proofs.YtfflgkbemfichaaDoor
