/- The law WindowNobody, walked. -/
import Derived.Test.YtlbbjinkblgfiaaWaB
namespace Go.Proofs.Ytlbbjinkblgfiaa
open Go.RowKit Go.Shelf Go.Maps
abbrev actA (kind win other x y a e : Int) : Array Value := #[.int .i64 kind, .int .i64 win, .int .i64 other, .int .i64 x, .int .i64 y, .int .i64 a, .int .i64 e]
/-- What the law keeps. -/
def Nst (w : World) (kind win other x y a e px py : Int) (wx : World) : Prop :=
  (Blk wx w.heap.size 39 (actA kind win other x y a e) ∧ Blk wx (w.heap.size + 1) 26 #[.int .i64 px, .int .i64 py] ∧ Blk wx (w.heap.size + 1 + 1) 68 #[.map none, .int .i64 0] ∧
    Blk wx (w.heap.size + 1 + 1 + 1) 27 #[.pointer none, .pointer (some ⟨w.heap.size + 1 + 1, 0, none⟩)]) ∧ Below w.heap.size w wx
section
variable {w wx w1 : World} {kind win other x y a e px py : Int}
theorem Nst.next (h : Nst w kind win other x y a e px py wx) (hb : Below wx.heap.size wx w1) : Nst w kind win other x y a e px py w1 :=
  ⟨⟨h.1.1.next hb, h.1.2.1.next hb, h.1.2.2.1.next hb, h.1.2.2.2.next hb⟩, hb.on h.2 h.2.size⟩
theorem Nst.alloc (h : Nst w kind win other x y a e px py wx) (o : Obj) : Nst w kind win other x y a e px py (wx.alloc o) := h.next ((Below.refl _ _).alloc (Nat.le_refl _) o)
theorem Nst.cells (h : Nst w kind win other x y a e px py wx) : (wx.cell? ⟨w.heap.size, 1, none⟩ = some (.int .i64 win) ∧ wx.cell? ⟨w.heap.size, 2, none⟩ = some (.int .i64 other) ∧ wx.cell? ⟨w.heap.size, 3, none⟩ = some (.int .i64 x) ∧ wx.cell? ⟨w.heap.size, 4, none⟩ = some (.int .i64 y) ∧ wx.cell? ⟨w.heap.size, 5, none⟩ = some (.int .i64 a) ∧ wx.cell? ⟨w.heap.size, 6, none⟩ = some (.int .i64 e)) ∧
    (wx.cell? ⟨w.heap.size + 1, 0, none⟩ = some (.int .i64 px) ∧ wx.cell? ⟨w.heap.size + 1, 1, none⟩ = some (.int .i64 py)) :=
  ⟨⟨h.1.1.at_ (i := 1) rfl, h.1.1.at_ (i := 2) rfl, h.1.1.at_ (i := 3) rfl, h.1.1.at_ (i := 4) rfl, h.1.1.at_ (i := 5) rfl, h.1.1.at_ (i := 6) rfl⟩, h.1.2.1.c2.1⟩
theorem Nst.no (h : Nst w kind win other x y a e px py wx) : NoTree wx (.pointer none) ∧ NoTree wx (.pointer (some ⟨w.heap.size + 1 + 1, 0, none⟩)) := ⟨.inl rfl, .inr ⟨_, rfl, h.1.2.2.1⟩⟩
theorem Nst.start (w : World) (kind win other x y a e px py : Int) : Nst w kind win other x y a e px py ((((w.alloc (.cells (actA kind win other x y a e) 39)).alloc (.cells #[.int .i64 px, .int .i64 py] 26)).alloc (.cells #[.map none, .int .i64 0] 68)).alloc (.cells #[.pointer none, .pointer (some ⟨w.heap.size + 1 + 1, 0, none⟩)] 27)) := by
  have b1 := Blk.new (w.alloc (.cells (actA kind win other x y a e) 39)) 26 #[.int .i64 px, .int .i64 py]
  have b2 := Blk.new ((w.alloc (.cells (actA kind win other x y a e) 39)).alloc (.cells #[.int .i64 px, .int .i64 py] 26)) 68 #[.map none, .int .i64 0]
  have b3 := Blk.new (((w.alloc (.cells (actA kind win other x y a e) 39)).alloc (.cells #[.int .i64 px, .int .i64 py] 26)).alloc (.cells #[.map none, .int .i64 0] 68)) 27 #[.pointer none, .pointer (some ⟨w.heap.size + 1 + 1, 0, none⟩)]
  rw [World.size_alloc] at b1 b2 b3
  rw [World.size_alloc] at b2 b3
  rw [World.size_alloc] at b3
  exact ⟨⟨(((Blk.new w _ _).alloc _).alloc _).alloc _, (b1.alloc _).alloc _, b2.alloc _, b3⟩, ((((Below.refl _ w).alloc (Nat.le_refl _) _).alloc (by simp) _).alloc (by simp; omega) _).alloc (by simp; omega) _⟩
end
theorem get_no0 {w : World} {p : Value} (h : NoTree w p) {i : Int} (hi : I64 i) : Calls Try.prog 19 #[p, .int .i64 i] w fun e w' => e = .returned (.tuple #[.agg #[.int .i64 0, .int .i64 0, .int .i64 0, .int .i64 0, .int .i64 0, .int .i64 0, .bool false], .bool false]) ∧ Below w.heap.size w w' := get_no h hi
theorem win_kept {w w' : World} {v : Array Value} (hb : Below (w.alloc (.cells v 50)).heap.size (w.alloc (.cells v 50)) w') : Blk w' w.heap.size 50 v := (Blk.new w _ _).next hb
set_option maxRecDepth 100000 in
set_option maxHeartbeats 16000000 in
theorem nobody_w (kind win other x y a e px py : Int) (w : World) (hwin : I64 win) :
    Calls Try.prog 8 #[.agg (actA kind win other x y a e), .agg #[.int .i64 px, .int .i64 py]] w fun e w' => e = .returned (.bool true) ∧ Below w.heap.size w w' := by
  have P0 := Lib.hid (Nst.start w kind win other x y a e px py)
  have HA := Lib.hid (fun W => awake_c W)
  go_enter Try.func8, Try.ntmps8
  go_wp2_with fail
  go_loopw [21] (fun z wr => ∃ k : Nat, k ≤ 2 ∧ z = .int .i64 k ∧ Nst w kind win other x y a e px py wr) (fun z _ => 2 - (intOf z).toNat)
  case atStart => exact ⟨0, by omega, rfl, P0.out⟩
  case round =>
    obtain ⟨k, hk, rfl, hP⟩ := hrel
    have P1 := Lib.hid hP
    have hk3 : k = 0 ∨ k = 1 ∨ k = 2 := by omega
    rcases hk3 with rfl | rfl | rfl
    · have i0 := hP.1.2.2.2.at_ (i := 0) rfl
      have hno : ∀ W, Nst w kind win other x y a e px py W → NoTree W (.pointer none) := fun W h => h.no.1
      have HNO := Lib.hid hno
      obtain ⟨⟨c1, c2, c3, c4, c5, c6⟩, d0, d1⟩ := hP.cells
      clear hP hno hk
      go_wp2_with (first
        | (go_at_call 26; ((with_reducible refine (create_f (HNO.out _ P1.out)).mono ?_); rintro ex w2 ⟨rfl, hb⟩); have P2 := Lib.hid (P1.out.next hb); obtain ⟨⟨c1, c2, c3, c4, c5, c6⟩, d0, d1⟩ := P2.out.cells; clear hb)
        | (go_at_call 20; ((with_reducible refine (destroy_f (refuse_no (HNO.out _ P2.out) hwin) (by decide)).mono ?_); rintro ex w3 ⟨rfl, hb⟩); have P3 := Lib.hid (P2.out.next hb); obtain ⟨⟨c1, c2, c3, c4, c5, c6⟩, d0, d1⟩ := P3.out.cells; clear hb)
        | (go_at_call 19; ((with_reducible refine (get_no0 (HNO.out _ P3.out) hwin).mono ?_); rintro ex w4 ⟨rfl, hb⟩); have P4 := Lib.hid ((P3.out.next hb).alloc (.cells #[.int .i64 0, .int .i64 0, .int .i64 0, .int .i64 0, .int .i64 0, .int .i64 0, .bool false] 50)); obtain ⟨⟨c1, c2, c3, c4, c5, c6⟩, d0, d1⟩ := P4.out.cells; clear hb)
        | (go_at_call 22; ((with_reducible refine (abs_no (HNO.out _ P4.out) hwin).mono ?_); rintro ex w5 ⟨rfl, hb⟩); have B5 := Lib.hid (win_kept hb); have P5 := Lib.hid ((P4.out.next hb).alloc (.cells #[.int .i64 0, .int .i64 0] 26)); obtain ⟨⟨c1, c2, c3, c4, c5, c6⟩, d0, d1⟩ := P5.out.cells; clear hb)
        | (go_at_call 15; ((with_reducible refine (under_no (HNO.out _ P5.out)).mono ?_); rintro ex w6 ⟨rfl, hb⟩); have B6 := Lib.hid (point_kept hb); obtain ⟨g0, g1⟩ := B6.out.c2.1; have B7 := Lib.hid ((B5.out.alloc _).next hb); obtain ⟨⟨h0, h1, h2, h3, h4, h5, h6⟩, -⟩ := B7.out.c7; have P6 := Lib.hid (P5.out.next hb); obtain ⟨⟨c1, c2, c3, c4, c5, c6⟩, d0, d1⟩ := P6.out.cells; clear hb)
        | (go_at_call 21; ((with_reducible refine (repar_f (refuse_no (HNO.out _ P6.out) hwin) (by decide)).mono ?_); rintro ex w7 ⟨rfl, hb⟩); have P7 := Lib.hid (P6.out.next hb); obtain ⟨⟨c1, c2, c3, c4, c5, c6⟩, d0, d1⟩ := P7.out.cells; clear hb)
        | (go_at_call 27; ((with_reducible refine (conf_f (refuse_no (HNO.out _ P7.out) hwin) (by decide)).mono ?_); rintro ex w8 ⟨rfl, hb⟩); have P8 := Lib.hid (P7.out.next hb); obtain ⟨⟨c1, c2, c3, c4, c5, c6⟩, d0, d1⟩ := P8.out.cells; clear hb)
        | (go_at_call 25; ((with_reducible refine (raise_f (refuse_no (HNO.out _ P8.out) hwin) (by decide)).mono ?_); rintro ex w9 ⟨rfl, hb⟩); have P9 := Lib.hid (P8.out.next hb); obtain ⟨⟨c1, c2, c3, c4, c5, c6⟩, d0, d1⟩ := P9.out.cells; clear hb)
        | (go_at_call 28; ((with_reducible refine (lower_f (refuse_no (HNO.out _ P9.out) hwin) (by decide)).mono ?_); rintro ex w10 ⟨rfl, hb⟩); have P10 := Lib.hid (P9.out.next hb); obtain ⟨⟨c1, c2, c3, c4, c5, c6⟩, d0, d1⟩ := P10.out.cells; clear hb)
        | (go_at_call 29; ((with_reducible refine (map_f (refuse_no (HNO.out _ P10.out) hwin) (by decide)).mono ?_); rintro ex w11 ⟨rfl, hb⟩); have P11 := Lib.hid (P10.out.next hb); obtain ⟨⟨c1, c2, c3, c4, c5, c6⟩, d0, d1⟩ := P11.out.cells; clear hb)
        | (go_at_call 18; ((with_reducible refine (kids_no (HNO.out _ P11.out) hwin).mono ?_); rintro ex w12 ⟨rfl, rfl⟩))
        | (go_at_call 24; ((with_reducible refine (view_no (HNO.out _ P11.out) hwin).mono ?_); rintro ex w13 ⟨rfl, rfl⟩))
        | (go_at_call 13; ((with_reducible refine (len_no (HNO.out _ P11.out)).mono ?_); rintro ex w14 ⟨rfl, rfl⟩)))
      go_roundw
      case rel => exact ⟨1, by omega, rfl, P11.out⟩
      case measure => simp [intOf]
    · have i0 := hP.1.2.2.2.at_ (i := 1) rfl
      have hno : ∀ W, Nst w kind win other x y a e px py W → NoTree W (.pointer (some ⟨w.heap.size + 1 + 1, 0, none⟩)) := fun W h => h.no.2
      have HNO := Lib.hid hno
      obtain ⟨⟨c1, c2, c3, c4, c5, c6⟩, d0, d1⟩ := hP.cells
      clear hP hno hk
      go_wp2_with (first
        | (go_at_call 26; ((with_reducible refine (create_f (HNO.out _ P1.out)).mono ?_); rintro ex w2 ⟨rfl, hb⟩); have P2 := Lib.hid (P1.out.next hb); obtain ⟨⟨c1, c2, c3, c4, c5, c6⟩, d0, d1⟩ := P2.out.cells; clear hb)
        | (go_at_call 20; ((with_reducible refine (destroy_f (refuse_no (HNO.out _ P2.out) hwin) (by decide)).mono ?_); rintro ex w3 ⟨rfl, hb⟩); have P3 := Lib.hid (P2.out.next hb); obtain ⟨⟨c1, c2, c3, c4, c5, c6⟩, d0, d1⟩ := P3.out.cells; clear hb)
        | (go_at_call 19; ((with_reducible refine (get_no0 (HNO.out _ P3.out) hwin).mono ?_); rintro ex w4 ⟨rfl, hb⟩); have P4 := Lib.hid ((P3.out.next hb).alloc (.cells #[.int .i64 0, .int .i64 0, .int .i64 0, .int .i64 0, .int .i64 0, .int .i64 0, .bool false] 50)); obtain ⟨⟨c1, c2, c3, c4, c5, c6⟩, d0, d1⟩ := P4.out.cells; clear hb)
        | (go_at_call 22; ((with_reducible refine (abs_no (HNO.out _ P4.out) hwin).mono ?_); rintro ex w5 ⟨rfl, hb⟩); have B5 := Lib.hid (win_kept hb); have P5 := Lib.hid ((P4.out.next hb).alloc (.cells #[.int .i64 0, .int .i64 0] 26)); obtain ⟨⟨c1, c2, c3, c4, c5, c6⟩, d0, d1⟩ := P5.out.cells; clear hb)
        | (go_at_call 15; ((with_reducible refine (under_no (HNO.out _ P5.out)).mono ?_); rintro ex w6 ⟨rfl, hb⟩); have B6 := Lib.hid (point_kept hb); obtain ⟨g0, g1⟩ := B6.out.c2.1; have B7 := Lib.hid ((B5.out.alloc _).next hb); obtain ⟨⟨h0, h1, h2, h3, h4, h5, h6⟩, -⟩ := B7.out.c7; have P6 := Lib.hid (P5.out.next hb); obtain ⟨⟨c1, c2, c3, c4, c5, c6⟩, d0, d1⟩ := P6.out.cells; clear hb)
        | (go_at_call 21; ((with_reducible refine (repar_f (refuse_no (HNO.out _ P6.out) hwin) (by decide)).mono ?_); rintro ex w7 ⟨rfl, hb⟩); have P7 := Lib.hid (P6.out.next hb); obtain ⟨⟨c1, c2, c3, c4, c5, c6⟩, d0, d1⟩ := P7.out.cells; clear hb)
        | (go_at_call 27; ((with_reducible refine (conf_f (refuse_no (HNO.out _ P7.out) hwin) (by decide)).mono ?_); rintro ex w8 ⟨rfl, hb⟩); have P8 := Lib.hid (P7.out.next hb); obtain ⟨⟨c1, c2, c3, c4, c5, c6⟩, d0, d1⟩ := P8.out.cells; clear hb)
        | (go_at_call 25; ((with_reducible refine (raise_f (refuse_no (HNO.out _ P8.out) hwin) (by decide)).mono ?_); rintro ex w9 ⟨rfl, hb⟩); have P9 := Lib.hid (P8.out.next hb); obtain ⟨⟨c1, c2, c3, c4, c5, c6⟩, d0, d1⟩ := P9.out.cells; clear hb)
        | (go_at_call 28; ((with_reducible refine (lower_f (refuse_no (HNO.out _ P9.out) hwin) (by decide)).mono ?_); rintro ex w10 ⟨rfl, hb⟩); have P10 := Lib.hid (P9.out.next hb); obtain ⟨⟨c1, c2, c3, c4, c5, c6⟩, d0, d1⟩ := P10.out.cells; clear hb)
        | (go_at_call 29; ((with_reducible refine (map_f (refuse_no (HNO.out _ P10.out) hwin) (by decide)).mono ?_); rintro ex w11 ⟨rfl, hb⟩); have P11 := Lib.hid (P10.out.next hb); obtain ⟨⟨c1, c2, c3, c4, c5, c6⟩, d0, d1⟩ := P11.out.cells; clear hb)
        | (go_at_call 18; ((with_reducible refine (kids_no (HNO.out _ P11.out) hwin).mono ?_); rintro ex w12 ⟨rfl, rfl⟩))
        | (go_at_call 24; ((with_reducible refine (view_no (HNO.out _ P11.out) hwin).mono ?_); rintro ex w13 ⟨rfl, rfl⟩))
        | (go_at_call 13; ((with_reducible refine (len_no (HNO.out _ P11.out)).mono ?_); rintro ex w14 ⟨rfl, rfl⟩)))
      go_roundw
      case rel => exact ⟨2, by omega, rfl, P11.out⟩
      case measure => simp [intOf]
    · clear hP hk
      go_wp2_with (go_at_call 11; ((with_reducible refine (HA.out _).mono ?_); rintro ex w2 ⟨rfl, hb⟩); have P2 := Lib.hid (P1.out.next hb); clear hb)
      go_ret
      exact ⟨rfl, P2.out.2⟩
end Go.Proofs.Ytlbbjinkblgfiaa
