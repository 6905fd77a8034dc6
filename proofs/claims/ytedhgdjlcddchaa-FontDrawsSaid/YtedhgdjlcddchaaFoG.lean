import Derived.Test.YtedhgdjlcddchaaFoF
import Derived.Test.YtedhgdjlcddchaaFoC
import Derived.Test.YtedhgdjlcddchaaRcG
namespace Go.Proofs.Ytedhgdjlcddchaa
open Go.RowKit Go.Shelf
theorem fillP_len (W : Nat) (c : Rc) (col x y : Int) (pix : List Int) : (fillP W c col x y pix).length = pix.length := pnt_len
theorem fillP_cols {W H : Nat} {c : Rc} {col x y : Int} {pix : List Int} (hl : pix.length = W * H) (hc : Cols pix) (hcol : 0 ≤ col ∧ col < 4294967296) : Cols (fillP W c col x y pix) :=
  pnt_cols hl hc fun _ _ _ _ _ _ _ => hcol
theorem cellsP_ok {W H : Nat} {c : Rc} {col x y : Int} {b : Nat} {pix : List Int} (hl : pix.length = W * H) (hc : Cols pix) (hcol : 0 ≤ col ∧ col < 4294967296) (n : Nat) :
    (cellsP W c col x y b pix n).length = W * H ∧ Cols (cellsP W c col x y b pix n) := by
  induction n with
  | zero => exact ⟨hl, hc⟩
  | succ n ih =>
    unfold cellsP
    split
    · exact ⟨(fillP_len ..).trans ih.1, fillP_cols ih.1 ih.2 hcol⟩
    · exact ih
theorem rowsP_ok {W H : Nat} {c : Rc} {col x y : Int} {s : Nat} {pix : List Int} (hl : pix.length = W * H) (hc : Cols pix) (hcol : 0 ≤ col ∧ col < 4294967296) (n : Nat) :
    (rowsP W c col x y s pix n).length = W * H ∧ Cols (rowsP W c col x y s pix n) := by
  induction n with
  | zero => exact ⟨hl, hc⟩
  | succ n ih => unfold rowsP; exact cellsP_ok ih.1 ih.2 hcol 8
theorem textP_ok {W H : Nat} {c : Rc} {col x y : Int} {s : ByteArray} {pix : List Int} (hl : pix.length = W * H) (hc : Cols pix) (hcol : 0 ≤ col ∧ col < 4294967296) (n : Nat) :
    (textP W c col x y s pix n).length = W * H ∧ Cols (textP W c col x y s pix n) := by
  induction n with
  | zero => exact ⟨hl, hc⟩
  | succ n ih => unfold textP; exact rowsP_ok ih.1 ih.2 hcol 16
/-- One place, as the reference paints it. -/
theorem ref_fill {W H : Nat} {c : Rc} {col x y : Int} {pix : List Int} (hl : pix.length = W * H) : refPix W c ⟨0, x, y, 1, 1, col, 0, 0, 0, []⟩ pix = fillP W c col x y pix := by
  unfold refPix fillP
  rw [if_pos (.inl rfl)]
  refine pnt_congr hl fun i j _ _ u => ?_
  unfold inB colF
  dsimp only
  rw [if_pos rfl, Bool.and_comm]
/-- Does, painting one place. -/
theorem rfill_c (W H b n cc : Nat) (c : Rc) (pix : List Int) (x y col : Int) (w : World) (hW : W ≤ 1024) (hH : H ≤ 1024) (hn : n = W * H) (hR : Row w b n pix) (hcols : Cols pix) (hcol : 0 ≤ col ∧ col < 4294967296) :
    Calls Try.prog 69 #[cvA W H b n cc c, .agg #[.int .i64 0, .int .i64 x, .int .i64 y, .int .i64 1, .int .i64 1, .int .u32 col, .int .i64 0, .int .i64 0, .int .i64 0, .slice none 0 0]] w fun e' w' =>
      ∃ G cap, e' = .returned (cvA W H G n cap c) ∧ Row w' G n (fillP W c col x y pix) ∧ Below w.heap.size w w' := by
  have hl : pix.length = W * H := by obtain ⟨_, _, _, h, _⟩ := hR; rw [h, hn]
  have h := rdoes_c W H b n cc c pix ⟨0, x, y, 1, 1, col, 0, 0, 0, []⟩ (.slice none 0 0) w hW hH hn hR hcols ⟨none, 0, rfl, by simp, fun j u hu => by simp at hu⟩ ⟨hcol, fun u hu => by simp at hu, by show (0 : Int) ≤ _; omega⟩
  refine h.mono fun e' w' ⟨G, cap, h1, h2, _, h4⟩ => ⟨G, cap, ?_, ?_, h4⟩
  · rw [h1]; rfl
  · rw [← ref_fill hl]; exact h2
/-- What the reference's Draw keeps. -/
def Rdr (w0 : World) (n0 n1 n2 : Nat) (W H n : Nat) (c : Rc) (x y : Int) (Z : Array Value) (G cap : Nat) (pix : List Int) (wx : World) : Prop :=
  Blk wx n0 58 #[.int .i64 W, .int .i64 H, .slice (some ⟨G, 0, none⟩) n cap, .int .i64 c.x, .int .i64 c.y, .int .i64 c.w, .int .i64 c.h] ∧ Blk wx n1 32 #[.int .i64 x, .int .i64 y] ∧
    Blk wx n2 58 Z ∧ Row wx G n pix ∧ Below w0.heap.size w0 wx ∧ w0.heap.size ≤ n0 ∧ w0.heap.size ≤ n2 ∧ n0 ≠ n2
section
variable {w0 wx w1 : World} {n0 n1 n2 W H n : Nat} {c : Rc} {x y : Int} {Z : Array Value} {G cap G' cap' : Nat} {pix pix' : List Int}
/-- The same, the canvas's cells as they stand. -/
def Rdq (w0 : World) (n0 n1 n2 : Nat) (n : Nat) (x y : Int) (Z : Array Value) (C : Array Value) (G : Nat) (pix : List Int) (wx : World) : Prop :=
  Blk wx n0 58 C ∧ Blk wx n1 32 #[.int .i64 x, .int .i64 y] ∧ Blk wx n2 58 Z ∧ Row wx G n pix ∧ Below w0.heap.size w0 wx ∧ w0.heap.size ≤ n0 ∧ w0.heap.size ≤ n2 ∧ n0 ≠ n2
theorem Rdr.next (h : Rdr w0 n0 n1 n2 W H n c x y Z G cap pix wx) (hb : Below wx.heap.size wx w1) : Rdr w0 n0 n1 n2 W H n c x y Z G cap pix w1 :=
  ⟨h.1.next hb, h.2.1.next hb, h.2.2.1.next hb, h.2.2.2.1.next hb, h.2.2.2.2.1.trans (hb.mono h.2.2.2.2.1.size), h.2.2.2.2.2⟩
theorem Rdr.to (h : Rdr w0 n0 n1 n2 W H n c x y Z G cap pix wx) (e : pix = pix') : Rdr w0 n0 n1 n2 W H n c x y Z G cap pix' wx := e ▸ h
theorem Rdr.with (h : Rdr w0 n0 n1 n2 W H n c x y Z G cap pix wx) (hG : Row wx G' n pix') :
    Rdq w0 n0 n1 n2 n x y Z #[.int .i64 W, .int .i64 H, .slice (some ⟨G, 0, none⟩) n cap, .int .i64 c.x, .int .i64 c.y, .int .i64 c.w, .int .i64 c.h] G' pix' wx :=
  ⟨h.1, h.2.1, h.2.2.1, hG, h.2.2.2.2⟩
theorem Rdq.rset {C : Array Value} (h : Rdq w0 n0 n1 n2 n x y Z C G pix wx) (i : Nat) (v : Value) : Rdq w0 n0 n1 n2 n x y Z (C.setIfInBounds i v) G pix (wx.setCell ⟨n0, i, none⟩ v) := by
  obtain ⟨h1, h2, h3, h4, h5, h6, h7, h8⟩ := h
  exact ⟨h1.set_ i v, h2.far (h2.ne_ h1 (by decide)) _, h3.far (Ne.symm h8) _, h4.far (fun e => h4.ne_ h1 (by decide) e.symm) _, h5.setCell h6 _, h6, h7, h8⟩
theorem Rdq.zset {C : Array Value} (h : Rdq w0 n0 n1 n2 n x y Z C G pix wx) (i : Nat) (v : Value) : Rdq w0 n0 n1 n2 n x y (Z.setIfInBounds i v) C G pix (wx.setCell ⟨n2, i, none⟩ v) := by
  obtain ⟨h1, h2, h3, h4, h5, h6, h7, h8⟩ := h
  exact ⟨h1.far h8 _, h2.far (h2.ne_ h3 (by decide)) _, h3.set_ i v, h4.far (fun e => h4.ne_ h3 (by decide) e.symm) _, h5.setCell h7 _, h6, h7, h8⟩
theorem Rdr.last (h : Rdr w0 n0 n1 n2 W H n c x y Z G cap pix wx) (v0 v1 v2 v3 v4 v5 v6 : Value) :
    Row (((((((wx.setCell ⟨n2, 0, none⟩ v0).setCell ⟨n2, 1, none⟩ v1).setCell ⟨n2, 2, none⟩ v2).setCell ⟨n2, 3, none⟩ v3).setCell ⟨n2, 4, none⟩ v4).setCell ⟨n2, 5, none⟩ v5).setCell ⟨n2, 6, none⟩ v6) G n pix ∧
      Below w0.heap.size w0 (((((((wx.setCell ⟨n2, 0, none⟩ v0).setCell ⟨n2, 1, none⟩ v1).setCell ⟨n2, 2, none⟩ v2).setCell ⟨n2, 3, none⟩ v3).setCell ⟨n2, 4, none⟩ v4).setCell ⟨n2, 5, none⟩ v5).setCell ⟨n2, 6, none⟩ v6) := by
  have k0 := (h.with h.2.2.2.1).zset 0 v0
  have k1 := k0.zset 1 v1
  have k2 := k1.zset 2 v2
  have k3 := k2.zset 3 v3
  have k4 := k3.zset 4 v4
  have k5 := k4.zset 5 v5
  have k6 := k5.zset 6 v6
  exact ⟨k6.2.2.2.1, k6.2.2.2.2.1⟩
theorem Rdq.seven {C : Array Value} (h : Rdq w0 n0 n1 n2 n x y Z C G pix wx) (hC : C.size = 7) (W H : Nat) (c : Rc) (cap : Nat) :
    Rdr w0 n0 n1 n2 W H n c x y Z G cap pix (((((((wx.setCell ⟨n0, 0, none⟩ (.int .i64 W)).setCell ⟨n0, 1, none⟩ (.int .i64 H)).setCell ⟨n0, 2, none⟩ (.slice (some ⟨G, 0, none⟩) n cap)).setCell ⟨n0, 3, none⟩ (.int .i64 c.x)).setCell ⟨n0, 4, none⟩ (.int .i64 c.y)).setCell ⟨n0, 5, none⟩ (.int .i64 c.w)).setCell ⟨n0, 6, none⟩ (.int .i64 c.h)) := by
  have e : ((((((C.setIfInBounds 0 (.int .i64 W)).setIfInBounds 1 (.int .i64 H)).setIfInBounds 2 (.slice (some ⟨G, 0, none⟩) n cap)).setIfInBounds 3 (.int .i64 c.x)).setIfInBounds 4 (.int .i64 c.y)).setIfInBounds 5 (.int .i64 c.w)).setIfInBounds 6 (.int .i64 c.h) = #[.int .i64 W, .int .i64 H, .slice (some ⟨G, 0, none⟩) n cap, .int .i64 c.x, .int .i64 c.y, .int .i64 c.w, .int .i64 c.h] := by
    obtain ⟨l⟩ := C
    match l, hC with
    | [a0, a1, a2, a3, a4, a5, a6], _ => simp
  have k0 := h.rset 0 (.int .i64 W)
  have k1 := k0.rset 1 (.int .i64 H)
  have k2 := k1.rset 2 (.slice (some ⟨G, 0, none⟩) n cap)
  have k3 := k2.rset 3 (.int .i64 c.x)
  have k4 := k3.rset 4 (.int .i64 c.y)
  have k5 := k4.rset 5 (.int .i64 c.w)
  have k6 := k5.rset 6 (.int .i64 c.h)
  rw [e] at k6
  exact k6
end
theorem rdr_start (w : World) (W H b n cc : Nat) (c : Rc) (x y : Int) (Z : Array Value) (pix : List Int) (hR : Row w b n pix) :
    Rdr w w.heap.size (w.heap.size + 1) (w.heap.size + 1 + 1) W H n c x y Z b cc pix (((w.alloc (.cells #[.int .i64 W, .int .i64 H, .slice (some ⟨b, 0, none⟩) n cc, .int .i64 c.x, .int .i64 c.y, .int .i64 c.w, .int .i64 c.h] 58)).alloc (.cells #[.int .i64 x, .int .i64 y] 32)).alloc (.cells Z 58)) := by
  have h1 := (Blk.new (w.alloc (.cells #[.int .i64 W, .int .i64 H, .slice (some ⟨b, 0, none⟩) n cc, .int .i64 c.x, .int .i64 c.y, .int .i64 c.w, .int .i64 c.h] 58)) 32 #[.int .i64 x, .int .i64 y]).alloc (.cells Z 58)
  have h2 := Blk.new ((w.alloc (.cells #[.int .i64 W, .int .i64 H, .slice (some ⟨b, 0, none⟩) n cc, .int .i64 c.x, .int .i64 c.y, .int .i64 c.w, .int .i64 c.h] 58)).alloc (.cells #[.int .i64 x, .int .i64 y] 32)) 58 Z
  have hB : Below w.heap.size w (((w.alloc (.cells #[.int .i64 W, .int .i64 H, .slice (some ⟨b, 0, none⟩) n cc, .int .i64 c.x, .int .i64 c.y, .int .i64 c.w, .int .i64 c.h] 58)).alloc (.cells #[.int .i64 x, .int .i64 y] 32)).alloc (.cells Z 58)) :=
    (((Below.refl _ w).alloc (Nat.le_refl _) _).alloc (by simp) _).alloc (by simp; omega) _
  exact ⟨((Blk.new w _ _).alloc _).alloc _, by simpa using h1, by simpa using h2, hR.next hB, hB, Nat.le_refl _, by omega, by omega⟩
set_option maxRecDepth 100000 in
set_option maxHeartbeats 8000000 in
theorem rdraw_c (W H b n cc : Nat) (c : Rc) (pix : List Int) (x y col : Int) (s : ByteArray) (N : Nat) (w : World) (hW : W ≤ 1024) (hH : H ≤ 1024) (hn : n = W * H) (hR : Row w b n pix) (hcols : Cols pix) (hcol : 0 ≤ col ∧ col < 4294967296)
    (_hs : s.size ≤ 140737488355328) (hp : planeP x y = true) (hN : Upto x s.size N) :
    Calls Try.prog 40 #[cvA W H b n cc c, .agg #[.int .i64 x, .int .i64 y], .string s, .int .u32 col] w fun e' w' =>
      ∃ G cap, e' = .returned (cvA W H G n cap c) ∧ Row w' G n (textP W c col x y s pix N) ∧ Below w.heap.size w w' := by
  have hxy : (-32768 ≤ x ∧ x ≤ 32767) ∧ (-32768 ≤ y ∧ y ≤ 32767) := by unfold planeP at hp; simpa using hp
  obtain ⟨⟨x1, x2⟩, y1, y2⟩ := hxy
  obtain ⟨n1, n2, n3, n4⟩ := hN
  have hl : pix.length = W * H := by obtain ⟨_, _, _, h, _⟩ := hR; rw [h, hn]
  have HT := Lib.hid (fun N => textP_ok (c := c) (x := x) (y := y) (s := s) hl hcols hcol N)
  have P0 := rdr_start w W H b n cc c x y #[.int .i64 0, .int .i64 0, .slice none 0 0, .int .i64 0, .int .i64 0, .int .i64 0, .int .i64 0] pix hR
  have HN3 := Lib.hid n3
  have HN4 := Lib.hid n4
  have HWH := Lib.hid hn
  have HC := Lib.hid hcol
  clear hn hp n3 n4 hl hcols hR hcol
  go_enter Try.func40, Try.ntmps40
  go_wp2_with fail
  go_loopw [9] (fun z wr => ∃ k : Nat, k ≤ N ∧ z = .int .i64 k ∧ ∃ G cap, Rdr w w.heap.size (w.heap.size + 1) (w.heap.size + 1 + 1) W H n c x y #[.int .i64 0, .int .i64 0, .slice none 0 0, .int .i64 0, .int .i64 0, .int .i64 0, .int .i64 0] G cap (textP W c col x y s pix k) wr) (fun z _ => s.size - (intOf z).toNat)
  case atStart => exact ⟨0, Nat.zero_le _, rfl, b, cc, P0⟩
  case round =>
    obtain ⟨k, hk, rfl, G, cap, P1⟩ := hrel
    clear P0
    obtain ⟨⟨q0, q1⟩, _⟩ := P1.2.1.c2
    have hkc : (k < N ∧ k < s.size ∧ k < 1024 ∧ x + 8 * k ≤ 32767) ∨ (k = N ∧ s.size ≤ k) ∨ (k = N ∧ k < s.size ∧ 1024 ≤ k) ∨ (k = N ∧ k < s.size ∧ k < 1024 ∧ 32767 < x + 8 * k) := by
      rcases Nat.lt_or_ge k N with h | h
      · have := HN3.out k h; left; omega
      · have := HN4.out
        have e : k = N := by omega
        subst e
        by_cases h1 : s.size ≤ k
        · right; left; omega
        by_cases h2 : 1024 ≤ k
        · right; right; left; omega
        · right; right; right; omega
    rcases hkc with ⟨h1, h2, h3, h4⟩ | ⟨rfl, h2⟩ | ⟨rfl, h2, h3⟩ | ⟨rfl, h2, h3, h4⟩
    · have HX := Lib.hid (show textP W c col x y s pix (k + 1) = rowsP W c col (x + 8 * k) y (sgn s k) (textP W c col x y s pix k) 16 from rfl)
      have HK := Lib.hid (HT.out k)
      have hg := Lib.hid (sgn_eq (s := s) (k := k) h2)
      have hg8 := sgn_lt s k
      generalize textP W c col x y s pix k = pk at P1 HX HK
      go_wp2_with fail
      clear q0 q1
      go_loopw [10] (fun z wr => ∃ r : Nat, r ≤ 16 ∧ z = .int .i64 r ∧ ∃ G cap, Rdr w w.heap.size (w.heap.size + 1) (w.heap.size + 1 + 1) W H n c x y #[.int .i64 0, .int .i64 0, .slice none 0 0, .int .i64 0, .int .i64 0, .int .i64 0, .int .i64 0] G cap (rowsP W c col (x + 8 * k) y (sgn s k) pk r) wr) (fun z _ => 16 - (intOf z).toNat)
      case atStart => exact ⟨0, Nat.zero_le _, rfl, G, cap, P1⟩
      case round =>
        obtain ⟨r, hr, rfl, G2, cap2, P2⟩ := hrel
        clear P1
        by_cases hlr : r < 16
        · have HY := Lib.hid (show rowsP W c col (x + 8 * k) y (sgn s k) pk (r + 1) = cellsP W c col (x + 8 * k) (y + r) (bitN (sgn s k) r) (rowsP W c col (x + 8 * k) y (sgn s k) pk r) 8 from rfl)
          have HK2 := Lib.hid (rowsP_ok (c := c) (col := col) (x := x + 8 * k) (y := y) (s := sgn s k) HK.out.1 HK.out.2 HC.out r)
          have hB : ∀ W, Calls Try.prog 29 #[.int .u8 ((s[k]'h2).toNat : Nat), .int .i64 r] W fun e w' => e = .returned (.int .u8 (bitN (sgn s k) r : Nat)) ∧ W = w' := fun W => by
            have h := rbits_c (sgn s k) r W (by omega) (by omega)
            rw [show bitI (sgn s k) r = bitN (sgn s k) r by unfold bitI; rw [if_neg (by omega), Int.toNat_natCast, Int.toNat_natCast]] at h
            rw [hg.out]
            exact h
          have HB := Lib.hid hB
          clear hB
          have hb1 := (bit_lt (sgn s k) r).1
          generalize rowsP W c col (x + 8 * k) y (sgn s k) pk r = pr at P2 HY HK2
          generalize bitN (sgn s k) r = bt at hb1 HB HY
          have hd : decide ((r : Int) < 16) = true := by simp; omega
          go_wp2_with fail
          go_loopw [11] (fun z wr => ∃ u : Nat, u ≤ 8 ∧ z = .int .i64 u ∧ ∃ G cap, Rdr w w.heap.size (w.heap.size + 1) (w.heap.size + 1 + 1) W H n c x y #[.int .i64 0, .int .i64 0, .slice none 0 0, .int .i64 0, .int .i64 0, .int .i64 0, .int .i64 0] G cap (cellsP W c col (x + 8 * k) (y + r) bt pr u) wr) (fun z _ => 8 - (intOf z).toNat)
          case atStart => exact ⟨0, Nat.zero_le _, rfl, G2, cap2, P2⟩
          case round =>
            obtain ⟨u, hu, rfl, G3, cap3, P3⟩ := hrel
            clear P2
            by_cases hlu : u < 8
            · have HZ := Lib.hid (show cellsP W c col (x + 8 * k) (y + r) bt pr (u + 1) = if onB bt u = true then fillP W c col (x + 8 * k + u) (y + r) (cellsP W c col (x + 8 * k) (y + r) bt pr u) else cellsP W c col (x + 8 * k) (y + r) bt pr u from rfl)
              have HK3 := Lib.hid (cellsP_ok (c := c) (col := col) (x := x + 8 * k) (y := y + r) (b := bt) HK2.out.1 HK2.out.2 HC.out u)
              generalize cellsP W c col (x + 8 * k) (y + r) bt pr u = pu at P3 HZ HK3
              have HP : ∀ W, Calls Try.prog 60 #[.int .i64 (7 - (u : Int))] W fun e w' => e = .returned (.int .i64 (2 ^ (7 - u) : Nat)) ∧ W = w' := fun W => by
                have h := power_c (7 - u) W (by omega)
                rw [show ((7 - u : Nat) : Int) = 7 - (u : Int) by omega] at h
                exact h
              have hpz := pow2_le (k := 7 - u) (by omega)
              have hpp : 0 < 2 ^ (7 - u) := Nat.pow_pos (by omega)
              have hon : onB bt u = (bt / 2 ^ (7 - u) % 2 == 1) := rfl
              have HP' := Lib.hid HP
              clear HP
              generalize 2 ^ (7 - u) = z at HP' hpz hpp hon
              have e0 : (bt : Int) / (z : Int) = ((bt / z : Nat) : Int) := by rw [Int.natCast_ediv]
              have e1 : 0 ≤ (bt : Int) / (z : Int) := by rw [e0]; exact Int.natCast_nonneg _
              have e2 : (bt : Int) / (z : Int) ≤ 1000 := by rw [e0]; exact Int.le_trans (Int.ofNat_le.2 (Nat.div_le_self bt z)) (by omega)
              have e3 : (((bt : Int) / (z : Int)) % 2 == 1) = onB bt u := by
                rw [e0, hon]; generalize bt / z = d; rw [Bool.eq_iff_iff]; simp; omega
              clear hon e0
              obtain ⟨⟨q0, q1⟩, _⟩ := P3.2.1.c2
              obtain ⟨⟨z0, z1, z2, z3, z4, z5, z6⟩, f0, f1, f2, f3, f4, f5, f6⟩ := P3.1.c7
              by_cases ho : onB bt u = true
              · rw [ho] at e3
                have HD := Lib.hid (HZ.out.trans (if_pos ho))
                clear ho HZ
                go_wp2_with (first
                  | (go_at_call 29; (with_reducible refine (HB.out _).mono ?_); rintro e5 w5 ⟨rfl, rfl⟩)
                  | (go_at_call 60; (with_reducible refine (HP'.out _).mono ?_); rintro e5 w5 ⟨rfl, rfl⟩)
                  | (go_at_call 69; refine (rfill_c W H G3 n cap3 c pu (x + 8 * k + u) (y + r) col _ hW hH HWH.out P3.2.2.2.1 HK3.out.2 HC.out).mono ?_; rintro e5 w5 ⟨G4, cap4, rfl, hR4, hb⟩; have P4 := (P3.next hb).with hR4; clear P3 hR4 hb q0 q1 z0 z1 z2 z3 z4 z5 z6 f0 f1 f2 f3 f4 f5 f6; obtain ⟨⟨z0, z1, z2, z3, z4, z5, z6⟩, f0, f1, f2, f3, f4, f5, f6⟩ := P4.1.c7; have hl4 := P4.1.lt))
                go_roundw
                case rel => exact ⟨u + 1, by omega, by go_num, G4, cap4, (P4.seven rfl W H c cap4).to HD.out.symm⟩
                case measure => simp [intOf]; omega
              · have HD := Lib.hid (HZ.out.trans (if_neg ho))
                rw [Bool.not_eq_true] at ho
                rw [ho] at e3
                clear ho HZ z0 z1 z2 z3 z4 z5 z6 f0 f1 f2 f3 f4 f5 f6
                go_wp2_with (first
                  | (go_at_call 29; (with_reducible refine (HB.out _).mono ?_); rintro e5 w5 ⟨rfl, rfl⟩)
                  | (go_at_call 60; (with_reducible refine (HP'.out _).mono ?_); rintro e5 w5 ⟨rfl, rfl⟩))
                go_roundw
                case rel => exact ⟨u + 1, by omega, by go_num, G3, cap3, P3.to HD.out.symm⟩
                case measure => simp [intOf]; omega
            · obtain rfl : u = 8 := by omega
              go_wp2_with fail
              go_roundw
              case rel => exact ⟨r + 1, by omega, by go_num, G3, cap3, P3.to HY.out.symm⟩
              case measure => simp [intOf]; omega
        · obtain rfl : r = 16 := by omega
          go_wp2_with fail
          go_roundw
          case rel => exact ⟨k + 1, by omega, by go_num, G2, cap2, P2.to HX.out.symm⟩
          case measure => simp [intOf]; omega
    all_goals
      obtain ⟨⟨z0, z1, z2, z3, z4, z5, z6⟩, f0, f1, f2, f3, f4, f5, f6⟩ := P1.1.c7
      obtain ⟨_, v0, v1, v2, v3, v4, v5, v6⟩ := P1.2.2.1.c7
      have hl4 := P1.2.2.1.lt
      go_wp2_with fail
      refine bodyPost_ret (v := cvA W H G n cap c) (by simp [results, Try.results40, go_sem, *]; try rfl) rfl ?_
      first | exact ⟨G, cap, rfl, P1.last _ _ _ _ _ _ _⟩ | exact ⟨G, ⟨cap, rfl⟩, P1.last _ _ _ _ _ _ _⟩
set_option maxRecDepth 100000 in
set_option maxHeartbeats 1000000 in
theorem rdraw_no (W H b n cc : Nat) (c : Rc) (pix : List Int) (x y col : Int) (s : ByteArray) (w : World) (hR : Row w b n pix) (hp : planeP x y = false) :
    Calls Try.prog 40 #[cvA W H b n cc c, .agg #[.int .i64 x, .int .i64 y], .string s, .int .u32 col] w fun e' w' =>
      e' = .returned (cvA W H b n cc c) ∧ Row w' b n pix ∧ Below w.heap.size w w' := by
  have hxy : x < -32768 ∨ (-32768 ≤ x ∧ 32767 < x) ∨ (-32768 ≤ x ∧ x ≤ 32767 ∧ y < -32768) ∨ (-32768 ≤ x ∧ x ≤ 32767 ∧ -32768 ≤ y ∧ 32767 < y) := by
    unfold planeP at hp
    have h : ¬ ((-32768 ≤ x ∧ x ≤ 32767) ∧ (-32768 ≤ y ∧ y ≤ 32767)) := fun h => by
      rw [decide_eq_true h.1, decide_eq_true h.2] at hp; cases hp
    omega
  have P0 := rdr_start w W H b n cc c x y #[.int .i64 W, .int .i64 H, .slice (some ⟨b, 0, none⟩) n cc, .int .i64 c.x, .int .i64 c.y, .int .i64 c.w, .int .i64 c.h] pix hR
  have r1 := P0.2.2.2.1
  have r2 := P0.2.2.2.2.1
  clear hp hR P0
  rcases hxy with h1 | ⟨h1, h2⟩ | ⟨h1, h2, h3⟩ | ⟨h1, h2, h3, h4⟩
  all_goals
    go_enter Try.func40, Try.ntmps40
    go_wp2_with fail
    refine bodyPost_ret (v := cvA W H b n cc c) (by simp [results, Try.results40, go_sem]; try rfl) rfl ?_
    with_reducible exact ⟨rfl, r1, r2⟩
end Go.Proofs.Ytedhgdjlcddchaa
