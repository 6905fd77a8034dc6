import Derived.Test.YtjgleibbhgfcpaaRbA
import Derived.Test.YtjgleibbhgfcpaaRaM
import Derived.Test.YtjgleibbhgfcpaaRaY
namespace Go.Proofs.Ytjgleibbhgfcpaa
open Go.RowKit Go.Shelf
/-- The blocks of the law RasterNobody. -/
def Nst (w0 : World) (g : Nat) (T Q A : Array Value) (n0 n1 n3 : Nat) (c : Rc) (wx : World) : Prop :=
  Canv wx g none 0 0 c [] ∧ Blk wx n0 61 T ∧ Blk wx n1 32 Q ∧ Blk wx n3 49 A ∧ Below w0.heap.size w0 wx ∧ w0.heap.size ≤ g ∧ g ≠ n0 ∧ g ≠ n1 ∧ g ≠ n3
section
variable {w0 wx w1 : World} {g n0 n1 n3 : Nat} {T Q A : Array Value} {c c' : Rc} {pix : List Int}
theorem Nst.next (h : Nst w0 g T Q A n0 n1 n3 c wx) (hb : Below wx.heap.size wx w1) : Nst w0 g T Q A n0 n1 n3 c w1 :=
  ⟨h.1.next hb, h.2.1.next hb, h.2.2.1.next hb, h.2.2.2.1.next hb, h.2.2.2.2.1.trans (hb.mono h.2.2.2.2.1.size), h.2.2.2.2.2⟩
theorem Nst.step (h : Nst w0 g T Q A n0 n1 n3 c wx) (hC : Canv w1 g none 0 0 c' pix) (hk : Kept (Off g none) wx w1) : Nst w0 g T Q A n0 n1 n3 c' w1 := by
  obtain ⟨_, h1, h2, h3, h4, h5, h6, h7, h8⟩ := h
  have hp : pix = [] := List.eq_nil_of_length_eq_zero (by have := hC.2.2.2.1; simpa using this)
  subst hp
  have off : ∀ i, i ≠ g → Off g none i := fun i hi => ⟨hi, by simp⟩
  exact ⟨hC, hk.blk h1 (off _ (Ne.symm h6)), hk.blk h2 (off _ (Ne.symm h7)), hk.blk h3 (off _ (Ne.symm h8)), Kept.below h4 hk h4.size (fun i hi => off i (by omega)), h5, h6, h7, h8⟩
end
theorem canv_zero (w : World) : Canv (w.alloc (.cells #[.int .i64 0, .int .i64 0, .slice none 0 0, .int .i64 0, .int .i64 0, .int .i64 0, .int .i64 0] 75)) w.heap.size none 0 0 zeroR [] :=
  ⟨Blk.new _ _ _, fun b hb => by (cases hb), fun _ => rfl, rfl, fun u hu => by simp at hu, by omega, by omega, fun x y h => by rw [show hasB zeroR.x zeroR.y zeroR.w zeroR.h x y = false from hasB_emp emp_zero _ _] at h; cases h⟩
theorem nst_start (w : World) (T Q : Array Value) : Nst w (w.heap.size + 1 + 1) T Q #[.pointer none, .pointer (some ⟨w.heap.size + 1 + 1, 0, none⟩)] w.heap.size (w.heap.size + 1) (w.heap.size + 1 + 1 + 1) zeroR
    ((((w.alloc (.cells T 61)).alloc (.cells Q 32)).alloc (.cells #[.int .i64 0, .int .i64 0, .slice none 0 0, .int .i64 0, .int .i64 0, .int .i64 0, .int .i64 0] 75)).alloc (.cells #[.pointer none, .pointer (some ⟨w.heap.size + 1 + 1, 0, none⟩)] 49)) := by
  have hc := (canv_zero ((w.alloc (.cells T 61)).alloc (.cells Q 32))).alloc (.cells #[.pointer none, .pointer (some ⟨w.heap.size + 1 + 1, 0, none⟩)] 49)
  have hq := ((Blk.new (w.alloc (.cells T 61)) 32 Q).alloc (.cells #[.int .i64 0, .int .i64 0, .slice none 0 0, .int .i64 0, .int .i64 0, .int .i64 0, .int .i64 0] 75)).alloc (.cells #[.pointer none, .pointer (some ⟨w.heap.size + 1 + 1, 0, none⟩)] 49)
  have ha := Blk.new (((w.alloc (.cells T 61)).alloc (.cells Q 32)).alloc (.cells #[.int .i64 0, .int .i64 0, .slice none 0 0, .int .i64 0, .int .i64 0, .int .i64 0, .int .i64 0] 75)) 49 #[.pointer none, .pointer (some ⟨w.heap.size + 1 + 1, 0, none⟩)]
  refine ⟨by simpa using hc, (((Blk.new w _ _).alloc _).alloc _).alloc _, by simpa using hq, by simpa using ha, ?_, by omega, by omega, by omega, by omega⟩
  exact (((((Below.refl _ w).alloc (Nat.le_refl _) _).alloc (by simp) _).alloc (by simp; omega) _).alloc (by simp; omega) _)
theorem same_none (w : World) : Calls Try.prog 39 #[.agg #[.int .i64 0, .int .i64 0, .slice none 0 0], .agg #[.int .i64 0, .int .i64 0, .slice none 0 0]] w fun e w' => e = .returned (.bool true) ∧ Below w.heap.size w w' :=
  same_c 0 0 (.slice none 0 0) (.slice none 0 0) [] w Rd.none Rd.none (by simp)
set_option maxRecDepth 100000 in
set_option maxHeartbeats 8000000 in
theorem nobody_w (t : Pt) (s : Value) (x y : Int) (w : World) (hs : RdB w.heap.size w s t.zs) (ht : t.ok) :
    Calls Try.prog 14 #[t.val s, .agg #[.int .i64 x, .int .i64 y]] w fun e' w' => e' = .returned (.bool true) ∧ Below w.heap.size w w' := by
  obtain ⟨p, cc, rfl, hl, hcell⟩ := hs
  have HS := Lib.hid (show RdB w.heap.size w (.slice p t.zs.length cc) t.zs from ⟨p, cc, rfl, hl, hcell⟩)
  clear hcell hl
  obtain ⟨n, hn⟩ : ∃ n, n = t.zs.length := ⟨_, rfl⟩
  rw [← hn] at HS ⊢
  clear hn
  have HD0 := Lib.hid (fun W => does_nil t p n cc W)
  have HD1 := Lib.hid (fun (W : World) (g : Nat) (c : Rc) (hC : Canv W g none 0 0 c []) (hb : Below w.heap.size w W) => does_c g none 0 0 c [] t (.slice p n cc) W hC ((HS.out.below hb).rdA hb.size (fun b hb' => by cases hb')) ht)
  obtain ⟨k, rx, ry, ra, re, col, wd, mw, mh, zs⟩ := t
  unfold Pt.val at HD0 HD1 ⊢
  dsimp only at HD0 HD1 ⊢
  clear HS ht
  have HA0 := Lib.hid (fun W => at_nil x y W)
  have HA1 := Lib.hid (fun (W : World) (g : Nat) (c : Rc) (hC : Canv W g none 0 0 c []) => at_no g none 0 0 c [] x y W hC (by unfold atB; exact hasB_emp (by rfl) _ _))
  go_enter Try.func14, Try.ntmps14
  go_wp2
  have P0 := nst_start w #[.int .i64 k, .int .i64 rx, .int .i64 ry, .int .i64 ra, .int .i64 re, .int .u32 col, .int .i64 wd, .int .i64 mw, .int .i64 mh, .slice p n cc] #[.int .i64 x, .int .i64 y]
  generalize (((w.alloc (.cells #[.int .i64 k, .int .i64 rx, .int .i64 ry, .int .i64 ra, .int .i64 re, .int .u32 col, .int .i64 wd, .int .i64 mw, .int .i64 mh, .slice p n cc] 61)).alloc (.cells #[.int .i64 x, .int .i64 y] 32)).alloc (.cells #[.int .i64 0, .int .i64 0, .slice none 0 0, .int .i64 0, .int .i64 0, .int .i64 0, .int .i64 0] 75)).alloc (.cells #[.pointer none, .pointer (some ⟨w.heap.size + 1 + 1, 0, none⟩)] 49) = wa at P0 ⊢
  generalize w.heap.size + 1 + 1 + 1 = n3 at P0 ⊢
  generalize w.heap.size + 1 + 1 = g at P0 ⊢
  generalize w.heap.size + 1 = n1 at P0 ⊢
  obtain ⟨⟨r0, r1⟩, _⟩ := P0.2.2.2.1.c2
  have t0 := P0.2.1.at_ (i := 0) rfl
  have t1 := P0.2.1.at_ (i := 1) rfl
  have t2 := P0.2.1.at_ (i := 2) rfl
  have t3 := P0.2.1.at_ (i := 3) rfl
  have t4 := P0.2.1.at_ (i := 4) rfl
  have t5 := P0.2.1.at_ (i := 5) rfl
  have t6 := P0.2.1.at_ (i := 6) rfl
  have t7 := P0.2.1.at_ (i := 7) rfl
  have t8 := P0.2.1.at_ (i := 8) rfl
  have t9 := P0.2.1.at_ (i := 9) rfl
  refine wp_loop_rounds 3 ?_
  rw [rounds_succ]
  go_wp2_with (first
    | (go_at_call 33; refine (HD0.out _).mono ?_; rintro e1 w1 ⟨rfl, hb⟩; have P1 := P0.next hb; clear hb t0 t1 t2 t3 t4 t5 t6 t7 t8 t9 r0 r1; obtain ⟨⟨q0, q1⟩, _⟩ := P1.2.2.1.c2)
    | (go_at_call 37; refine (HA0.out _).mono ?_; rintro e2 w2 ⟨rfl, hb⟩; have P2 := P1.next hb; clear hb q0 q1)
    | (go_at_call 40; refine (image_nil _).mono ?_; rintro e3 w3 ⟨rfl, hb⟩; have P3 := P2.next hb; clear hb)
    | (go_at_call 39; refine (same_none _).mono ?_; rintro e4 w4 ⟨rfl, hb⟩; have P4 := P3.next hb; clear hb))
  rw [rounds_succ]
  obtain ⟨⟨r0, r1⟩, _⟩ := P4.2.2.2.1.c2
  have t0 := P4.2.1.at_ (i := 0) rfl
  have t1 := P4.2.1.at_ (i := 1) rfl
  have t2 := P4.2.1.at_ (i := 2) rfl
  have t3 := P4.2.1.at_ (i := 3) rfl
  have t4 := P4.2.1.at_ (i := 4) rfl
  have t5 := P4.2.1.at_ (i := 5) rfl
  have t6 := P4.2.1.at_ (i := 6) rfl
  have t7 := P4.2.1.at_ (i := 7) rfl
  have t8 := P4.2.1.at_ (i := 8) rfl
  have t9 := P4.2.1.at_ (i := 9) rfl
  go_wp2_with (first
    | (go_at_call 33; refine (HD1.out w4 g _ P4.1 P4.2.2.2.2.1).mono ?_; rintro e5 w5 ⟨rfl, hC5, hk5⟩; have P5 := P4.step hC5 hk5; clear hC5 hk5 t0 t1 t2 t3 t4 t5 t6 t7 t8 t9 r0 r1; obtain ⟨⟨q0, q1⟩, _⟩ := P5.2.2.1.c2)
    | (go_at_call 37; refine (HA1.out w5 g _ P5.1).mono ?_; rintro e6 w6 ⟨rfl, hb⟩; have P6 := P5.next hb; clear hb q0 q1)
    | (go_at_call 40; refine (image_no g 0 0 _ [] w6 P6.1).mono ?_; rintro e7 w7 ⟨rfl, hb⟩; have P7 := P6.next hb; clear hb)
    | (go_at_call 39; refine (same_none _).mono ?_; rintro e8 w8 ⟨rfl, hb⟩; have P8 := P7.next hb; clear hb))
  rw [rounds_succ]
  go_wp2_with (go_at_call 30; refine (awake_c _).mono ?_; rintro e9 w9 ⟨rfl, hb⟩)
  go_ret
  exact ⟨rfl, P8.2.2.2.2.1.trans (hb.mono P8.2.2.2.2.1.size)⟩
end Go.Proofs.Ytjgleibbhgfcpaa
