import Derived.Test.YtedhgdjlcddchaaRaJ
namespace Go.Proofs.Ytedhgdjlcddchaa
open Go.RowKit
theorem Own.slice {w : World} {B : Nat} {v : Value} {zs : List Int} (h : Own w B v zs) : ∃ p c, v = .slice p zs.length c := by
  rcases h with ⟨rfl, rfl⟩ | ⟨g, cap, cur, rfl, _⟩
  · exact ⟨none, 0, rfl⟩
  · exact ⟨_, _, rfl⟩
theorem Own.grown {w w' : World} {B : Nat} {v : Value} {zs : List Int} {row : Option Nat} (h : Own w B v zs) (hg : w.grownBy w' row) (hr : ∀ r, row = some r → r < B) : Own w' B v zs := by
  rcases h with h | ⟨g, cap, cur, h1, h2, h3, h4⟩
  · exact Or.inl h
  · exact Or.inr ⟨g, cap, cur, h1, h2, h3.grown hg (fun e => by have := hr g e.symm; omega), h4⟩
theorem Own.below {w w' : World} {B : Nat} {v : Value} {zs : List Int} (h : Own w B v zs) (hb : Below w.heap.size w w') : Own w' B v zs := h.grown (only_of_below hb none) (fun _ e => by cases e)
theorem Own.less {w : World} {B B' : Nat} {v : Value} {zs : List Int} (h : Own w B v zs) (hB : B' ≤ B) : Own w B' v zs := by
  rcases h with h | ⟨g, cap, cur, h1, h2, h3, h4⟩
  · exact Or.inl h
  · exact Or.inr ⟨g, cap, cur, h1, Nat.le_trans hB h2, h3, h4⟩
theorem Own.set {w : World} {B : Nat} {v : Value} {zs : List Int} {q : Nat} {t : TypeId} {cs : Array Value} (h : Own w B v zs) (hq : Blk w q t cs) (ht : t ≠ 50) (i : Nat) (u : Value) : Own (w.setCell ⟨q, i, none⟩ u) B v zs := by
  rcases h with h | ⟨g, cap, cur, h1, h2, h3, h4⟩
  · exact Or.inl h
  · exact Or.inr ⟨g, cap, cur, h1, h2, h3.far (h3.ne_ hq (fun e => ht e.symm)) _, h4⟩
set_option maxHeartbeats 2000000 in
theorem image_c (g b : Nat) (W H : Nat) (c : Rc) (pix : List Int) (w : World) (hC : Canv w g (some b) W H c pix) :
    Calls Try.prog 39 #[.pointer (some ⟨g, 0, none⟩)] w fun e w' => ∃ v, e = .returned (.agg #[.int .i64 W, .int .i64 H, v]) ∧ Own w' w.heap.size v pix ∧ Below w.heap.size w w' := by
  have hgl := hC.lt
  have g0 : w.cell? ⟨g, 0, none⟩ = some (.int .i64 W) := hC.1.at_ (i := 0) rfl
  have g1 : w.cell? ⟨g, 1, none⟩ = some (.int .i64 H) := hC.1.at_ (i := 1) rfl
  have g2 : w.cell? ⟨g, 2, none⟩ = some (.slice (some ⟨b, 0, none⟩) (W * H) (W * H)) := hC.1.at_ (i := 2) rfl
  obtain ⟨N, hN⟩ : ∃ N, N = W * H := ⟨_, rfl⟩
  have hW := hC.2.2.2.2.2.1
  have hH := hC.2.2.2.2.2.2.1
  have hNb : N ≤ 1048576 := by rw [hN]; exact Nat.le_trans (Nat.mul_le_mul hW hH) (by omega)
  have hlen : pix.length = N := hN ▸ hC.2.2.2.1
  rw [← hN] at g2
  have HL := Lib.hid hlen
  have hK : ∀ wx, Below w.heap.size w wx → Calls Try.prog 68 #[.slice (some ⟨b, 0, none⟩) N N] wx fun e w' => ∃ v, e = .returned v ∧ Own w' w.heap.size v pix ∧ Below wx.heap.size wx w' := by
    intro wx hb
    refine (clone_c b N N pix wx hlen ((hC.2.1 b rfl).next hb) hNb).mono fun e w' ⟨v, h1, h2, h3⟩ => ⟨v, h1, ?_, h3⟩
    rcases h2 with h2 | ⟨g', cap, cur, h4, h5, h6⟩
    · exact Or.inl h2
    · exact Or.inr ⟨g', cap, cur, h4, Nat.le_trans hb.size h5, h6⟩
  have HK := Lib.hid hK
  clear hK hlen hN hC
  go_enter Try.func39, Try.ntmps39
  go_wp2_with (go_at_call 68; (refine (HK.out _ (by repeat' (first | (with_reducible exact Below.refl _ _) | (with_reducible assumption) | (with_reducible refine Below.alloc ?_ ?_ _) | (with_reducible refine Below.drew ?_) | (with_reducible refine Below.setCell ?_ ?_ _) | (with_reducible refine Below.on (by with_reducible assumption) ?_ ?_) | go_size))).mono ?_; rintro e w1 ⟨v, rfl, hO, hb⟩; obtain ⟨p, cap, rfl⟩ := hO.slice; have R0 := ((Blk.new w 56 _).alloc (.cells #[.int .i64 W, .int .i64 H, .slice (some ⟨b, 0, none⟩) N N] 56)).next hb; have R1 : Blk w1 (w.heap.size + 1) 56 #[.int .i64 W, .int .i64 H, .slice (some ⟨b, 0, none⟩) N N]   := (by have h := (Blk.new (w.alloc (.cells #[.int .i64 0, .int .i64 0, .slice none 0 0] 56)) 56 #[.int .i64 W, .int .i64 H, .slice (some ⟨b, 0, none⟩) N N]).next hb; simpa using h); obtain ⟨⟨c0, c1, c2⟩, f0, f1, f2⟩ := R0.c3; obtain ⟨⟨d0, d1, d2⟩, e0, e1, e2⟩ := R1.c3; have HB := Lib.hid hb; clear hb))
  refine bodyPost_ret (v := .agg #[.int .i64 W, .int .i64 H, .slice p pix.length cap]) (by simp [results, Try.results39, go_sem, *]) rfl ?_
  have k1 := hO.set R1 (by decide) 2 (.slice p pix.length cap)
  have r0 := R0.far (p := ⟨w.heap.size + 1, 2, none⟩) (show w.heap.size ≠ w.heap.size + 1 by omega) (.slice p pix.length cap)
  refine ⟨_, rfl, ((k1.set r0 (by decide) 0 _).set (r0.set_ 0 _) (by decide) 1 _).set ((r0.set_ 0 _).set_ 1 _) (by decide) 2 _, ?_⟩
  have hb := HB.out
  repeat' (first | (with_reducible exact Below.refl _ _) | (with_reducible assumption) | (with_reducible refine Below.alloc ?_ ?_ _) | (with_reducible refine Below.drew ?_) | (with_reducible refine Below.setCell ?_ ?_ _) | (with_reducible refine Below.on (by with_reducible assumption) ?_ ?_) | go_size)
set_option maxHeartbeats 2000000 in
theorem image_no (g : Nat) (W H : Nat) (c : Rc) (pix : List Int) (w : World) (hC : Canv w g none W H c pix) :
    Calls Try.prog 39 #[.pointer (some ⟨g, 0, none⟩)] w fun e w' => e = .returned (.agg #[.int .i64 W, .int .i64 H, .slice none 0 0]) ∧ Below w.heap.size w w' := by
  have hgl := hC.lt
  have g0 : w.cell? ⟨g, 0, none⟩ = some (.int .i64 W) := hC.1.at_ (i := 0) rfl
  have g1 : w.cell? ⟨g, 1, none⟩ = some (.int .i64 H) := hC.1.at_ (i := 1) rfl
  have g2 : w.cell? ⟨g, 2, none⟩ = some (.slice none (W * H) (W * H)) := hC.1.at_ (i := 2) rfl
  rw [hC.2.2.1 rfl] at g2
  clear hC
  go_enter Try.func39, Try.ntmps39
  go_wp2_with (go_at_call 68; refine (clone_nil _ _ _).mono ?_; rintro e w1 ⟨rfl, rfl⟩)
  refine bodyPost_ret (v := .agg #[.int .i64 W, .int .i64 H, .slice none 0 0]) (by simp [results, Try.results39, go_sem]) rfl ?_
  exact ⟨rfl, by repeat' (first | (with_reducible exact Below.refl _ _) | (with_reducible assumption) | (with_reducible refine Below.alloc ?_ ?_ _) | (with_reducible refine Below.drew ?_) | (with_reducible refine Below.setCell ?_ ?_ _) | (with_reducible refine Below.on (by with_reducible assumption) ?_ ?_) | go_size)⟩
theorem image_nil (w : World) : Calls Try.prog 39 #[.pointer none] w fun e w' => e = .returned (.agg #[.int .i64 0, .int .i64 0, .slice none 0 0]) ∧ Below w.heap.size w w' := by
  go_enter Try.func39, Try.ntmps39
  go_wp2
  refine bodyPost_ret (v := .agg #[.int .i64 0, .int .i64 0, .slice none 0 0]) (by simp [results, Try.results39, go_sem]) rfl ?_
  exact ⟨rfl, by repeat' (first | (with_reducible exact Below.refl _ _) | (with_reducible assumption) | (with_reducible refine Below.alloc ?_ ?_ _) | (with_reducible refine Below.drew ?_) | (with_reducible refine Below.setCell ?_ ?_ _) | (with_reducible refine Below.on (by with_reducible assumption) ?_ ?_) | go_size)⟩
end Go.Proofs.Ytedhgdjlcddchaa
