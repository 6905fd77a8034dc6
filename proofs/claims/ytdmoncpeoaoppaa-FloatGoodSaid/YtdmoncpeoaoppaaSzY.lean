/- The document's Fit; the laws' example; what follows. -/
import Derived.Test.YtdmoncpeoaoppaaSzL
import Derived.Test.YtdmoncpeoaoppaaSzW
import Derived.Test.YtdmoncpeoaoppaaSzX
namespace Go.Proofs.Ytdmoncpeoaoppaa
open Go.RowKit
namespace Sz
attribute [local go_sem ↓] eql_hints
theorem fd_yes {b : Hn} {x y : Int} (hs : Some b) (h : FdP b 65535 65535 x y) : 0 < x := by
  rcases h with ⟨h, -⟩ | ⟨-, -, h⟩
  · exact h
  · obtain ⟨z, hz⟩ := hs; exact absurd hz (h z)
theorem fd_no {b : Hn} {x y : Int} (hs : ¬ Some b) (h : FdP b 65535 65535 x y) : x = 0 ∧ y = 0 := by
  rcases h with ⟨-, h, -⟩ | ⟨h, k, -⟩
  · exact absurd ⟨x, h.1⟩ hs
  · exact ⟨h, k⟩
theorem rnorm_c (h : Hn) (w : World) : Calls Try.prog 20 #[.agg #[.int .i64 h.minW, .int .i64 h.minH, .int .i64 h.maxW, .int .i64 h.maxH, .int .i64 h.baseW, .int .i64 h.baseH, .int .i64 h.incW, .int .i64 h.incH, .int .i64 h.lowX, .int .i64 h.lowY, .int .i64 h.highX, .int .i64 h.highY]] w fun e w' => ∃ n, e = .returned (.agg #[.int .i64 n.minW, .int .i64 n.minH, .int .i64 n.maxW, .int .i64 n.maxH, .int .i64 n.baseW, .int .i64 n.baseH, .int .i64 n.incW, .int .i64 n.incH, .int .i64 n.lowX, .int .i64 n.lowY, .int .i64 n.highX, .int .i64 n.highY]) ∧ NormP h n ∧ Below w.heap.size w w' :=
  rnormal_c h w
    (fun b hb hs W => (find_c b hb 65535 65535 (by omega) (by omega) (by omega) (by omega) W).mono (by rintro e w1 ⟨x, y, rfl, h, hb1⟩; exact ⟨x, y, rfl, fd_yes hs h, hb1⟩))
    (fun b hb hs W => (find_c b hb 65535 65535 (by omega) (by omega) (by omega) (by omega) W).mono (by rintro e w1 ⟨x, y, rfl, h, hb1⟩; obtain ⟨rfl, rfl⟩ := fd_no hs h; exact ⟨rfl, hb1⟩))
set_option maxHeartbeats 2000000 in
theorem rfit_c (h : Hn) (x t : Int) (w : World) : Calls Try.prog 31 #[.agg #[.int .i64 h.minW, .int .i64 h.minH, .int .i64 h.maxW, .int .i64 h.maxH, .int .i64 h.baseW, .int .i64 h.baseH, .int .i64 h.incW, .int .i64 h.incH, .int .i64 h.lowX, .int .i64 h.lowY, .int .i64 h.highX, .int .i64 h.highY], .int .i64 x, .int .i64 t] w fun e w' => ∃ n a b, e = .returned (.tuple #[.int .i64 a, .int .i64 b]) ∧ NormP h n ∧ FitP n x t a b ∧ Below w.heap.size w w' := by
  have A0 := HB.new w h
  have W0 : Below w.heap.size w (w.alloc (.cells (#[.int .i64 h.minW, .int .i64 h.minH, .int .i64 h.maxW, .int .i64 h.maxH, .int .i64 h.baseW, .int .i64 h.baseH, .int .i64 h.incW, .int .i64 h.incH, .int .i64 h.lowX, .int .i64 h.lowY, .int .i64 h.highX, .int .i64 h.highY]) 25)) := by repeat' (first | (with_reducible exact Below.refl _ _) | (with_reducible assumption) | (with_reducible refine Below.alloc ?_ ?_ _) | (with_reducible refine Below.drew ?_) | (with_reducible refine Below.setCell ?_ ?_ _) | (with_reducible refine Below.on (by with_reducible assumption) ?_ ?_) | go_size)
  have HX := Lib.hid (fun W : World => rspan_c x 0 65535 W)
  have HT := Lib.hid (fun W : World => rspan_c t 0 65535 W)
  have hx1 := spanI_le x 0 65535
  have hx2 := spanI_ge x 0 65535 (by omega)
  have ht1 := spanI_le t 0 65535
  have ht2 := spanI_ge t 0 65535 (by omega)
  have HFP := Lib.hid (fun (n : Hn) (a b : Int) (hs : Some n) (p : FdP n (spanI x 0 65535) (spanI t 0 65535) a b) => (show FitP n x t a b from by
    rcases p with ⟨-, p, q⟩ | ⟨-, -, p⟩
    · exact ⟨p, q⟩
    · obtain ⟨z, hz⟩ := hs; exact absurd hz (p z)))
  obtain ⟨sx, hsx⟩ : ∃ v, spanI x 0 65535 = v := ⟨_, rfl⟩
  obtain ⟨st, hst⟩ : ∃ v, spanI t 0 65535 = v := ⟨_, rfl⟩
  rw [hsx, hst] at HFP
  rw [hsx] at HX hx1 hx2
  rw [hst] at HT ht1 ht2
  clear hsx hst
  go_enter Try.func31, Try.ntmps31
  go_wp2_with first
    | (go_at_call 20; ((with_reducible refine (rnorm_c h _).mono ?_); rintro e w1 ⟨n, rfl, hN, hb1⟩); have W1 := bnext W0 hb1 W0.size)
    | (go_at_call 42; ((with_reducible refine (HX.out _).mono ?_); rintro e w2 ⟨rfl, rfl⟩); skip)
    | (go_at_call 42; ((with_reducible refine (HT.out _).mono ?_); rintro e w3 ⟨rfl, rfl⟩); skip)
    | (go_at_call 49; ((with_reducible refine (find_c n hN.right.1 sx st hx1 hx2 ht1 ht2 _).mono ?_); rintro e w4 ⟨a, b, rfl, hP, hb4⟩); have W4 := bnext W1 hb4 W1.size)
  go_ret2
  exact ⟨n, a, b, rfl, hN, HFP.out n a b hN.right.2 hP, W4⟩
end Sz
end Go.Proofs.Ytdmoncpeoaoppaa
