/- The examples walked; few; what a law keeps. -/
import Derived.Test.YtfabknabkcfpjaaRiB
import Derived.Test.YtfabknabkcfpjaaRhU
namespace Go.Proofs.Ytfabknabkcfpjaa
open Go.RowKit Go.Shelf
theorem RdK.lit (W : World) (L : List Rc) (c : Nat) (T : TypeId) (cs : Array Value) (h : cs = (L.flatMap encR).toArray) : RdK encR 4 (W.alloc (.cells cs T)) (.slice (some ⟨W.heap.size, 0, none⟩) L.length c) L := by
  subst h
  refine ⟨_, c, rfl, fun j x hx => ⟨W.heap.size, 0, rfl, by simp, fun i u hu => ?_⟩⟩
  have h := cell_list W T (L.flatMap encR) (j * 4 + i) u (flat_get encR_len L j x i u hx hu)
  rw [Addr.add_lit] at h
  rw [Nat.zero_add]
  rwa [Nat.zero_add] at h
theorem below_then {a b c : World} (h : Below a.heap.size a b) (k : Below b.heap.size b c) : Below a.heap.size a c := h.trans (k.mono h.size)
theorem below_new (W : World) (o : Obj) : Below W.heap.size W (W.alloc o) := (Below.refl _ _).alloc (Nat.le_refl _) o
theorem union_wk (W : World) : Calls Try.prog 11 #[.slice (some ⟨W.heap.size, 0, none⟩) 2 2, .slice none 0 0] (W.alloc (.cells #[.int .i64 0, .int .i64 0, .int .i64 2, .int .i64 2, .int .i64 2, .int .i64 0, .int .i64 2, .int .i64 2] 40)) fun e w' => ∃ v, e = .returned (.tuple #[v, .int .i64 0]) ∧ Hid (RdK encR 4 w' v [⟨0, 0, 4, 2⟩] ∧ Below W.heap.size W w') := by
  refine (union_t _ _ wkA [] _ (RdK.lit W wkA 2 40 _ rfl) (RdK.nil _ _) (by decide) (by decide)).mono ?_
  rintro e w' ⟨⟨v, k, L, rfl, hT, hO⟩, hb⟩
  obtain ⟨rfl, rfl⟩ := told_wk1 hT
  exact ⟨v, rfl, OwK.reads encR_len hO, below_then (below_new _ _) hb⟩
theorem sub_wk (W : World) : Calls Try.prog 14 #[.slice (some ⟨W.heap.size, 0, none⟩) 1 1, .slice (some ⟨W.heap.size + 1, 0, none⟩) 1 1] ((W.alloc (.cells #[.int .i64 0, .int .i64 0, .int .i64 3, .int .i64 3] 40)).alloc (.cells #[.int .i64 1, .int .i64 1, .int .i64 1, .int .i64 1] 40)) fun e w' => ∃ v, e = .returned (.tuple #[v, .int .i64 0]) ∧ Hid (RdK encR 4 w' v [⟨0, 0, 3, 1⟩, ⟨0, 1, 1, 1⟩, ⟨2, 1, 1, 1⟩, ⟨0, 2, 3, 1⟩] ∧ Below W.heap.size W w') := by
  have h2 := RdK.lit (W.alloc (.cells #[.int .i64 0, .int .i64 0, .int .i64 3, .int .i64 3] 40)) wkC 1 40 #[.int .i64 1, .int .i64 1, .int .i64 1, .int .i64 1] rfl
  rw [show (W.alloc (.cells #[.int .i64 0, .int .i64 0, .int .i64 3, .int .i64 3] 40)).heap.size = W.heap.size + 1 by simp] at h2
  refine (sub_t _ _ wkB wkC _ ((RdK.lit W wkB 1 40 _ rfl).alloc _) h2 (by decide) (by decide)).mono ?_
  rintro e w' ⟨⟨v, k, L, rfl, hT, hO⟩, hb⟩
  obtain ⟨rfl, rfl⟩ := told_wk2 hT
  exact ⟨v, rfl, OwK.reads encR_len hO, below_then (below_then (below_new _ _) (below_new _ _)) hb⟩
theorem same_wk1 (v : Value) (W : World) (h : RdK encR 4 W v [⟨0, 0, 4, 2⟩]) : Calls Try.prog 15 #[v, .slice (some ⟨W.heap.size, 0, none⟩) 1 1] (W.alloc (.cells #[.int .i64 0, .int .i64 0, .int .i64 4, .int .i64 2] 40)) fun e w' => e = .returned (.bool true) ∧ Below W.heap.size W w' := by
  refine (rfSame_c v _ _ _ _ (h.alloc _) (RdK.lit W [⟨0, 0, 4, 2⟩] 1 40 _ rfl) (by decide)).mono ?_
  rintro e w' ⟨rfl, hb⟩
  exact ⟨by rw [(sameL_iff _ _).2 rfl], below_then (below_new _ _) hb⟩
theorem same_wk2 (v : Value) (W : World) (h : RdK encR 4 W v [⟨0, 0, 3, 1⟩, ⟨0, 1, 1, 1⟩, ⟨2, 1, 1, 1⟩, ⟨0, 2, 3, 1⟩]) : Calls Try.prog 15 #[v, .slice (some ⟨W.heap.size, 0, none⟩) 4 4] (W.alloc (.cells #[.int .i64 0, .int .i64 0, .int .i64 3, .int .i64 1, .int .i64 0, .int .i64 1, .int .i64 1, .int .i64 1, .int .i64 2, .int .i64 1, .int .i64 1, .int .i64 1, .int .i64 0, .int .i64 2, .int .i64 3, .int .i64 1] 40)) fun e w' => e = .returned (.bool true) ∧ Below W.heap.size W w' := by
  refine (rfSame_c v _ _ _ _ (h.alloc _) (RdK.lit W [⟨0, 0, 3, 1⟩, ⟨0, 1, 1, 1⟩, ⟨2, 1, 1, 1⟩, ⟨0, 2, 3, 1⟩] 4 40 _ rfl) (by decide)).mono ?_
  rintro e w' ⟨rfl, hb⟩
  exact ⟨by rw [(sameL_iff _ _).2 rfl], below_then (below_new _ _) hb⟩
set_option maxHeartbeats 4000000 in
theorem awake_c (w : World) : Calls Try.prog 10 #[] w fun e w' => e = .returned (.bool true) ∧ Below w.heap.size w w' := by
  go_enter Try.func10, Try.ntmps10
  go_wp2_with (first
    | (go_at_call 11; (with_reducible refine (union_wk _).mono ?_); rintro e w1 ⟨v1, rfl, hA⟩)
    | (go_at_call 14; (with_reducible refine (sub_wk _).mono ?_); rintro e w2 ⟨v2, rfl, hB⟩)
    | (go_at_call 15; (with_reducible refine (same_wk1 v1 _ (hA.out.1.below hB.out.2)).mono ?_); rintro e w3 ⟨rfl, hC⟩; have HC := Lib.hid hC; clear hC)
    | (go_at_call 15; (with_reducible refine (same_wk2 v2 _ (hB.out.1.below HC.out)).mono ?_); rintro e w4 ⟨rfl, hD⟩; have HD := Lib.hid hD; clear hD))
  go_ret
  exact ⟨rfl, below_then (below_then hA.out.2 hB.out.2) (below_then HC.out HD.out)⟩
end Go.Proofs.Ytfabknabkcfpjaa
