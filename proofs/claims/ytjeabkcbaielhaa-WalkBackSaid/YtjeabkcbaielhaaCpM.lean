/- The law's few, and its leaf. -/
import Derived.Test.YtjeabkcbaielhaaCpL
import Derived.Test.YtjeabkcbaielhaaCpF
namespace Go.Proofs.Ytjeabkcbaielhaa.Co
open Go.RowKit Go.Shelf
def leafT (c : Int) : Con := .mk ⟨0, 65536, c, 0⟩ []
theorem leaf_c (c : Int) (w : World) : Calls Try.prog 55 #[.int .i64 c] w fun e w' => e = .returned (conV (leafT c).a (.slice none 0 0)) ∧ Below w.heap.size w w' := by
  go_enter Try.func55, Try.ntmps55
  go_wp2_with fail
  have b2 := Blk.new w 24 #[.int .i64 0, .int .i64 65536, .int .i64 c, .int .i64 0, .slice none 0 0]
  obtain ⟨⟨b3, b4, b5, b6, b7⟩, -⟩ := c5 b2
  exact bodyPost_ret (v := .agg #[.int .i64 0, .int .i64 65536, .int .i64 c, .int .i64 0, .slice none 0 0]) (by simp [results, Try.results55, go_sem, b3, b4, b5, b6, b7]) rfl ⟨rfl, (Below.refl _ _).alloc (Nat.le_refl _) _⟩
theorem few_c (Z : Nat → Prop) (x : Con) (sv : Value) (w : World) (hK : KV w Z x.ks sv) :
    Calls Try.prog 17 #[conV x.a sv] w fun e w' => e = .returned (.bool (decide (nodesC x 0 ≤ 500))) ∧ Below w.heap.size w w' := by
  obtain ⟨p, cap, rfl, hl⟩ := hK.slice
  obtain ⟨n, hn⟩ : ∃ n, n = x.ks.length := ⟨_, rfl⟩
  rw [← hn] at hK ⊢
  obtain ⟨z, hz⟩ : ∃ z, z = nodesC x 0 := ⟨_, rfl⟩
  have hb0 := (Below.refl w.heap.size w).alloc (Nat.le_refl _) (.cells #[.int .i64 x.a.k, .int .i64 x.a.w, .int .i64 x.a.c, .int .i64 x.a.s, .slice p n cap] 24)
  have HI := Lib.hid (nodes_c Z x (.slice p n cap) 0 _ (hK.next hb0) (by omega) (by omega))
  rw [← hz] at HI ⊢
  have HB := Lib.hid hb0
  obtain ⟨r, hr⟩ : ∃ r, r = decide (z ≤ 500) := ⟨_, rfl⟩
  rw [← hr]
  have HR := Lib.hid hr
  clear hn hz hK hl hb0 hr
  show Calls Try.prog 17 #[.agg #[.int .i64 x.a.k, .int .i64 x.a.w, .int .i64 x.a.c, .int .i64 x.a.s, .slice p n cap]] w _
  go_enter Try.func17, Try.ntmps17
  go_wp2_with fail
  refine HI.out.mono ?_
  rintro e w1 ⟨rfl, hb⟩
  have HB1 := Lib.hid (HB.out.trans (hb.mono HB.out.size))
  clear hb HI
  by_cases h : z ≤ 500
  all_goals
    go_wp2_with fail
    go_ret
    exact ⟨ret_bool (by rw [HR.out] <;> simp [h]), HB1.out⟩
end Go.Proofs.Ytjeabkcbaielhaa.Co
