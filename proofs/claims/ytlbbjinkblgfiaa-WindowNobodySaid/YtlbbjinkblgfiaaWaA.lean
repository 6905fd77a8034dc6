/- A law's tree; the chapter's example: what it holds. -/
import Derived.Test.YtlbbjinkblgfiaaWiW
import Derived.Test.YtlbbjinkblgfiaaWiT
import Derived.Test.YtlbbjinkblgfiaaWiN
import Derived.Test.YtlbbjinkblgfiaaWiP
namespace Go.Proofs.Ytlbbjinkblgfiaa
open Go.RowKit Go.Shelf Go.Maps
/-- A law's tree: its blocks are the law's own. -/
def Wst (w0 : World) (t : Nat) (nd : Int → Option Nd) (made : Int) (cnt : Nat) (wx : World) : Prop := ∃ l, TreeH wx t l nd made cnt ∧ Below w0.heap.size w0 wx ∧ ∀ b, l.foot t b → w0.heap.size ≤ b
section
variable {w0 wx w1 : World} {t : Nat} {nd nd' : Int → Option Nd} {made made' : Int} {cnt cnt' : Nat}
theorem Wst.next (h : Wst w0 t nd made cnt wx) (hb : Below wx.heap.size wx w1) : Wst w0 t nd made cnt w1 := by
  obtain ⟨l, h1, h2, h3⟩ := h
  exact ⟨l, h1.next hb, hb.on h2 h2.size, h3⟩
theorem Wst.below (h : Wst w0 t nd made cnt wx) : Below w0.heap.size w0 wx := by obtain ⟨l, _, h2, _⟩ := h; exact h2
theorem Wst.made_ {w w' : World} {x y a e : Int} (h : TreeNew w x y a e t w') : Wst w t (nd0 x y a e) 0 1 w' := by
  obtain ⟨l, _, h1, h2, h3⟩ := h
  exact ⟨l, h1, h2, h3⟩
theorem Wst.to {l : Lay} {nb' : Int → Option Nat} (_h : TreeH wx t l nd made cnt) (hb : Below w0.heap.size w0 wx) (hf : ∀ b, l.foot t b → w0.heap.size ≤ b) (k : TreeTo wx t l nb' nd' made' cnt' w1) : Wst w0 t nd' made' cnt' w1 := by
  obtain ⟨l', _, k2, k3⟩ := k
  exact ⟨l', k2, Turn.below hb k3 hb.size hf, k3.least hb.size hf⟩
theorem Wst.create (h : Wst w0 t nd made cnt wx) {d0 : Nd} (h0 : nd 0 = some d0) {q x y a e : Int} (hq : I64 q) (hm : 0 ≤ made) (hm2 : made ≤ 4611686018427387904) (hfresh : nd (made + 1) = none) (hcnt : cnt ≤ 1024) (hks : ∀ j dj, nd j = some dj → dj.kids.length ≤ 4096) {dq : Nd} (hd : nd q = some dq) (hr : rightB x y a e = true) :
    Calls Try.prog 26 #[treeP t, .int .i64 q, .agg #[.int .i64 x, .int .i64 y, .int .i64 a, .int .i64 e]] wx fun ex w' => ex = .returned (.tuple #[.int .i64 (made + 1), .int .i64 0]) ∧ Wst w0 t (upd (upd nd q (some ⟨dq.win, dq.kids ++ [made + 1]⟩)) (made + 1) (some ⟨⟨made + 1, q, x, y, a, e, false⟩, []⟩)) (made + 1) (cnt + 1) w' := by
  obtain ⟨l, h1, h2, h3⟩ := h
  obtain ⟨r, hr0⟩ := h1.block h0
  refine (create_c h1 hr0 hq hm hm2 hfresh (by omega) hks).mono ?_
  intro ex w' hR
  unfold CreateR at hR
  rw [hd] at hR
  dsimp only at hR
  rw [if_neg (by rw [hr]; simp), if_neg (by omega)] at hR
  obtain ⟨rfl, bk, k⟩ := hR
  exact ⟨rfl, Wst.to h1 h2 h3 k⟩
theorem Wst.map (h : Wst w0 t nd made cnt wx) {d0 : Nd} (h0 : nd 0 = some d0) {i : Int} (hi : I64 i) {d : Nd} (hd : nd i = some d) (hz : i ≠ 0) (on : Bool) :
    Calls Try.prog 29 #[treeP t, .int .i64 i, .bool on] wx fun e w' => e = .returned (.int .i64 0) ∧ Wst w0 t (upd nd i (some ⟨{ d.win with on := on }, d.kids⟩)) made cnt w' := by
  obtain ⟨l, h1, h2, h3⟩ := h
  obtain ⟨r, hr0⟩ := h1.block h0
  obtain ⟨b, hb⟩ := h1.block hd
  refine (map_c h1 hr0 hi hb hd hz on).mono ?_
  rintro e w' ⟨rfl, k⟩
  exact ⟨rfl, Wst.to h1 h2 h3 k⟩
theorem Wst.abs (h : Wst w0 t nd made cnt wx) (hw : Wide nd) {n : Nat} {i : Int} (hW : Way nd n i) :
    Calls Try.prog 22 #[treeP t, .int .i64 i] wx fun e w' => e = .returned (.tuple #[.agg #[.int .i64 (IntKind.i64.wrap (absX nd n i)), .int .i64 (IntKind.i64.wrap (absY nd n i))], .bool true]) ∧ Below wx.heap.size wx w' := by
  obtain ⟨l, h1, h2, h3⟩ := h
  exact abs_c hw n i wx h1 hW
theorem Wst.under (h : Wst w0 t nd made cnt wx) (hw : Wide nd) (hks : ∀ j dj, nd j = some dj → dj.kids.length ≤ 4096) {d : Nd} (hd : nd 0 = some d) {n : Nat} (hT : Tall nd n 0) {px py : Int} :
    Calls Try.prog 15 #[treeP t, .agg #[.int .i64 px, .int .i64 py]] wx fun e w' => UnderR wx nd n d px py e w' := by
  obtain ⟨l, h1, h2, h3⟩ := h
  exact under_c h1 hw hks hd hT
end
/-- The example's tree. -/
def awk1 : Int → Option Nd := upd (upd (nd0 0 0 100 100) 0 (some ⟨(rootNd 0 0 100 100).win, [1]⟩)) 1 (some ⟨⟨1, 0, 10, 10, 50, 50, false⟩, []⟩)
def awk2 : Int → Option Nd := upd (upd awk1 1 (some ⟨⟨1, 0, 10, 10, 50, 50, false⟩, [2]⟩)) 2 (some ⟨⟨2, 1, 5, 5, 50, 50, false⟩, []⟩)
def awk3 : Int → Option Nd := upd awk2 1 (some ⟨⟨1, 0, 10, 10, 50, 50, true⟩, [2]⟩)
def awk4 : Int → Option Nd := upd awk3 2 (some ⟨⟨2, 1, 5, 5, 50, 50, true⟩, []⟩)
theorem awk1_is (i : Int) : awk1 i = if i = 1 then some ⟨⟨1, 0, 10, 10, 50, 50, false⟩, []⟩ else if i = 0 then some ⟨⟨0, -1, 0, 0, 100, 100, true⟩, [1]⟩ else none := by
  unfold awk1 nd0 upd rootNd
  split
  · rfl
  · split
    · rfl
    · rfl
theorem awk4_is (i : Int) : awk4 i = if i = 2 then some ⟨⟨2, 1, 5, 5, 50, 50, true⟩, []⟩ else if i = 1 then some ⟨⟨1, 0, 10, 10, 50, 50, true⟩, [2]⟩ else if i = 0 then some ⟨⟨0, -1, 0, 0, 100, 100, true⟩, [1]⟩ else none := by
  unfold awk4 awk3 awk2
  by_cases h2 : i = 2
  · subst h2; rfl
  · by_cases h1 : i = 1
    · subst h1; rfl
    · rw [upd_other _ _ h2, upd_other _ _ h1, upd_other _ _ h2, upd_other _ _ h1, awk1_is, if_neg h2, if_neg h1, if_neg h1]
theorem awk4_wide : Wide awk4 := by
  intro i d h
  rw [awk4_is] at h
  split at h
  · next e => injection h with h; subst h; subst e; exact ⟨⟨by decide, by decide⟩, ⟨by decide, by decide⟩⟩
  · split at h
    · next e => injection h with h; subst h; subst e; exact ⟨⟨by decide, by decide⟩, ⟨by decide, by decide⟩⟩
    · split at h
      · next e => injection h with h; subst h; subst e; exact ⟨⟨by decide, by decide⟩, ⟨by decide, by decide⟩⟩
      · cases h
theorem awk4_kids : ∀ j dj, awk4 j = some dj → dj.kids.length ≤ 4096 := by
  intro i d h
  rw [awk4_is] at h
  split at h
  · injection h with h; subst h; decide
  · split at h
    · injection h with h; subst h; decide
    · split at h
      · injection h with h; subst h; decide
      · cases h
theorem awk4_way1 : Way awk4 1 1 := ⟨by decide, _, rfl, rfl, _, rfl⟩
theorem awk4_way2 : Way awk4 2 2 := ⟨by decide, _, rfl, awk4_way1⟩
theorem awk4_tall : Tall awk4 3 0 := by
  refine ⟨_, rfl, fun k hk => ?_⟩
  rw [List.mem_singleton.1 (show k ∈ [1] from hk)]
  refine ⟨_, rfl, fun k hk => ?_⟩
  rw [List.mem_singleton.1 (show k ∈ [2] from hk)]
  exact ⟨_, rfl, fun k hk => by cases hk⟩
theorem awk4_see1 : seenB awk4 3 0 20 20 = 2 := by decide +kernel
theorem awk4_see2 : seenB awk4 3 0 12 12 = 1 := by decide +kernel
theorem awk4_see3 : seenB awk4 3 0 61 61 = 0 := by decide +kernel
end Go.Proofs.Ytlbbjinkblgfiaa
