/- slices.SortFunc at the sides: a permutation of them, from the left. -/
import Derived.Test.YtfabknabkcfpjaaRhF
import Derived.Test.YtfabknabkcfpjaaRhS
namespace Go.Proofs.Ytfabknabkcfpjaa
open Go.RowKit Go.Shelf Go.Sort
instance : Inhabited Sd := ⟨⟨0, 0, 0, zeroR⟩⟩
def cmpS (s t : Sd) : Int := Lib.compareInt s.x t.x
theorem cmpS_lt (s t : Sd) : ltOf cmpS s t = decide (s.x < t.x) := by
  unfold ltOf cmpS Lib.compareInt
  split
  · simp; omega
  · split
    · simp; omega
    · simp; omega
theorem cmpS_swo : SWO (ltOf cmpS) where
  irrefl := fun x => by rw [cmpS_lt]; simp
  trans := fun x y z h1 h2 => by rw [cmpS_lt] at *; simp at *; omega
  ntrans := fun x y z h1 h2 => by rw [cmpS_lt] at *; simp at *; omega
theorem cmpare_c (x y : Int) (w : World) : Calls Try.prog 60 #[.int .i64 x, .int .i64 y] w fun e w' => e = .returned (.int .i64 (Lib.compareInt x y)) ∧ w' = w :=
  Any.cmp_Compare_int cmpInts x y w
def boxS (d : Sd) : Obj := .cells #[.int .i64 d.x, .int .i64 d.s, .int .i64 d.k, .int .i64 d.r.x, .int .i64 d.r.y, .int .i64 d.r.w, .int .i64 d.r.h] 76
theorem cmpS_c (a b : Sd) (w : World) : Calls Try.prog 59 #[.agg (encS a).toArray, .agg (encS b).toArray] w fun e w' => e = .returned (.int .i64 (cmpS a b)) ∧ w' = (w.alloc (boxS a)).alloc (boxS b) := by
  obtain ⟨ax, as_, ak, ⟨arx, ary, arw, arh⟩⟩ := a
  obtain ⟨bx, bs_, bk, ⟨brx, bry, brw, brh⟩⟩ := b
  unfold boxS cmpS
  show Calls Try.prog 59 #[.agg #[.int .i64 ax, .int .i64 as_, .int .i64 ak, .int .i64 arx, .int .i64 ary, .int .i64 arw, .int .i64 arh], .agg #[.int .i64 bx, .int .i64 bs_, .int .i64 bk, .int .i64 brx, .int .i64 bry, .int .i64 brw, .int .i64 brh]] w _
  dsimp only
  have HC := fun W => cmpare_c ax bx W
  generalize Lib.compareInt ax bx = r at HC ⊢
  go_enter Try.func59, Try.ntmps59
  go_wp2_with (go_at_call 60; refine (HC _).mono ?_; rintro e w1 ⟨rfl, rfl⟩)
  go_ret
  exact ⟨rfl, rfl⟩
theorem enters_cmp : ∀ args w, (callFunc 59 args).run Try.prog w = .ok (.enter 59 args) w := enters_of Try.func59 (by kernel_rfl) rfl
theorem cmpS_lays (blk off n : Nat) (w : World) : CmpLays Try.prog 59 #[] encS 7 cmpS blk off n w := by
  intro m os dk _ x y
  have h := cmpS_c x y (sortWorldK encS 7 w blk off m dk os)
  refine h.mono fun e w' ⟨h1, h2⟩ => ⟨h1, 0, #[boxS x, boxS y], ?_⟩
  rw [h2, alloc_eq_grow, alloc_eq_grow, grow_grow]
  rfl
theorem oneCell_encS (d : Sd) : ∀ v ∈ encS d, v.oneCell' = true := by
  intro v hv
  unfold encS at hv
  simp only [List.mem_cons, List.not_mem_nil, or_false] at hv
  rcases hv with rfl | rfl | rfl | rfl | rfl | rfl | rfl <;> rfl
theorem flatK_at {d : Array Sd} {j i : Nat} {x : Sd} {u : Value} (hx : d.toList[j]? = some x) (hu : (encS x)[i]? = some u) : (flatK encS 7 d)[j * 7 + i]! = u := by
  have hi := (List.getElem?_eq_some_iff.1 hu).1
  rw [encS_len] at hi
  have hj := (List.getElem?_eq_some_iff.1 hx).1
  rw [Array.length_toList] at hj
  rw [get_flatK _ _ _ _ (by omega), show (j * 7 + i) / 7 = j by omega, show (j * 7 + i) % 7 = i by omega]
  have e : d[j]! = x := by
    rw [getElem!_pos d j hj]
    rw [Array.getElem?_toList] at hx
    rw [Array.getElem?_eq_getElem hj] at hx
    injection hx
  rw [e]
  have := (List.getElem?_eq_some_iff.1 hu).2
  rw [List.getElem!_eq_getElem?_getD, hu]; rfl
theorem holds_own {w : World} {base g cap : Nat} {ds : List Sd} (h : OwK encS 76 7 w base (.slice (some ⟨g, 0, none⟩) ds.length cap) ds) : HoldsK encS 7 w g 0 ds.toArray := by
  intro j hj
  rw [size_flatK] at hj
  have hj' : j < ds.length * 7 := by simpa using hj
  have hq : j / 7 < ds.length := by omega
  have hx : ds[j / 7]? = some ds[j / 7] := List.getElem?_eq_getElem hq
  have hu : (encS ds[j / 7])[j % 7]? = some ((encS ds[j / 7])[j % 7]'(by rw [encS_len]; omega)) := List.getElem?_eq_getElem _
  have h1 := flat_get encS_len ds (j / 7) _ (j % 7) _ hx hu
  have h2 := flatK_at (d := ds.toArray) (j := j / 7) (i := j % 7) (by simp) hu
  rw [show j / 7 * 7 + j % 7 = j by omega] at h1 h2
  rw [Nat.zero_add, h2]
  exact ⟨(World.ownsRow.cellAt h j hj').trans h1, World.ownsRow.frozenAt h j⟩
theorem reads_holds {w : World} {g cap : Nat} {d : Array Sd} (h : HoldsK encS 7 w g 0 d) (hl : g < w.heap.size) : RdK encS 7 w (.slice (some ⟨g, 0, none⟩) d.size cap) d.toList := by
  refine ⟨_, cap, by rw [Array.length_toList], fun j x hx => ⟨g, 0, rfl, hl, fun i u hu => ?_⟩⟩
  have hi := (List.getElem?_eq_some_iff.1 hu).1
  rw [encS_len] at hi
  have hj := (List.getElem?_eq_some_iff.1 hx).1
  rw [Array.length_toList] at hj
  have h1 := (h (j * 7 + i) (by rw [size_flatK]; omega)).1
  rw [flatK_at hx hu] at h1
  rw [show 0 + j * 7 + i = 0 + (j * 7 + i) by omega]
  exact h1
theorem kept_swk {α : Type} [Inhabited α] {enc : α → List Value} {k : Nat} {w : World} {blk off n : Nat} {d : Array α} {os : Array Obj} (_hblk : blk < w.heap.size) : Kept (fun i => i ≠ blk) w (sortWorldK enc k w blk off n d os) := by
  refine ⟨rfl, rfl, rfl, size_sortWorldK_c enc k w blk off n d os, fun j hj hne => ?_⟩
  unfold sortWorldK putRowK
  rw [heap_grow_old _ _ (by rw [size_putRow]; exact hj)]
  have : blk ≠ j := fun e => hne e.symm
  simp [putRow, mapBlock, Sort.ahead, Array.getElem?_modify, this]
/-- Sorted from the left. -/
theorem sort_c (base : Nat) (v : Value) (ds : List Sd) (w : World) (hO : OwK encS 76 7 w base v ds) (hn : ds.length ≤ 4096) :
    Calls Try.prog 58 #[v, .func (.func 59) #[] #[]] w fun e w' => e = .returned (.tuple #[]) ∧ ∃ ds', ds'.Perm ds ∧ ds'.Pairwise (fun a b => a.x ≤ b.x) ∧ RdK encS 7 w' v ds' ∧ Kept (fun i => v.ownBlock ≠ some i) w w' := by
  by_cases hne : ds = []
  · subst hne
    obtain ⟨p, c, rfl⟩ := hO.slice
    refine (AnyF.slices_SortFunc_none sortSide p c _ w).mono fun e w' ⟨h1, h2⟩ => ⟨h1, [], List.Perm.refl _, List.Pairwise.nil, ⟨p, c, rfl, fun j x hx => by simp at hx⟩, ?_⟩
    subst h2
    exact ⟨rfl, rfl, rfl, Nat.le_refl _, fun _ _ _ => rfl⟩
  · obtain ⟨g, cap, rfl, _, hlt, _, _⟩ := hO.form encS_len hne
    have hH := holds_own hO
    have h := AnyQ.slices_SortFunc sortSide 7 (fun _ => by kernel_rfl) (fun _ => by kernel_rfl) encS encS_len oneCell_encS cmpS cmpS_swo 59 #[] g 0 cap ds.toArray w enters_cmp (cmpS_lays g 0 _ w) hH hlt (by simp; omega)
    simp only [List.size_toArray] at h
    refine h.mono fun e w' ⟨h1, d', n, os, h2, h3, h4⟩ => ⟨h1, d'.toList, ?_, ?_, ?_, ?_⟩
    · have h5 := h2.2.2
      have hs := h2.1
      rw [show d'.extract 0 ds.length = d' by rw [← (show d'.size = ds.length by simpa using hs)]; simp, show ds.toArray.extract 0 ds.length = ds.toArray by simp] at h5
      simpa using h5
    · have hs : d'.size = ds.length := by simpa using h2.1
      rw [List.pairwise_iff_getElem]
      intro i j hi hj hij
      have h5 := h3 i j (Nat.zero_le _) hij (by rw [← hs, ← Array.length_toList]; exact hj)
      rw [Array.length_toList] at hi hj
      rw [cmpS_lt, getElem!_pos d' j hj, getElem!_pos d' i hi] at h5
      simp at h5
      simpa using h5
    · subst h4
      have hs : d'.size = ds.length := by simpa using h2.1
      have h6 := holdsK_sortWorldK_c encS 7 w g 0 ds.toArray d' n os hH hlt (by simpa using hs)
      have h7 := reads_holds (cap := cap) h6 (Nat.lt_of_lt_of_le hlt (size_sortWorldK_c encS 7 w g 0 n d' os))
      rw [hs] at h7
      exact h7
    · subst h4
      have hk := kept_swk (enc := encS) (k := 7) (off := 0) (n := n) (d := d') (os := os) hlt
      exact ⟨hk.1, hk.2.1, hk.2.2.1, hk.2.2.2.1, fun i hi hne => hk.2.2.2.2 i hi (fun e => hne (by rw [e]; rfl))⟩
end Go.Proofs.Ytfabknabkcfpjaa
