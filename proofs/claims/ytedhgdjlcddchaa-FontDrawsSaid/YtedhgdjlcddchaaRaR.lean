import Derived.Test.YtedhgdjlcddchaaRaQ
import Derived.IntWalk
namespace Go.Proofs.Ytedhgdjlcddchaa
open Go.RowKit
theorem trim_plane {s n : Int} (l r : Int) (h1 : -32768 ≤ s) (h2 : s ≤ 32767) (h3 : 0 ≤ n) (h4 : s + n ≤ 32768) :
    -32768 ≤ trimS s n l ∧ trimS s n l ≤ 32767 ∧ 0 ≤ trimN n l r ∧ trimS s n l + trimN n l r ≤ 32768 := by
  unfold trimS trimN spanI; omega
theorem trim_in {s n : Int} (l r i : Int) (h1 : -32768 ≤ s) (h2 : s ≤ 32767) (h3 : 0 ≤ n) (h4 : s + n ≤ 32768) :
    (trimS s n l ≤ i ∧ i < trimS s n l + trimN n l r) ↔ (s + max l 0 ≤ i ∧ i < s + n - max r 0) := by
  unfold trimS trimN spanI; omega
theorem inset_has {x y a e : Int} (l t r b i j : Int) (hR : rightB x y a e = true) :
    hasB (insetR x y a e l t r b).x (insetR x y a e l t r b).y (insetR x y a e l t r b).w (insetR x y a e l t r b).h i j = decide ((x + max l 0 ≤ i ∧ i < x + a - max r 0) ∧ y + max t 0 ≤ j ∧ j < y + e - max b 0) := by
  obtain ⟨⟨h1, h2, h3, h4⟩, h5, h6, h7, h8⟩ := (rightB_iff x y a e).1 hR
  have e1 : insetR x y a e l t r b = ⟨trimS x a l, trimS y e t, trimN a l r, trimN e t b⟩ := by unfold insetR; rw [if_pos hR]
  rw [e1]
  have px := trim_plane l r h1 h2 h3 h4
  have py := trim_plane t b h5 h6 h7 h8
  rw [hasB_of_right ((rightB_iff _ _ _ _).2 ⟨px, py⟩), Bool.eq_iff_iff]
  simp only [decide_eq_true_eq]
  have kx := trim_in l r i h1 h2 h3 h4
  have ky := trim_in t b j h5 h6 h7 h8
  constructor
  · rintro ⟨a1, a2, a3, a4⟩
    exact ⟨kx.1 ⟨a1, a2⟩, ky.1 ⟨a3, a4⟩⟩
  · rintro ⟨a1, a2⟩
    exact ⟨(kx.2 a1).1, (kx.2 a1).2, (ky.2 a2).1, (ky.2 a2).2⟩
theorem inset_not {x y a e : Int} (l t r b : Int) (hR : rightB x y a e = false) : insetR x y a e l t r b = zeroR := by
  unfold insetR; simp [hR]
theorem pnt_over {W : Nat} {q q' : Int → Int → Bool} {col : Int} {pix : List Int} :
    pnt W q (fun _ _ _ => col) (pnt W q' (fun _ _ _ => col) pix) = pnt W (fun i j => q i j || q' i j) (fun _ _ _ => col) pix := by
  apply List.ext_getElem?
  intro i
  rw [pnt_get, pnt_get, pnt_get]
  cases pix[i]? with
  | none => rfl
  | some u =>
    simp only [Option.map_some]
    cases q ((i % W : Nat) : Int) ((i / W : Nat) : Int) <;> cases q' ((i % W : Nat) : Int) ((i / W : Nat) : Int) <;> simp
/-- What the edges are painted as: the places of the rectangle that are not within. -/
theorem frm_ref {W H : Nat} {c : Rc} {x y a e wd col : Int} {pix : List Int} (hl : pix.length = W * H) (h : 1 ≤ wd) (h' : wd ≤ 9223372036854775807) :
    frm W c x y a e (IntKind.i64.wrap (a - wd)) (IntKind.i64.wrap (e - wd)) col pix =
      pnt W (fun i j => hasB c.x c.y c.w c.h i j && hasB x y a e i j) (fun i j u => if hasB (insetR x y a e wd wd wd wd).x (insetR x y a e wd wd wd wd).y (insetR x y a e wd wd wd wd).w (insetR x y a e wd wd wd wd).h i j = true then u else col) pix := by
  unfold frm
  rw [pnt_over, pnt_over, pnt_over]
  refine pnt_congr hl fun i j _ _ u => ?_
  unfold sideQ
  cases hR : rightB x y a e
  · have hE := emptyB_of_not_right hR
    simp only [inset_not _ _ _ _ hR, hasB_emp hE, show ∀ i j, hasB zeroR.x zeroR.y zeroR.w zeroR.h i j = false from fun i j => hasB_emp emp_zero i j]
    simp
  · obtain ⟨⟨h1, h2, h3, h4⟩, h5, h6, h7, h8⟩ := (rightB_iff x y a e).1 hR
    have e1 : IntKind.i64.wrap (a - wd) = a - wd := IntWalk.i64_in _ (by omega)
    have e2 : IntKind.i64.wrap (e - wd) = e - wd := IntWalk.i64_in _ (by omega)
    rw [e1, e2]
    simp only [inset_has _ _ _ _ _ _ hR, hasB_of_right hR]
    cases hasB c.x c.y c.w c.h i j
    · simp
    · simp only [Bool.and_true, Bool.true_and]
      simp only [Bool.or_eq_true, decide_eq_true_eq]
      repeat' split
      all_goals first | rfl | (exfalso; omega)
end Go.Proofs.Ytedhgdjlcddchaa
