/- Edges taken off: how much is left, that it is inside, and that edges one behind the other are as good as their sums. Plain mathematics. -/
import Derived.Test.YteaiedcajgdodaaPlainB
namespace Go.Proofs.Yteaiedcajgdodaa
theorem trimN_eq {n a b : Int} (hn : 0 ≤ n) (ha : 0 ≤ a) (hb : 0 ≤ b) : trimN n a b = max 0 (n - a - b) := by unfold trimN spanI; omega
theorem trimS_eq {s n a : Int} (h1 : -32768 ≤ s) (h2 : s ≤ 32767) (hn : 0 ≤ n) (ha : 0 ≤ a) : trimS s n a = min 32767 (s + min a n) := by unfold trimS spanI; omega
def ins (r : Rc) (l t m b : Int) : Rc := insetR r.x r.y r.w r.h l t m b
theorem ins_eq {r : Rc} {l t m b : Int} (hr : rightB r.x r.y r.w r.h = true) (hl : 0 ≤ l) (ht : 0 ≤ t) (hm : 0 ≤ m) (hb : 0 ≤ b) :
    ins r l t m b = ⟨min 32767 (r.x + min l r.w), min 32767 (r.y + min t r.h), max 0 (r.w - l - m), max 0 (r.h - t - b)⟩ := by
  obtain ⟨⟨a1, a2, a3, a4⟩, a5, a6, a7, a8⟩ := (rightB_iff _ _ _ _).1 hr
  unfold ins insetR
  rw [if_pos hr, trimS_eq a1 a2 a3 hl, trimS_eq a5 a6 a7 ht, trimN_eq a3 hl hm, trimN_eq a7 ht hb]
theorem ins_right {r : Rc} {l t m b : Int} (hr : rightB r.x r.y r.w r.h = true) (hl : 0 ≤ l) (ht : 0 ≤ t) (hm : 0 ≤ m) (hb : 0 ≤ b) :
    rightB (ins r l t m b).x (ins r l t m b).y (ins r l t m b).w (ins r l t m b).h = true := by
  rw [ins_eq hr hl ht hm hb]
  rw [rightB_iff] at hr ⊢
  obtain ⟨⟨a1, a2, a3, a4⟩, a5, a6, a7, a8⟩ := hr
  simp only []
  omega
theorem ins_inside {r : Rc} {l t m b : Int} (hr : rightB r.x r.y r.w r.h = true) (hl : 0 ≤ l) (ht : 0 ≤ t) (hm : 0 ≤ m) (hb : 0 ≤ b) :
    insideB (ins r l t m b).x (ins r l t m b).y (ins r l t m b).w (ins r l t m b).h r.x r.y r.w r.h = true := by
  cases he : emp (ins r l t m b)
  · have hf := emp_full he
    obtain ⟨⟨b1, b2, b3, b4⟩, b5, b6, b7, b8⟩ := (rightB_iff _ _ _ _).1 hr
    unfold insideB
    rw [show emptyB (ins r l t m b).x (ins r l t m b).y (ins r l t m b).w (ins r l t m b).h = false from he, hr]
    rw [ins_eq hr hl ht hm hb] at hf ⊢
    obtain ⟨⟨a1, a2, a3, a4⟩, a5, a6, a7, a8⟩ := hf
    simp only [] at a1 a2 a3 a4 a5 a6 a7 a8
    simp
    omega
  · unfold insideB
    rw [show emptyB (ins r l t m b).x (ins r l t m b).y (ins r l t m b).w (ins r l t m b).h = true from he]
    rfl
/-- Left and upper edges one behind the other are as good as their sums, as long as something is left. -/
theorem ins_twice {r : Rc} {l t l' t' : Int} (hr : rightB r.x r.y r.w r.h = true) (hl : 0 ≤ l) (ht : 0 ≤ t) (hl' : 0 ≤ l') (ht' : 0 ≤ t') :
    (emp (ins r (l + l') (t + t') 0 0) = true ∧ emp (ins (ins r l t 0 0) l' t' 0 0) = true) ∨ ins (ins r l t 0 0) l' t' 0 0 = ins r (l + l') (t + t') 0 0 := by
  have e1 := ins_eq hr hl ht (Int.le_refl 0) (Int.le_refl 0)
  have r1 := ins_right hr hl ht (Int.le_refl 0) (Int.le_refl 0)
  have e2 := ins_eq r1 hl' ht' (Int.le_refl 0) (Int.le_refl 0)
  have e3 := ins_eq hr (show 0 ≤ l + l' by omega) (show 0 ≤ t + t' by omega) (Int.le_refl 0) (Int.le_refl 0)
  have hw : (ins (ins r l t 0 0) l' t' 0 0).w = (ins r (l + l') (t + t') 0 0).w := by rw [e2, e3, e1]; simp only []; omega
  have hh : (ins (ins r l t 0 0) l' t' 0 0).h = (ins r (l + l') (t + t') 0 0).h := by rw [e2, e3, e1]; simp only []; omega
  obtain ⟨⟨a1, a2, a3, a4⟩, a5, a6, a7, a8⟩ := (rightB_iff _ _ _ _).1 hr
  by_cases hz : (ins r (l + l') (t + t') 0 0).w = 0 ∨ (ins r (l + l') (t + t') 0 0).h = 0
  · left
    constructor
    · unfold emp emptyB; rcases hz with h | h <;> simp [h]
    · unfold emp emptyB; rw [hw, hh]; rcases hz with h | h <;> simp [h]
  · right
    have w3 : (ins r (l + l') (t + t') 0 0).w = max 0 (r.w - (l + l') - 0) := by rw [e3]
    have h3 : (ins r (l + l') (t + t') 0 0).h = max 0 (r.h - (t + t') - 0) := by rw [e3]
    refine Rc.same ?_ ?_ hw hh
    · rw [e2, e3, e1]; simp only []; omega
    · rw [e2, e3, e1]; simp only []; omega
end Go.Proofs.Yteaiedcajgdodaa
