import Derived.Test.YticfefiiiinadaaShD
import Derived.Shelf.SlSortCmp.Kit1
import Derived.Deep.QuietTactic
import Derived.BigQuiet
import Derived.Deep.RegionHeld3
namespace Go.Proofs.Yticfefiiiinadaa
open Go.RowKit Go.Shelf Go.Lib Go.Sort Ieee

theorem cmpare_c (x y : Int) (w : World) : Calls Try.prog 32 #[.int .i64 x, .int .i64 y] w fun e w' => e = .returned (.int .i64 (Lib.compareInt x y)) ∧ w' = w :=
  Any.cmp_Compare_int cmpInt x y w

set_option maxHeartbeats 1000000 in
theorem clo_c (bx ob oo ocap : Nat) (l : List Int) (w : World) (i j : Nat) (hi : i < l.length) (hj : j < l.length)
    (hbox : w.cell? ⟨bx, 0, none⟩ = some (.slice (some ⟨ob, oo, none⟩) l.length ocap)) (ho : SI w ob oo l) :
    Calls Try.prog 31 #[.int .i64 i, .int .i64 j, .pointer (some ⟨bx, 0, none⟩)] w fun e w' => e = .returned (.int .i64 (Lib.compareInt (l.getD j 0) (l.getD i 0))) ∧ ∃ q, w' = w.drewN q := by
  have hci := ho i hi
  have hcj := ho j hj
  have hi' : (i : Int) < (l.length : Int) := by omega
  have hj' : (j : Int) < (l.length : Int) := by omega
  generalize l.getD i 0 = x at hci ⊢
  generalize l.getD j 0 = y at hcj ⊢
  clear ho
  have hcon := cmpare_c y x
  generalize Lib.compareInt y x = r at hcon ⊢
  go_enter Try.func31, Try.ntmps31
  go_wp2
  go_quiet (first | (go_at_call 32; refine Calls.quiet_of_same (hcon _)))
  go_wp2
  go_ret
  exact ⟨rfl, _, rfl⟩

section
variable {α : Type} [Inhabited α]
set_option maxHeartbeats 1000000 in
theorem stable_small (enc : α → Value) (cf : α → α → Int) (g : Nat) (cb : Array Value) (blk off cap : Nat) (d : Array α) (w : World)
    (eg : ∀ args w, (callFunc g args).run Try.prog w = .ok (.enter g args) w) (hcmp : CmpLays1 Try.prog g cb enc cf blk off d.size w) (R : Row1 enc w blk off d) (hn : d.size < 20) :
    Calls Try.prog 33 #[.slice (some ⟨blk, off, none⟩) d.size cap, .int .i64 d.size, .func (.func g) #[] cb] w fun e w' => e = .returned (.tuple #[]) ∧ SW enc w blk off (Sort.insertionSort (ltOf cf) d 0 d.size) w' := by
  have hins := Any.insertionSortCmpFunc_s insInt enc cf g cb blk off cap 0 d.size d d w w eg hcmp R rfl (SW.start R.hH) (by omega) (Nat.le_refl _) (by omega)
  generalize Sort.insertionSort (ltOf cf) d 0 d.size = r at hins ⊢
  change Calls Try.prog 35 #[_, .int .i64 0, _, _] _ _ at hins
  clear hcmp R
  have h1 : ¬ (20 : Int) ≤ (d.size : Int) := by omega
  have h2 : ¬ (20 : Int) < (d.size : Int) := by omega
  go_enter Try.func33, Try.ntmps33
  go_wp2
  refine wp_loop_rounds 1 ?_
  rw [rounds_succ]
  go_wp2_with (go_at_call 35; refine hins.mono ?_; rintro e w1 ⟨rfl, hS⟩)
  refine wp_loop_rounds 1 ?_
  rw [rounds_succ]
  go_wp2
  go_end0
  exact ⟨rfl, hS⟩

theorem sorts_small (enc : α → Value) (cf : α → α → Int) (g : Nat) (cb : Array Value) (blk off cap : Nat) (d : Array α) (w : World)
    (eg : ∀ args w, (callFunc g args).run Try.prog w = .ok (.enter g args) w) (hcmp : CmpLays1 Try.prog g cb enc cf blk off d.size w) (R : Row1 enc w blk off d) (hn : d.size < 20) :
    Calls Try.prog 30 #[.slice (some ⟨blk, off, none⟩) d.size cap, .func (.func g) #[] cb] w fun e w' => e = .returned (.tuple #[]) ∧ SW enc w blk off (Sort.insertionSort (ltOf cf) d 0 d.size) w' := by
  have hins := stable_small enc cf g cb blk off cap d w eg hcmp R hn
  generalize Sort.insertionSort (ltOf cf) d 0 d.size = r at hins ⊢
  clear hcmp R
  go_enter Try.func30, Try.ntmps30
  go_wp2_with (go_at_call 33; refine hins.mono ?_; rintro e w1 ⟨rfl, hS⟩)
  go_end0
  exact ⟨rfl, hS⟩
end
end Go.Proofs.Yticfefiiiinadaa
