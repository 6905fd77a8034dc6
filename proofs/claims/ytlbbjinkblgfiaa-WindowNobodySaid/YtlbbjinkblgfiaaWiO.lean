/- New, walked. -/
import Derived.Test.YtlbbjinkblgfiaaWiK
namespace Go.Proofs.Ytlbbjinkblgfiaa
open Go.RowKit Go.Shelf Go.Maps
def rootNd (x y a e : Int) : Nd := ⟨⟨0, -1, x, y, a, e, true⟩, []⟩
def nd0 (x y a e : Int) : Int → Option Nd := upd (fun _ => none) 0 (some (rootNd x y a e))
/-- A tree of a call's own. -/
def TreeNew (w : World) (x y a e : Int) (t : Nat) (w' : World) : Prop := ∃ l, l.nb = upd (fun _ => none) 0 (l.nb 0) ∧ TreeH w' t l (nd0 x y a e) 0 1 ∧ Below w.heap.size w w' ∧ ∀ b, l.foot t b → w.heap.size ≤ b
theorem empty_v (x y a b : Int) (w : World) : Calls Try.prog 30 #[.agg #[.int .i64 x, .int .i64 y, .int .i64 a, .int .i64 b]] w fun e w' => e = .returned (.bool (emptyB x y a b)) ∧ Below w.heap.size w w' := empty_c x y a b w
theorem new_wrong {x y a b : Int} (w : World) (hr : emptyB x y a b = true) : Calls Try.prog 9 #[.agg #[.int .i64 x, .int .i64 y, .int .i64 a, .int .i64 b]] w fun e w' => e = .returned (.tuple #[.pointer none, .int .i64 10]) ∧ Below w.heap.size w w' := by
  have HR := Lib.hid (fun W => empty_v x y a b W)
  rw [hr] at HR
  clear hr
  go_enter Try.func9, Try.ntmps9
  go_wp2_with (go_at_call 30; ((with_reducible refine (HR.out _).mono ?_); rintro e w' ⟨rfl, hb⟩))
  go_ret2
  exact ⟨rfl, hb.on ((Below.refl _ _).alloc (Nat.le_refl _) _) (by simp)⟩
def keptA (x y a e : Int) : Array Value := #[.int .i64 0, .int .i64 (-1), .int .i64 x, .int .i64 y, .int .i64 a, .int .i64 e, .bool true, .slice none 0 0]
theorem new_made (w w1 W4 : World) (x y a e : Int) (hb1 : Below w.heap.size w w1) (hM : MapAt W4 (w1.heap.size + 1) (upd (fun _ => none) 0 (some w1.heap.size)) 1) (hg : ((w1.alloc (.cells (keptA x y a e) 77)).alloc (.map #[] 0)).grownBy W4 (some (w1.heap.size + 1))) :
    TreeNew w x y a e W4.heap.size (W4.alloc (.cells #[.map (some (w1.heap.size + 1)), .int .i64 0] 68)) := by
  have hs := hg.size
  simp at hs
  have hk : Blk W4 w1.heap.size 77 (keptA x y a e) := ((Blk.new w1 77 (keptA x y a e)).alloc _).grown hg (by simp)
  have h1 := hb1.size
  refine ⟨⟨w1.heap.size + 1, upd (fun _ => none) 0 (some w1.heap.size), fun _ => .slice none 0 0⟩, by show upd (fun _ => none) 0 (some w1.heap.size) = upd (fun _ => none) 0 (upd (fun _ => none) 0 (some w1.heap.size) 0); rw [upd_same], ⟨Blk.new _ _ _, hM.kept (World.grownBy_alloc _ _ none) (by simp), fun i => ?_, fun i b d hb hd => ?_, fun i j b hi hj => ?_, fun i j b _ _ hi => by cases hi⟩, ?_, fun b hb => ?_⟩
  · show (upd (fun _ => none) 0 (some w1.heap.size) i).isSome = (nd0 x y a e i).isSome
    unfold nd0 upd
    split <;> rfl
  · have hb' : upd (fun _ => none) 0 (some w1.heap.size) i = some b := hb
    by_cases hi : i = 0
    · subst hi
      rw [upd_same] at hb'
      unfold nd0 at hd
      rw [upd_same] at hd
      injection hb' with hb'
      injection hd with hd
      subst hb' hd
      exact ⟨hk.alloc _, World.ownsRow_nil _ _ _ _⟩
    · rw [upd_other _ _ hi] at hb'; cases hb'
  · have hi' : upd (fun _ => none) 0 (some w1.heap.size) i = some b := hi
    have hj' : upd (fun _ => none) 0 (some w1.heap.size) j = some b := hj
    by_cases h2 : i = 0
    · by_cases h3 : j = 0
      · rw [h2, h3]
      · rw [upd_other _ _ h3] at hj'; cases hj'
    · rw [upd_other _ _ h2] at hi'; cases hi'
  · exact (below_only ((hb1.alloc hb1.size _).alloc (by simp; omega) _) hg (by simp; omega) (fun g hgg => by injection hgg with hgg; omega)).alloc (by omega) _
  · rcases hb with rfl | rfl | ⟨i, hi⟩ | ⟨i, hi, hv⟩
    · omega
    · show w.heap.size ≤ w1.heap.size + 1; omega
    · have hi' : upd (fun _ => none) 0 (some w1.heap.size) i = some b := hi
      by_cases h2 : i = 0
      · subst h2
        rw [upd_same] at hi'
        injection hi' with hi'
        omega
      · rw [upd_other _ _ h2] at hi'; cases hi'
    · cases hv
set_option maxRecDepth 100000 in
set_option maxHeartbeats 2000000 in
theorem new_c {x y a b : Int} (w : World) (hr : emptyB x y a b = false) : Calls Try.prog 9 #[.agg #[.int .i64 x, .int .i64 y, .int .i64 a, .int .i64 b]] w fun e w' => ∃ t, e = .returned (.tuple #[treeP t, .int .i64 0]) ∧ TreeNew w x y a b t w' := by
  have HR := Lib.hid (fun W => empty_v x y a b W)
  rw [hr] at HR
  clear hr
  have hmm := @run_makeMap Try.prog
  obtain ⟨wb, hwb⟩ : ∃ wb, wb = w.alloc (.cells #[.int .i64 x, .int .i64 y, .int .i64 a, .int .i64 b] 23) := ⟨_, rfl⟩
  have hbx : Blk wb w.heap.size 23 #[.int .i64 x, .int .i64 y, .int .i64 a, .int .i64 b] := by rw [hwb]; exact Blk.new w _ _
  have hbel : Below w.heap.size w wb := by rw [hwb]; exact (Below.refl _ _).alloc (Nat.le_refl _) _
  have HBX := Lib.hid (fun W (hW : Below wb.heap.size wb W) => (hbx.next hW).c4.1)
  have HBW := Lib.hid (fun W (hW : Below wb.heap.size wb W) => hW.on hbel hbel.size)
  obtain ⟨⟨x0, x1, x2, x3⟩, -⟩ := hbx.c4
  have HW := Lib.hid hwb
  clear hbx hbel
  go_enter Try.func9, Try.ntmps9
  go_upto_region 1 with fail
  rw [← HW.out]
  clear hwb
  go_upto_region 3 with (go_at_call 30; ((with_reducible refine (HR.out _).mono ?_); rintro e w1 ⟨rfl, hb⟩))
  obtain ⟨y0, y1, y2, y3⟩ := HBX.out _ hb
  have hb1 := HBW.out _ hb
  have HB1 := Lib.hid hb1
  clear x0 x1 x2 x3 hb hb1
  obtain ⟨W4, hrun, hM, hg⟩ := (MapAt.made (w1.alloc (.cells (keptA x y a b) 77))).put i64_0 (by decide) rfl w1.heap.size
  have HT := Lib.hid (new_made w w1 W4 x y a b HB1.out (by simpa using hM) (by simpa using hg))
  clear hM hg
  unfold keptA ptrOf at hrun
  rw [World.size_alloc] at hrun
  go_wp2_with fail
  go_ret2
  exact ⟨_, rfl, HT.out⟩
end Go.Proofs.Ytlbbjinkblgfiaa
