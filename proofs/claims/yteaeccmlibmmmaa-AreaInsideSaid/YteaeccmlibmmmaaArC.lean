/- area's calls that look screens over, walked: shared, onOne, isWrong, At, Find, gap, away. -/
import Derived.Test.YteaeccmlibmmmaaArB
namespace Go.Proofs.Yteaeccmlibmmmaa.Ar
open Go.RowKit Go.Shelf
abbrev OutC (o : Out) : Array Value := #[.string o.n, .int .i64 o.x, .int .i64 o.y, .int .i64 o.w, .int .i64 o.h]
abbrev RcC (r : Rc) : Array Value := #[.int .i64 r.x, .int .i64 r.y, .int .i64 r.w, .int .i64 r.h]
set_option maxHeartbeats 1000000 in
theorem shared_c (o : Out) (r : Rc) (w : World) : Calls Try.prog 41 #[outV o, rcV r] w fun e w' => e = .returned (.int .i64 (sharedI o r)) ∧ Below w.heap.size w w' := by
  have HI := Lib.hid (fun W => inter_c o.x o.y o.w o.h r.x r.y r.w r.h W)
  obtain ⟨i, hi⟩ : ∃ i, i = interR o.x o.y o.w o.h r.x r.y r.w r.h := ⟨_, rfl⟩
  have HA := Lib.hid (fun W => area_c i.x i.y i.w i.h W)
  have HS : Hid (sharedI o r = areaI i.x i.y i.w i.h) := by unfold sharedI; rw [← hi]; exact rfl
  rw [← hi] at HI
  clear hi
  go_enter Try.func41, Try.ntmps41
  go_wp2_with fail
  refine (HI.out _).mono ?_
  rintro e w1 ⟨rfl, hb⟩
  go_wp2_with fail
  refine (HA.out _).mono ?_
  rintro e w2 ⟨rfl, hb2⟩
  go_wp2_with fail
  go_ret
  have h0 := ((Below.refl w.heap.size w).alloc (Nat.le_refl _) (OutB o)).alloc (by simp) (.cells (RcC r) 29)
  have h1 := h0.trans (hb.mono h0.size)
  exact ⟨by rw [HS.out]; rfl, h1.trans (hb2.mono h1.size)⟩
theorem wrong_c (o : Out) (w : World) : Calls Try.prog 39 #[outV o] w fun e w' => e = .returned (.bool (wrongO o)) ∧ Below w.heap.size w w' := by
  have HR := Lib.hid (fun W => right_c o.x o.y o.w o.h W)
  obtain ⟨b, hb⟩ : ∃ b, b = rightB o.x o.y o.w o.h := ⟨_, rfl⟩
  have HW : Hid (wrongO o = !b) := by unfold wrongO; rw [← hb]; exact rfl
  rw [← hb] at HR
  clear hb
  go_enter Try.func39, Try.ntmps39
  go_wp2_with fail
  refine (HR.out _).mono ?_
  rintro e w1 ⟨rfl, hb⟩
  go_wp2_with fail
  go_ret
  have h0 := (Below.refl w.heap.size w).alloc (Nat.le_refl _) (OutB o)
  exact ⟨by rw [HW.out]; rfl, h0.trans (hb.mono h0.size)⟩
theorem tells_wrong (w : World) : TellsO 39 #[] wrongO w.heap.size w := fun r W _ => wrong_c r W
theorem tells_one (g : Nat) (r : Rc) (w : World) (hb : Blk w g 29 (RcC r)) : TellsO 54 #[.pointer (some ⟨g, 0, none⟩)] (fun o => decide (0 < sharedI o r)) w.heap.size w := by
  intro o W hW
  obtain ⟨⟨c0, c1, c2, c3⟩, -⟩ := (hb.next hW).c4
  have hg := (hb.next hW).lt
  have HS := Lib.hid (fun W => shared_c o r W)
  show Calls Try.prog 54 #[outV o, .pointer (some ⟨g, 0, none⟩)] W fun e w' => e = .returned (.bool (decide (0 < sharedI o r))) ∧ Below W.heap.size W w'
  obtain ⟨n, hn⟩ : ∃ n, n = sharedI o r := ⟨_, rfl⟩
  rw [← hn] at HS ⊢
  clear hn
  show Calls Try.prog 54 #[outV o, .pointer (some ⟨g, 0, none⟩)] W _
  go_enter Try.func54, Try.ntmps54
  go_wp2_with fail
  refine (HS.out _).mono ?_
  rintro e w1 ⟨rfl, hb1⟩
  go_wp2_with fail
  go_ret
  exact ⟨rfl, (((Below.refl _ _).alloc (Nat.le_refl _) _).trans (hb1.mono (by simp)))⟩
theorem onOne_c (v : Value) (l : List Out) (r : Rc) (w : World) (hR : RdK encO 5 w v l) (hn : l.length ≤ 9223372036854775807) :
    Calls Try.prog 28 #[v, rcV r] w fun e w' => e = .returned (.bool (l.any fun o => decide (0 < sharedI o r))) ∧ Below w.heap.size w w' := by
  have hq := Blk.new w 29 (RcC r)
  have hb0 := (Below.refl w.heap.size w).alloc (Nat.le_refl _) (.cells (RcC r) 29)
  have HC := Lib.hid (contains_o 54 #[.pointer (some ⟨w.heap.size, 0, none⟩)] _ v l _ enters_one (tells_one w.heap.size r _ hq) (hR.below hb0) hn)
  obtain ⟨b, hb⟩ : ∃ b, b = l.any fun o => decide (0 < sharedI o r) := ⟨_, rfl⟩
  rw [← hb] at HC ⊢
  have HB := Lib.hid hb0
  have hmf : ∀ (fn : Fn) (first cap : Array Value) (w : World), (Instr.makeFunc fn first cap).run Try.prog w = .ok (.func fn first cap) w := fun _ _ _ _ => rfl
  clear hq hb0 hR hb
  go_enter Try.func28, Try.ntmps28
  go_wp2_with fail
  refine HC.out.mono ?_
  rintro e w1 ⟨rfl, hb⟩
  go_wp2_with fail
  go_ret
  exact ⟨rfl, HB.out.trans (hb.mono HB.out.size)⟩
theorem at_c (v : Value) (l : List Out) (p q : Int) (w : World) (hR : RdK encO 5 w v l) (hn : l.length ≤ 9223372036854775807) :
    Calls Try.prog 15 #[v, .agg #[.int .i64 p, .int .i64 q]] w fun e w' => e = .returned (.tuple #[.int .i64 (max (firI (hasO p q) l) 0), .bool (decide (0 ≤ firI (hasO p q) l))]) ∧ Below w.heap.size w w' := by
  have hq := Blk.new w 36 #[.int .i64 p, .int .i64 q]
  have hb0 := (Below.refl w.heap.size w).alloc (Nat.le_refl _) (.cells #[.int .i64 p, .int .i64 q] 36)
  have HC := Lib.hid (firstOf_c 36 #[.pointer (some ⟨w.heap.size, 0, none⟩)] _ v l _ enters_at (tells_at w.heap.size p q _ hq) (hR.below hb0) hn)
  unfold fstR at HC
  obtain ⟨z, hz⟩ : ∃ z, z = firI (hasO p q) l := ⟨_, rfl⟩
  rw [← hz] at HC ⊢
  obtain ⟨m, hm⟩ : ∃ m, m = max z 0 := ⟨_, rfl⟩
  obtain ⟨d, hd⟩ : ∃ d, d = decide (0 ≤ z) := ⟨_, rfl⟩
  rw [← hm, ← hd] at HC ⊢
  have HB := Lib.hid hb0
  have hmf : ∀ (fn : Fn) (first cap : Array Value) (w : World), (Instr.makeFunc fn first cap).run Try.prog w = .ok (.func fn first cap) w := fun _ _ _ _ => rfl
  clear hq hb0 hR hz hm hd
  go_enter Try.func15, Try.ntmps15
  go_wp2_with fail
  refine HC.out.mono ?_
  rintro e w1 ⟨rfl, hb⟩
  go_wp2_with fail
  refine bodyPost_ret (results_tmp2 rfl _ _ _) rfl ?_
  exact ⟨rfl, HB.out.trans (hb.mono HB.out.size)⟩
theorem find_c (v : Value) (l : List Out) (s : ByteArray) (w : World) (hR : RdK encO 5 w v l) (hn : l.length ≤ 9223372036854775807) :
    Calls Try.prog 16 #[v, .string s] w fun e w' => e = .returned (.tuple #[.int .i64 (max (firI (namedO s) l) 0), .bool (decide (0 ≤ firI (namedO s) l))]) ∧ Below w.heap.size w w' := by
  have hq := Blk.new w 9 #[.string s]
  have hb0 := (Below.refl w.heap.size w).alloc (Nat.le_refl _) (.cells #[.string s] 9)
  have HC := Lib.hid (firstOf_c 37 #[.pointer (some ⟨w.heap.size, 0, none⟩)] _ v l _ enters_find (tells_find w.heap.size s _ hq) (hR.below hb0) hn)
  unfold fstR at HC
  obtain ⟨z, hz⟩ : ∃ z, z = firI (namedO s) l := ⟨_, rfl⟩
  rw [← hz] at HC ⊢
  obtain ⟨m, hm⟩ : ∃ m, m = max z 0 := ⟨_, rfl⟩
  obtain ⟨d, hd⟩ : ∃ d, d = decide (0 ≤ z) := ⟨_, rfl⟩
  rw [← hm, ← hd] at HC ⊢
  have HB := Lib.hid hb0
  have hmf : ∀ (fn : Fn) (first cap : Array Value) (w : World), (Instr.makeFunc fn first cap).run Try.prog w = .ok (.func fn first cap) w := fun _ _ _ _ => rfl
  clear hq hb0 hR hz hm hd
  go_enter Try.func16, Try.ntmps16
  go_wp2_with fail
  refine HC.out.mono ?_
  rintro e w1 ⟨rfl, hb⟩
  go_wp2_with fail
  refine bodyPost_ret (results_tmp2 rfl _ _ _) rfl ?_
  exact ⟨rfl, HB.out.trans (hb.mono HB.out.size)⟩
/-- How many places lie between two runs. -/
def gapI (a b c d : Int) : Int := max (max 0 (c - b)) (a - d)
def awayI (o : Out) (r : Rc) : Int := gapI o.x (o.x + o.w) r.x (r.x + r.w) * gapI o.x (o.x + o.w) r.x (r.x + r.w) + gapI o.y (o.y + o.h) r.y (r.y + r.h) * gapI o.y (o.y + o.h) r.y (r.y + r.h)
theorem gap_c (a b c d : Int) (w : World) (h1 : -100000 ≤ a ∧ a ≤ 100000) (h2 : -100000 ≤ b ∧ b ≤ 100000) (h3 : -100000 ≤ c ∧ c ≤ 100000) (h4 : -100000 ≤ d ∧ d ≤ 100000) :
    Calls Try.prog 66 #[.int .i64 a, .int .i64 b, .int .i64 c, .int .i64 d] w fun e w' => e = .returned (.int .i64 (gapI a b c d)) ∧ w = w' := by
  have e1 : IntKind.i64.wrap (c - b) = c - b := IntWalk.i64_in _ (by omega)
  have e2 : IntKind.i64.wrap (a - d) = a - d := IntWalk.i64_in _ (by omega)
  have HG : Hid (∀ v : Int, (0 ≤ v ∧ c - b ≤ v ∧ a - d ≤ v ∧ (v = 0 ∨ v = c - b ∨ v = a - d)) → Ending.returned (.int .i64 v) = .returned (.int .i64 (gapI a b c d))) := fun v hv => by
    congr 2; unfold gapI; omega
  clear h1 h2 h3 h4
  by_cases g1 : b < c
  all_goals
    go_enter Try.func66, Try.ntmps66
    go_wp2_with fail
    all_goals
      go_ret
      exact ⟨HG.out _ (by omega), rfl⟩
end Go.Proofs.Yteaeccmlibmmmaa.Ar
