/- area.Work, walked. -/
import Derived.Test.YteaeccmlibmmmaaArC
namespace Go.Proofs.Yteaeccmlibmmmaa.Ar
open Go.RowKit Go.Shelf
/-- How much room is kept free: of which screen, and at its edges. -/
structure Str where
  n : ByteArray
  l : Int
  r : Int
  t : Int
  b : Int
def encS (s : Str) : List Value := [.string s.n, .int .i64 s.l, .int .i64 s.r, .int .i64 s.t, .int .i64 s.b]
abbrev strV (s : Str) : Value := .agg #[.string s.n, .int .i64 s.l, .int .i64 s.r, .int .i64 s.t, .int .i64 s.b]
abbrev StrC (s : Str) : Array Value := #[.string s.n, .int .i64 s.l, .int .i64 s.r, .int .i64 s.t, .int .i64 s.b]
abbrev StrB (s : Str) : Obj := .cells #[.string s.n, .int .i64 s.l, .int .i64 s.r, .int .i64 s.t, .int .i64 s.b] 46
theorem RdK.str {w : World} {b o j : Nat} {r : Str} (h : ∀ (i : Nat) (u : Value), (encS r)[i]? = some u → w.cell? ⟨b, o + j * 5 + i, none⟩ = some u) :
    w.cell? ⟨b, o + j * 5, none⟩ = some (.string r.n) ∧ w.cell? ⟨b, o + j * 5 + 1, none⟩ = some (.int .i64 r.l) ∧ w.cell? ⟨b, o + j * 5 + 2, none⟩ = some (.int .i64 r.r) ∧ w.cell? ⟨b, o + j * 5 + 3, none⟩ = some (.int .i64 r.t) ∧ w.cell? ⟨b, o + j * 5 + 4, none⟩ = some (.int .i64 r.b) :=
  ⟨h 0 _ rfl, h 1 _ rfl, h 2 _ rfl, h 3 _ rfl, h 4 _ rfl⟩
def isOf (n : ByteArray) (s : Str) : Bool := s.n.toList == n.toList
/-- The greatest number of one edge among the struts of a name; 0, if there is none above 0. -/
def stg (n : ByteArray) (f : Str → Int) (l : List Str) : Int := l.foldl (fun m s => if isOf n s = true then max m (f s) else m) 0
theorem stg_snoc {n : ByteArray} {f : Str → Int} {l : List Str} {k : Nat} {s : Str} (h : l[k]? = some s) : stg n f (l.take (k + 1)) = if isOf n s = true then max (stg n f (l.take k)) (f s) else stg n f (l.take k) := by
  obtain ⟨hl, rfl⟩ := List.getElem?_eq_some_iff.1 h
  unfold stg
  rw [List.take_succ_eq_append_getElem hl, List.foldl_append]
  rfl
theorem stg_all {n : ByteArray} {f : Str → Int} {l : List Str} {k : Nat} (h : l.length ≤ k) : stg n f (l.take k) = stg n f l := by rw [List.take_of_length_le h]
/-- The part of a screen that is free. -/
def workI (o : Out) (l : List Str) : Rc := insetR o.x o.y o.w o.h (stg o.n (·.l) l) (stg o.n (·.t) l) (stg o.n (·.r) l) (stg o.n (·.b) l)
abbrev EdC (a b c d : Int) : Array Value := #[.int .i64 a, .int .i64 b, .int .i64 c, .int .i64 d]
set_option maxHeartbeats 8000000 in
set_option maxRecDepth 100000 in
theorem Work_c (o : Out) (v : Value) (l : List Str) (w : World) (hR : RdK encS 5 w v l) (hn : l.length ≤ 9223372036854775807) :
    Calls Try.prog 13 #[outV o, v] w fun e w' => e = .returned (rcV (workI o l)) ∧ Below w.heap.size w w' := by
  obtain ⟨p, c, rfl, hcell⟩ := hR
  have HC := Lib.hid hcell
  obtain ⟨n, hln⟩ : ∃ n, n = l.length := ⟨_, rfl⟩
  rw [← hln] at hn ⊢
  have HN := Lib.hid hln
  obtain ⟨wB, hwB⟩ : ∃ wB, wB = ((w.alloc (OutB o)).alloc (.cells (EdC 0 0 0 0) 29)).alloc (.cells (EdC 0 0 0 0) 58) := ⟨_, rfl⟩
  have hB0 : Below w.heap.size w wB := by rw [hwB]; exact (((Below.refl w.heap.size w).alloc (Nat.le_refl _) _).alloc (by simp) _).alloc (by simp; omega) _
  have hQ0 : Blk wB w.heap.size 31 (OutC o) := by rw [hwB]; exact ((Blk.new w 31 _).alloc _).alloc _
  have hZ0 : Blk wB (w.heap.size + 1) 29 (EdC 0 0 0 0) := by
    rw [hwB]; have := (Blk.new (w.alloc (OutB o)) 29 (EdC 0 0 0 0)).alloc (.cells (EdC 0 0 0 0) 58); rwa [World.size_alloc] at this
  have hE0 : Blk wB (w.heap.size + 1 + 1) 58 (EdC 0 0 0 0) := by
    rw [hwB]; have := Blk.new ((w.alloc (OutB o)).alloc (.cells (EdC 0 0 0 0) 29)) 58 (EdC 0 0 0 0); rwa [World.size_alloc, World.size_alloc] at this
  have HWB := Lib.hid hwB
  have HIN := Lib.hid (fun W => inset_c o.x o.y o.w o.h (stg o.n (·.l) l) (stg o.n (·.t) l) (stg o.n (·.r) l) (stg o.n (·.b) l) W)
  have HWI : Hid (workI o l = insetR o.x o.y o.w o.h (stg o.n (·.l) l) (stg o.n (·.t) l) (stg o.n (·.r) l) (stg o.n (·.b) l)) := rfl
  clear hcell hln hwB
  go_enter Try.func13, Try.ntmps13
  go_upto_region 3 with fail
  rw [← HWB.out]
  go_loopw [10] (fun z wr => ∃ k : Nat, k ≤ n ∧ z = .int .i64 k ∧ Below w.heap.size w wr ∧ Blk wr w.heap.size 31 (OutC o) ∧ Blk wr (w.heap.size + 1) 29 (EdC 0 0 0 0) ∧ Blk wr (w.heap.size + 1 + 1) 58 (EdC (stg o.n (·.l) (l.take k)) (stg o.n (·.t) (l.take k)) (stg o.n (·.r) (l.take k)) (stg o.n (·.b) (l.take k)))) (fun z _ => n - (intOf z).toNat)
  case atStart => exact ⟨0, Nat.zero_le _, rfl, hB0, hQ0, hZ0, hE0⟩
  case round =>
    clear hB0 hQ0 hZ0 hE0
    obtain ⟨k, hk, rfl, hB, hQ, hZ, hE⟩ := hrel
    by_cases hlt : k < n
    · obtain ⟨x, hx⟩ : ∃ x, l[k]? = some x := ⟨_, List.getElem?_eq_getElem (by rw [← HN.out]; exact hlt)⟩
      obtain ⟨b, o', rfl, hb1, hb2⟩ := HC.out k x hx
      obtain ⟨y0, y1, y2, y3, y4⟩ := RdK.str (w := wr) (fun i u hu => (hB.cell (p := ⟨b, o' + k * 5 + i, none⟩) hb1).trans (hb2 i u hu))
      have hi0 : (0 : Int) ≤ (k : Int) := by omega
      have hi1 : (k : Int) < (n : Int) := by omega
      have s1 := stg_snoc (n := o.n) (f := (·.l)) hx
      have s2 := stg_snoc (n := o.n) (f := (·.t)) hx
      have s3 := stg_snoc (n := o.n) (f := (·.r)) hx
      have s4 := stg_snoc (n := o.n) (f := (·.b)) hx
      obtain ⟨a1, h1⟩ : ∃ a, a = stg o.n (·.l) (l.take k) := ⟨_, rfl⟩
      obtain ⟨a2, h2⟩ : ∃ a, a = stg o.n (·.t) (l.take k) := ⟨_, rfl⟩
      obtain ⟨a3, h3⟩ : ∃ a, a = stg o.n (·.r) (l.take k) := ⟨_, rfl⟩
      obtain ⟨a4, h4⟩ : ∃ a, a = stg o.n (·.b) (l.take k) := ⟨_, rfl⟩
      rw [← h1] at s1 hE
      rw [← h2] at s2 hE
      rw [← h3] at s3 hE
      rw [← h4] at s4 hE
      have hbx := (Below.refl wr.heap.size wr).alloc (Nat.le_refl _) (StrB x)
      have HBB := Lib.hid hB
      have HQQ := Lib.hid hQ
      have HZZ := Lib.hid hZ
      have HEE := Lib.hid hE
      have HBX := Lib.hid hbx
      have hlE := hE.lt
      have hlQ := hQ.lt
      obtain ⟨⟨q0, q1, q2, q3, q4⟩, -⟩ : (wr.cell? ⟨w.heap.size, 0, none⟩ = some (.string o.n) ∧ wr.cell? ⟨w.heap.size, 1, none⟩ = some (.int .i64 o.x) ∧ wr.cell? ⟨w.heap.size, 2, none⟩ = some (.int .i64 o.y) ∧ wr.cell? ⟨w.heap.size, 3, none⟩ = some (.int .i64 o.w) ∧ wr.cell? ⟨w.heap.size, 4, none⟩ = some (.int .i64 o.h)) ∧ True := ⟨⟨hQ.at_ (i := 0) rfl, hQ.at_ (i := 1) rfl, hQ.at_ (i := 2) rfl, hQ.at_ (i := 3) rfl, hQ.at_ (i := 4) rfl⟩, trivial⟩
      obtain ⟨⟨e0, e1, e2, e3⟩, f0, f1, f2, f3⟩ := hE.c4
      have hnE : w.heap.size + 1 + 1 ≠ wr.heap.size := Nat.ne_of_lt hlE
      have hnQ : w.heap.size ≠ wr.heap.size := Nat.ne_of_lt hlQ
      cases hn9 : (x.n.toList == o.n.toList)
      · have hi : isOf o.n x = false := hn9
        rw [if_neg (by rw [hi]; simp)] at s1 s2 s3 s4
        have HS1 := Lib.hid s1
        have HS2 := Lib.hid s2
        have HS3 := Lib.hid s3
        have HS4 := Lib.hid s4
        clear hb1 hb2 hx hB hQ hZ hE s1 s2 s3 s4 h1 h2 h3 h4 hi
        go_wp2_with fail
        go_roundw
        case rel => exact ⟨k + 1, by omega, by go_num, HBB.out.trans (HBX.out.mono HBB.out.size), HQQ.out.next HBX.out, HZZ.out.next HBX.out, by rw [HS1.out, HS2.out, HS3.out, HS4.out]; exact HEE.out.next HBX.out⟩
        case measure => simp [intOf]; omega
      · have hi : isOf o.n x = true := hn9
        rw [if_pos hi] at s1 s2 s3 s4
        have HS1 := Lib.hid s1
        have HS2 := Lib.hid s2
        have HS3 := Lib.hid s3
        have HS4 := Lib.hid s4
        clear hb1 hb2 hx hB hQ hZ hE s1 s2 s3 s4 h1 h2 h3 h4 hi
        have HEND : Hid (∀ b1 b2 b3 b4 : Int, b1 = max a1 x.l → b2 = max a2 x.t → b3 = max a3 x.r → b4 = max a4 x.b → ∀ W, W = ((((wr.setCell ⟨w.heap.size + 1 + 1, 0, none⟩ (.int .i64 b1)).setCell ⟨w.heap.size + 1 + 1, 1, none⟩ (.int .i64 b2)).setCell ⟨w.heap.size + 1 + 1, 2, none⟩ (.int .i64 b3)).setCell ⟨w.heap.size + 1 + 1, 3, none⟩ (.int .i64 b4)).alloc (StrB x) → Below w.heap.size w W ∧ Blk W w.heap.size 31 (OutC o) ∧ Blk W (w.heap.size + 1) 29 (EdC 0 0 0 0) ∧ Blk W (w.heap.size + 1 + 1) 58 (EdC (stg o.n (·.l) (l.take (k + 1))) (stg o.n (·.t) (l.take (k + 1))) (stg o.n (·.r) (l.take (k + 1))) (stg o.n (·.b) (l.take (k + 1))))) := by
          intro b1 b2 b3 b4 g1 g2 g3 g4 W hW
          subst hW
          rw [HS1.out, HS2.out, HS3.out, HS4.out, ← g1, ← g2, ← g3, ← g4]
          have k1 := (((HBB.out.setCell (p := ⟨w.heap.size + 1 + 1, 0, none⟩) (by simp; omega) (.int .i64 b1)).setCell (p := ⟨w.heap.size + 1 + 1, 1, none⟩) (by simp; omega) (.int .i64 b2)).setCell (p := ⟨w.heap.size + 1 + 1, 2, none⟩) (by simp; omega) (.int .i64 b3)).setCell (p := ⟨w.heap.size + 1 + 1, 3, none⟩) (by simp; omega) (.int .i64 b4)
          have k2 := (((HQQ.out.far (p := ⟨w.heap.size + 1 + 1, 0, none⟩) (by simp; omega) (.int .i64 b1)).far (p := ⟨w.heap.size + 1 + 1, 1, none⟩) (by simp; omega) (.int .i64 b2)).far (p := ⟨w.heap.size + 1 + 1, 2, none⟩) (by simp; omega) (.int .i64 b3)).far (p := ⟨w.heap.size + 1 + 1, 3, none⟩) (by simp; omega) (.int .i64 b4)
          have k3 := (((HZZ.out.far (p := ⟨w.heap.size + 1 + 1, 0, none⟩) (by simp) (.int .i64 b1)).far (p := ⟨w.heap.size + 1 + 1, 1, none⟩) (by simp) (.int .i64 b2)).far (p := ⟨w.heap.size + 1 + 1, 2, none⟩) (by simp) (.int .i64 b3)).far (p := ⟨w.heap.size + 1 + 1, 3, none⟩) (by simp) (.int .i64 b4)
          have k4 := (((HEE.out.set_ 0 (.int .i64 b1)).set_ 1 (.int .i64 b2)).set_ 2 (.int .i64 b3)).set_ 3 (.int .i64 b4)
          exact ⟨k1.alloc k1.size _, k2.alloc _, k3.alloc _, k4.alloc _⟩
        clear HS1 HS2 HS3 HS4 HBB HQQ HZZ HEE
        go_wp2_with fail
        all_goals
          go_roundw
          case rel =>
            refine ⟨k + 1, by omega, by go_num, HEND.out _ _ _ _ ?_ ?_ ?_ ?_ _ rfl⟩
            all_goals (split <;> omega)
          case measure => simp [intOf]; omega
    · have t1 := stg_all (n := o.n) (f := (·.l)) (l := l) (k := k) (by have := HN.out; omega)
      have t2 := stg_all (n := o.n) (f := (·.t)) (l := l) (k := k) (by have := HN.out; omega)
      have t3 := stg_all (n := o.n) (f := (·.r)) (l := l) (k := k) (by have := HN.out; omega)
      have t4 := stg_all (n := o.n) (f := (·.b)) (l := l) (k := k) (by have := HN.out; omega)
      rw [t1, t2, t3, t4] at hE
      clear t1 t2 t3 t4
      obtain ⟨a1, h1⟩ : ∃ a, a = stg o.n (·.l) l := ⟨_, rfl⟩
      obtain ⟨a2, h2⟩ : ∃ a, a = stg o.n (·.t) l := ⟨_, rfl⟩
      obtain ⟨a3, h3⟩ : ∃ a, a = stg o.n (·.r) l := ⟨_, rfl⟩
      obtain ⟨a4, h4⟩ : ∃ a, a = stg o.n (·.b) l := ⟨_, rfl⟩
      rw [← h1, ← h2, ← h3, ← h4] at hE HIN HWI
      obtain ⟨i, hi⟩ : ∃ i, i = insetR o.x o.y o.w o.h a1 a2 a3 a4 := ⟨_, rfl⟩
      rw [← hi] at HIN HWI
      obtain ⟨⟨e0, e1, e2, e3⟩, -⟩ := hE.c4
      obtain ⟨q1, q2, q3, q4⟩ : (wr.cell? ⟨w.heap.size, 1, none⟩ = some (.int .i64 o.x) ∧ wr.cell? ⟨w.heap.size, 2, none⟩ = some (.int .i64 o.y) ∧ wr.cell? ⟨w.heap.size, 3, none⟩ = some (.int .i64 o.w) ∧ wr.cell? ⟨w.heap.size, 4, none⟩ = some (.int .i64 o.h)) := ⟨hQ.at_ (i := 1) rfl, hQ.at_ (i := 2) rfl, hQ.at_ (i := 3) rfl, hQ.at_ (i := 4) rfl⟩
      have HBB := Lib.hid hB
      have HZZ := Lib.hid hZ
      clear h1 h2 h3 h4 hi hB hQ hZ hE
      go_wp2_with fail
      refine (HIN.out _).mono ?_
      rintro e w5 ⟨rfl, hb⟩
      have HB5 := Lib.hid (HBB.out.trans (hb.mono HBB.out.size))
      have HZ5 := Lib.hid (HZZ.out.next hb)
      clear hb
      obtain ⟨⟨z0, z1, z2, z3⟩, g0, g1, g2, g3⟩ := HZ5.out.c4
      go_wp2_with fail
      have hfin := (((HZ5.out.set_ 0 (.int .i64 i.x)).set_ 1 (.int .i64 i.y)).set_ 2 (.int .i64 i.w)).set_ 3 (.int .i64 i.h)
      obtain ⟨⟨u0, u1, u2, u3⟩, -⟩ := (show Blk _ _ _ #[.int .i64 i.x, .int .i64 i.y, .int .i64 i.w, .int .i64 i.h] from hfin).c4
      refine bodyPost_ret (v := rcV i) (by simp [results, Try.results13, go_sem, u0, u1, u2, u3]) rfl ?_
      refine ⟨by rw [HWI.out], ?_⟩
      exact (((HB5.out.setCell (p := ⟨w.heap.size + 1, 0, none⟩) (by simp) _).setCell (p := ⟨w.heap.size + 1, 1, none⟩) (by simp) _).setCell (p := ⟨w.heap.size + 1, 2, none⟩) (by simp) _).setCell (p := ⟨w.heap.size + 1, 3, none⟩) (by simp) _
end Go.Proofs.Yteaeccmlibmmmaa.Ar
