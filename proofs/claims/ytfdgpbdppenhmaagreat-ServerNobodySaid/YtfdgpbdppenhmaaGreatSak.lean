/- The reference's tree: Viewable, Abs, within. -/
import Derived.Test.YtfdgpbdppenhmaaGreatSaf
import Derived.Test.YtfdgpbdppenhmaaGreatSaj
section
namespace Go.Proofs.YtfdgpbdppenhmaaGreat
open Go.RowKit Go.Shelf
/-- What a tree holds, by the document's list. -/
def ndL (R : RT) (L : List Win) : Int → Option Nd := fun i => (getR R L i).map fun v => ⟨v, kidsL L i⟩
theorem ndL_some {R : RT} {L : List Win} {i : Int} {d : Nd} (h : ndL R L i = some d) : getR R L i = some d.win ∧ d.kids = kidsL L i := by
  unfold ndL at h
  obtain ⟨v, h1, rfl⟩ := Option.map_eq_some_iff.1 h
  exact ⟨h1, rfl⟩
theorem findL_none {i : Int} {L : List Win} : findL i L = none ↔ placeN i L = none := by
  unfold findL
  cases h : placeN i L with
  | none => simp
  | some k =>
    obtain ⟨v, h1, _⟩ := placeN_get L k h
    simp [h1]
/-- The box of a tree handed over. -/
def RBox (R : RT) (sv : Value) (g : Nat) (wb W : World) : Prop := Blk W g 54 (refA R sv) ∧ Below wb.heap.size wb W
theorem RBox.next {R : RT} {sv : Value} {g : Nat} {wb W W' : World} (h : RBox R sv g wb W) (hb : Below W.heap.size W W') : RBox R sv g wb W' := ⟨h.1.next hb, hb.on h.2 h.2.size⟩
theorem RBox.cells {R : RT} {sv : Value} {g : Nat} {wb W : World} (h : RBox R sv g wb W) : W.cell? ⟨g, 0, none⟩ = some (.int .i64 R.x) ∧ W.cell? ⟨g, 1, none⟩ = some (.int .i64 R.y) ∧ W.cell? ⟨g, 2, none⟩ = some (.int .i64 R.w) ∧ W.cell? ⟨g, 3, none⟩ = some (.int .i64 R.h) ∧ W.cell? ⟨g, 4, none⟩ = some (.int .i64 R.last) ∧ W.cell? ⟨g, 5, none⟩ = some sv :=
  ⟨h.1.at_ (i := 0) rfl, h.1.at_ (i := 1) rfl, h.1.at_ (i := 2) rfl, h.1.at_ (i := 3) rfl, h.1.at_ (i := 4) rfl, h.1.at_ (i := 5) rfl⟩
section
variable {w : World} {R : RT} {sv : Value} {L : List Win}
/-- The rounds of Viewable. -/
def VwS (R : RT) (sv : Value) (L : List Win) (g : Nat) (wb : World) (m : Nat) (i : Int) (k : Nat) (y : Value) (wr : World) : Prop :=
  ∃ (m' : Nat) (j : Int), k + m' = m ∧ y = .int .i64 j ∧ Way (ndL R L) m' j ∧ viewB (ndL R L) m i = viewB (ndL R L) m' j ∧ RBox R sv g wb wr
set_option maxRecDepth 100000 in
set_option maxHeartbeats 8000000 in
theorem rview_c (h : RW w sv L) (hL : L.length ≤ 1048576) {m : Nat} {i : Int} (hW : Way (ndL R L) m i) (hm : m ≤ L.length) :
    Calls Tryz.prog 42 #[refV R sv, .int .i64 i] w fun e w' => e = .returned (.bool (viewB (ndL R L) m i)) ∧ Below w.heap.size w w' := by
  obtain ⟨wb, hwb⟩ : ∃ wb, wb = w.alloc (.cells (refA R sv) 54) := ⟨_, rfl⟩
  have hbel : Below w.heap.size w wb := by rw [hwb]; exact (Below.refl _ _).alloc (Nat.le_refl _) _
  have hbx : RBox R sv w.heap.size wb wb := ⟨by rw [hwb]; exact Blk.new w _ _, Below.refl _ _⟩
  have hRW : ∀ W, RBox R sv w.heap.size wb W → RW W sv L := fun W hW => (h.below hbel).below hW.2
  have HG := Lib.hid (fun (W : World) (hW : RBox R sv w.heap.size wb W) (j : Int) => rget_c (R := R) (hRW W hW) hL j)
  obtain ⟨p, c, rfl, -⟩ := id h
  have HB := Lib.hid hbel
  have HW := Lib.hid hwb
  have H0 := Lib.hid hbx
  have HWY := Lib.hid hW
  have HML := Lib.hid hm
  obtain ⟨n, hn⟩ : ∃ n, n = L.length := ⟨_, rfl⟩
  rw [← hn] at HG H0 HML hwb HW ⊢
  have hL2 : (n : Int) ≤ 1048576 := by omega
  clear h hbel hbx hRW hW hm hn
  go_enter Tryz.func42, Tryz.ntmps42
  go_upto_region 1 with fail
  rw [← HW.out]
  clear hwb
  go_wp2_with fail
  go_loopw [1, 5] (fun y z wr => ∃ k : Nat, k ≤ m ∧ z = .int .i64 k ∧ VwS R (.slice p n c) L w.heap.size wb m i k y wr) (fun _ z _ => m + 1 - (intOf z).toNat)
  case atStart => exact ⟨0, Nat.zero_le _, rfl, m, i, by omega, rfl, HWY.out, rfl, H0.out⟩
  case round =>
    obtain ⟨k, hk, rfl, m', j, hkm, rfl, hWj, hv, hX⟩ := hrel
    have hkn : (k : Int) ≤ (n : Int) := by have := HML.out; omega
    have hk0 : (0 : Int) ≤ (k : Int) := by omega
    obtain ⟨d, hd⟩ := hWj.there
    obtain ⟨hg, -⟩ := ndL_some hd
    have hG := HG.out wr hX j
    rw [hg] at hG
    obtain ⟨x0, x1, x2, x3, x4, x5⟩ := hX.cells
    obtain ⟨u, hu⟩ : ∃ u, u = d.win := ⟨_, rfl⟩
    rw [← hu] at hG
    have HG1 := Lib.hid (show Calls Tryz.prog 39 #[refV R (.slice p n c), .int .i64 j] wr fun e w' => e = .returned (.tuple #[winR u, .bool true]) ∧ Below wr.heap.size wr w' from hG)
    have HX := Lib.hid hX
    have HV := Lib.hid hv
    have HD := Lib.hid (And.intro hd hu)
    have HWJ := Lib.hid hWj
    obtain ⟨uid, upar, ux, uy, uw, uh, uon⟩ := u
    clear hg hG hX hv hd hu hWj
    cases uon with
    | false =>
      have HR := Lib.hid (show viewB (ndL R L) m i = false by
        have h1 : onOf (ndL R L) j = false := by unfold onOf; rw [HD.out.1]; show d.win.on = false; rw [← HD.out.2]
        rw [HV.out]; cases m' <;> simp [viewB, h1])
      go_wp2_with (go_at_call 39; ((with_reducible refine (HG1.out).mono ?_); rintro e w1 ⟨rfl, hb⟩); have HX1 := Lib.hid (HX.out.next hb); clear hb)
      go_ret
      exact ⟨ret_bool HR.out.symm, (HX1.out.2.alloc HX1.out.2.size _).on HB.out HB.out.size⟩
    | true =>
      have h1 : onOf (ndL R L) j = true := by unfold onOf; rw [HD.out.1]; show d.win.on = true; rw [← HD.out.2]
      cases m' with
      | zero =>
        obtain ⟨rfl, -⟩ := HWJ.out
        have HR := Lib.hid (show viewB (ndL R L) m i = true by rw [HV.out]; simp [viewB, h1])
        clear h1
        go_wp2_with (go_at_call 39; ((with_reducible refine (HG1.out).mono ?_); rintro e w1 ⟨rfl, hb⟩); have HX1 := Lib.hid (HX.out.next hb); clear hb)
        go_ret
        exact ⟨ret_bool HR.out.symm, (HX1.out.2.alloc HX1.out.2.size _).on HB.out HB.out.size⟩
      | succ m' =>
        obtain ⟨hz, d', hd', hW'⟩ := HWJ.out
        have hde : d' = d := by have := HD.out.1; rw [hd'] at this; injection this
        subst hde
        have hpar : d'.win.par = upar := by rw [← HD.out.2]
        rw [hpar] at hW'
        have HW' := Lib.hid hW'
        have hz1 : (j == 0) = false := by simpa using hz
        have HR := Lib.hid (show viewB (ndL R L) m i = viewB (ndL R L) m' upar by rw [HV.out]; simp [viewB, h1, parOf, hd', hpar])
        clear h1 hz hd' hW' hpar
        go_wp2_with (go_at_call 39; ((with_reducible refine (HG1.out).mono ?_); rintro e w1 ⟨rfl, hb⟩); have HX1 := Lib.hid (HX.out.next hb); clear hb)
        go_roundw
        case rel => exact ⟨k + 1, by omega, by go_num, m', upar, by omega, rfl, HW'.out, HR.out, HX1.out.next ((Below.refl _ _).alloc (Nat.le_refl _) _)⟩
        case measure => simp [intOf]; omega
set_option maxRecDepth 100000 in
set_option maxHeartbeats 4000000 in
theorem rview_none (h : RW w sv L) (hL : L.length ≤ 1048576) {i : Int} (hg : getR R L i = none) :
    Calls Tryz.prog 42 #[refV R sv, .int .i64 i] w fun e w' => e = .returned (.bool false) ∧ Below w.heap.size w w' := by
  obtain ⟨wb, hwb⟩ : ∃ wb, wb = w.alloc (.cells (refA R sv) 54) := ⟨_, rfl⟩
  have hbel : Below w.heap.size w wb := by rw [hwb]; exact (Below.refl _ _).alloc (Nat.le_refl _) _
  have hbx : RBox R sv w.heap.size wb wb := ⟨by rw [hwb]; exact Blk.new w _ _, Below.refl _ _⟩
  have hG := rget_c (R := R) (h.below hbel) hL i
  rw [hg] at hG
  obtain ⟨p, c, rfl, -⟩ := id h
  have HG := Lib.hid (show Calls Tryz.prog 39 #[refV R (.slice p L.length c), .int .i64 i] wb fun e w' => e = .returned (.tuple #[.agg #[.int .i64 0, .int .i64 0, .int .i64 0, .int .i64 0, .int .i64 0, .int .i64 0, .bool false], .bool false]) ∧ Below wb.heap.size wb w' from hG)
  obtain ⟨x0, x1, x2, x3, x4, x5⟩ := hbx.cells
  have HB := Lib.hid hbel
  have HW := Lib.hid hwb
  obtain ⟨n, hn⟩ : ∃ n, n = L.length := ⟨_, rfl⟩
  rw [← hn] at HG x5 hwb HW ⊢
  have hL2 : (n : Int) ≤ 1048576 := by omega
  have hL3 : (0 : Int) ≤ (n : Int) := by omega
  clear h hbel hbx hG hg hn
  go_enter Tryz.func42, Tryz.ntmps42
  go_upto_region 1 with fail
  rw [← HW.out]
  clear hwb
  go_wp2_with fail
  go_loopw [1, 5] (fun y z wr => y = .int .i64 i ∧ z = .int .i64 0 ∧ wr = wb) (fun _ z _ => 0)
  case atStart => exact ⟨rfl, rfl, rfl⟩
  case round =>
    obtain ⟨rfl, rfl, rfl⟩ := hrel
    go_wp2_with (go_at_call 39; ((with_reducible refine (HG.out).mono ?_); rintro e w1 ⟨rfl, hb⟩); have HB1 := Lib.hid hb; clear hb)
    go_ret
    exact ⟨rfl, (HB1.out.alloc HB1.out.size _).on HB.out HB.out.size⟩
/-- The rounds of Abs. -/
def AwS (R : RT) (sv : Value) (L : List Win) (s : Nat) (wb : World) (m : Nat) (i : Int) (k : Nat) (y : Value) (wr : World) : Prop :=
  ∃ (m' : Nat) (j ax ay : Int), k + m' = m ∧ y = .int .i64 j ∧ Way (ndL R L) m' j ∧ ax + absX (ndL R L) m' j = absX (ndL R L) m i ∧ ay + absY (ndL R L) m' j = absY (ndL R L) m i ∧ RBox R sv s wb wr ∧
    Blk wr (s + 1) 87 #[.int .i64 0, .int .i64 0] ∧ Blk wr (s + 1 + 1) 87 #[.int .i64 (IntKind.i64.wrap ax), .int .i64 (IntKind.i64.wrap ay)]
set_option maxRecDepth 100000 in
set_option maxHeartbeats 8000000 in
theorem rabs_c (h : RW w sv L) (hL : L.length ≤ 1048576) {m : Nat} {i : Int} (hW : Way (ndL R L) m i) (hm : m ≤ L.length) :
    Calls Tryz.prog 41 #[refV R sv, .int .i64 i] w fun e w' => e = .returned (.tuple #[.agg #[.int .i64 (IntKind.i64.wrap (absX (ndL R L) m i)), .int .i64 (IntKind.i64.wrap (absY (ndL R L) m i))], .bool true]) ∧ Below w.heap.size w w' := by
  obtain ⟨wb, hwb⟩ : ∃ wb, wb = ((w.alloc (.cells (refA R sv) 54)).alloc (.cells #[.int .i64 0, .int .i64 0] 87)).alloc (.cells #[.int .i64 0, .int .i64 0] 87) := ⟨_, rfl⟩
  have hbel : Below w.heap.size w wb := by rw [hwb]; exact (((Below.refl _ _).alloc (Nat.le_refl _) _).alloc (by simp) _).alloc (by simp; omega) _
  have hbA : Blk wb w.heap.size 54 (refA R sv) := by rw [hwb]; exact ((Blk.new w _ _).alloc _).alloc _
  have hbB : Blk wb (w.heap.size + 1) 87 #[.int .i64 0, .int .i64 0] := by
    rw [hwb]
    have := Blk.new (w.alloc (.cells (refA R sv) 54)) 87 #[.int .i64 0, .int .i64 0]
    rw [World.size_alloc] at this
    exact this.alloc _
  have hbC : Blk wb (w.heap.size + 1 + 1) 87 #[.int .i64 0, .int .i64 0] := by
    rw [hwb]
    have := Blk.new ((w.alloc (.cells (refA R sv) 54)).alloc (.cells #[.int .i64 0, .int .i64 0] 87)) 87 #[.int .i64 0, .int .i64 0]
    rw [World.size_alloc, World.size_alloc] at this
    exact this
  have hRW : ∀ W, Below w.heap.size w W → RW W sv L := fun W hW => h.below hW
  have HG := Lib.hid (fun (W : World) (hW : Below w.heap.size w W) (j : Int) => rget_c (R := R) (hRW W hW) hL j)
  obtain ⟨p, c, rfl, -⟩ := id h
  have HB := Lib.hid hbel
  have HW := Lib.hid hwb
  have H0 := Lib.hid (And.intro hbA (And.intro hbB hbC))
  have HWY := Lib.hid hW
  have HML := Lib.hid hm
  obtain ⟨n, hn⟩ : ∃ n, n = L.length := ⟨_, rfl⟩
  rw [← hn] at HG H0 HML hwb HW ⊢
  have hL2 : (n : Int) ≤ 1048576 := by omega
  clear h hbel hbA hbB hbC hRW hW hm hn
  go_enter Tryz.func41, Tryz.ntmps41
  go_upto_region 2 with fail
  rw [← HW.out]
  clear hwb
  go_wp2_with fail
  go_loopw [1, 7] (fun y z wr => ∃ k : Nat, k ≤ m ∧ z = .int .i64 k ∧ AwS R (.slice p n c) L w.heap.size w m i k y wr) (fun _ z _ => m + 1 - (intOf z).toNat)
  case atStart => exact ⟨0, Nat.zero_le _, rfl, m, i, 0, 0, by omega, rfl, HWY.out, by omega, by omega, ⟨H0.out.1, HB.out⟩, H0.out.2.1, H0.out.2.2⟩
  case round =>
    obtain ⟨k, hk, rfl, m', j, ax, ay, hkm, rfl, hWj, hv, hv2, hX, hZ, hP⟩ := hrel
    have hkn : (k : Int) ≤ (n : Int) := by have := HML.out; omega
    have hk0 : (0 : Int) ≤ (k : Int) := by omega
    obtain ⟨d, hd⟩ := hWj.there
    obtain ⟨hg, -⟩ := ndL_some hd
    have hG := HG.out wr hX.2 j
    rw [hg] at hG
    obtain ⟨x0, x1, x2, x3, x4, x5⟩ := hX.cells
    obtain ⟨u, hu⟩ : ∃ u, u = d.win := ⟨_, rfl⟩
    rw [← hu] at hG
    have HG1 := Lib.hid (show Calls Tryz.prog 39 #[refV R (.slice p n c), .int .i64 j] wr fun e w' => e = .returned (.tuple #[winR u, .bool true]) ∧ Below wr.heap.size wr w' from hG)
    have HX := Lib.hid (And.intro hX (And.intro hZ hP))
    have HV := Lib.hid (And.intro hv hv2)
    have HD := Lib.hid (And.intro hd hu)
    have HWJ := Lib.hid hWj
    obtain ⟨uid, upar, ux, uy, uw, uh, uon⟩ := u
    obtain ⟨px, hpx⟩ : ∃ px, px = IntKind.i64.wrap ax := ⟨_, rfl⟩
    obtain ⟨py, hpy⟩ : ∃ py, py = IntKind.i64.wrap ay := ⟨_, rfl⟩
    rw [← hpx, ← hpy] at HX
    have HPX := Lib.hid (And.intro hpx hpy)
    have HNX := Lib.hid (fun (W : World) (hW : Below wr.heap.size wr W) => And.intro (hX.next hW) (And.intro (hZ.next hW) (show Blk W (w.heap.size + 1 + 1) 87 #[.int .i64 px, .int .i64 py] from by rw [hpx, hpy]; exact hP.next hW)))
    clear hg hG hX hZ hP hv hv2 hd hu hWj hpx hpy
    cases m' with
    | zero =>
      obtain ⟨rfl, -⟩ := HWJ.out
      have HR := Lib.hid (show px = IntKind.i64.wrap (absX (ndL R L) m i) ∧ py = IntKind.i64.wrap (absY (ndL R L) m i) by
        obtain ⟨h1, h2⟩ := HV.out
        obtain ⟨h3, h4⟩ := HPX.out
        have e1 : absX (ndL R L) 0 0 = 0 := rfl
        have e2 : absY (ndL R L) 0 0 = 0 := rfl
        rw [e1] at h1; rw [e2] at h2
        rw [h3, h4, ← h1, ← h2]; constructor <;> congr 1 <;> omega)
      go_wp2_with (go_at_call 39; ((with_reducible refine (HG1.out).mono ?_); rintro e w1 ⟨rfl, hb⟩); have hX1 := HNX.out _ (hb.alloc hb.size (.cells #[.int .i64 uid, .int .i64 upar, .int .i64 ux, .int .i64 uy, .int .i64 uw, .int .i64 uh, .bool uon] 61)); obtain ⟨⟨z0, z1⟩, ⟨g0, g1⟩⟩ := hX1.2.1.c2; obtain ⟨⟨q0, q1⟩, -⟩ := hX1.2.2.c2; have HX1 := Lib.hid hX1; clear hb hX1)
      refine bodyPost_ret (v := .tuple #[.agg #[.int .i64 px, .int .i64 py], .bool true]) (by simp [results, Tryz.results41, go_sem, z0, z1]) rfl ?_
      exact ⟨by rw [HR.out.1, HR.out.2], (HX1.out.1.2.setCell (by show w.heap.size ≤ w.heap.size + 1; omega) _).setCell (by show w.heap.size ≤ w.heap.size + 1; omega) _⟩
    | succ m' =>
      obtain ⟨hz, d', hd', hW'⟩ := HWJ.out
      have hde : d' = d := by have := HD.out.1; rw [hd'] at this; injection this
      subst hde
      have hpar : d'.win.par = upar := by rw [← HD.out.2]
      have hxx : d'.win.x = ux := by rw [← HD.out.2]
      have hyy : d'.win.y = uy := by rw [← HD.out.2]
      rw [hpar] at hW'
      have HW' := Lib.hid hW'
      have hz1 : (j == 0) = false := by simpa using hz
      have HR := Lib.hid (show (ax + ux) + absX (ndL R L) m' upar = absX (ndL R L) m i ∧ (ay + uy) + absY (ndL R L) m' upar = absY (ndL R L) m i by
        obtain ⟨h1, h2⟩ := HV.out
        have e1 : absX (ndL R L) (m' + 1) j = absX (ndL R L) m' upar + ux := by simp only [absX, parOf, xOf, hd', hpar, hxx]
        have e2 : absY (ndL R L) (m' + 1) j = absY (ndL R L) m' upar + uy := by simp only [absY, parOf, yOf, hd', hpar, hyy]
        rw [e1] at h1; rw [e2] at h2
        constructor <;> omega)
      have HQ := Lib.hid (show IntKind.i64.wrap (px + ux) = IntKind.i64.wrap (ax + ux) ∧ IntKind.i64.wrap (py + uy) = IntKind.i64.wrap (ay + uy) by rw [HPX.out.1, HPX.out.2, wrap_wrap, wrap_wrap]; exact ⟨rfl, rfl⟩)
      clear hz hd' hW' hpar hxx hyy
      go_upto_region 8 with (go_at_call 39; ((with_reducible refine (HG1.out).mono ?_); rintro e w1 ⟨rfl, hb⟩); have hX1 := HNX.out _ (hb.alloc hb.size (.cells #[.int .i64 uid, .int .i64 upar, .int .i64 ux, .int .i64 uy, .int .i64 uw, .int .i64 uh, .bool uon] 61)); have hbu := Blk.new w1 61 #[.int .i64 uid, .int .i64 upar, .int .i64 ux, .int .i64 uy, .int .i64 uw, .int .i64 uh, .bool uon]; have hsz := hb.size; clear hb)
      generalize w1.alloc (.cells #[.int .i64 uid, .int .i64 upar, .int .i64 ux, .int .i64 uy, .int .i64 uw, .int .i64 uh, .bool uon] 61) = w2 at hX1 hbu ⊢
      obtain ⟨⟨q0, q1⟩, ⟨g0, g1⟩⟩ := hX1.2.2.c2
      obtain ⟨⟨-, t1, t2, t3, -, -, -⟩, -⟩ := hbu.c7
      have hlt := HX.out.2.2.lt
      have hne : w1.heap.size ≠ w.heap.size + 1 + 1 := by omega
      have HX1 := Lib.hid hX1
      clear hX1 hbu hlt hsz
      go_wp2_with fail
      go_roundw
      case rel => exact ⟨k + 1, by omega, by go_num, m', upar, ax + ux, ay + uy, by omega, rfl, HW'.out, HR.out.1, HR.out.2, by
        obtain ⟨hA, hB, hC⟩ := HX1.out
        refine ⟨⟨(hA.1.far (by show w.heap.size ≠ w.heap.size + 1 + 1; omega) _).far (by show w.heap.size ≠ w.heap.size + 1 + 1; omega) _, (hA.2.setCell (by show w.heap.size ≤ w.heap.size + 1 + 1; omega) _).setCell (by show w.heap.size ≤ w.heap.size + 1 + 1; omega) _⟩, (hB.far (by show w.heap.size + 1 ≠ w.heap.size + 1 + 1; omega) _).far (by show w.heap.size + 1 ≠ w.heap.size + 1 + 1; omega) _, ?_⟩
        have h1 := (hC.set_ 0 (.int .i64 (wrap64 (px + ux)))).set_ 1 (.int .i64 (wrap64 (py + uy)))
        rw [← HQ.out.1, ← HQ.out.2, IntWalk.i64_left, IntWalk.i64_left]
        exact h1⟩
      case measure => simp [intOf]; omega
set_option maxRecDepth 100000 in
set_option maxHeartbeats 4000000 in
theorem rabs_none (h : RW w sv L) (hL : L.length ≤ 1048576) {i : Int} (hg : getR R L i = none) :
    Calls Tryz.prog 41 #[refV R sv, .int .i64 i] w fun e w' => e = .returned (.tuple #[.agg #[.int .i64 0, .int .i64 0], .bool false]) ∧ Below w.heap.size w w' := by
  obtain ⟨wb, hwb⟩ : ∃ wb, wb = ((w.alloc (.cells (refA R sv) 54)).alloc (.cells #[.int .i64 0, .int .i64 0] 87)).alloc (.cells #[.int .i64 0, .int .i64 0] 87) := ⟨_, rfl⟩
  have hbel : Below w.heap.size w wb := by rw [hwb]; exact (((Below.refl _ _).alloc (Nat.le_refl _) _).alloc (by simp) _).alloc (by simp; omega) _
  have hbA : Blk wb w.heap.size 54 (refA R sv) := by rw [hwb]; exact ((Blk.new w _ _).alloc _).alloc _
  have hbB : Blk wb (w.heap.size + 1) 87 #[.int .i64 0, .int .i64 0] := by
    rw [hwb]
    have := Blk.new (w.alloc (.cells (refA R sv) 54)) 87 #[.int .i64 0, .int .i64 0]
    rw [World.size_alloc] at this
    exact this.alloc _
  have hG := rget_c (R := R) (h.below hbel) hL i
  rw [hg] at hG
  obtain ⟨p, c, rfl, -⟩ := id h
  have HG := Lib.hid (show Calls Tryz.prog 39 #[refV R (.slice p L.length c), .int .i64 i] wb fun e w' => e = .returned (.tuple #[.agg #[.int .i64 0, .int .i64 0, .int .i64 0, .int .i64 0, .int .i64 0, .int .i64 0, .bool false], .bool false]) ∧ Below wb.heap.size wb w' from hG)
  have x0 := hbA.at_ (i := 0) rfl
  have x1 := hbA.at_ (i := 1) rfl
  have x2 := hbA.at_ (i := 2) rfl
  have x3 := hbA.at_ (i := 3) rfl
  have x4 := hbA.at_ (i := 4) rfl
  have x5 := hbA.at_ (i := 5) rfl
  have HB := Lib.hid hbel
  have HBB := Lib.hid hbB
  have HW := Lib.hid hwb
  obtain ⟨n, hn⟩ : ∃ n, n = L.length := ⟨_, rfl⟩
  rw [← hn] at HG x5 hwb HW ⊢
  have hL2 : (n : Int) ≤ 1048576 := by omega
  have hL3 : (0 : Int) ≤ (n : Int) := by omega
  clear h hbel hbA hbB hG hg hn
  go_enter Tryz.func41, Tryz.ntmps41
  go_upto_region 2 with fail
  rw [← HW.out]
  clear hwb
  go_wp2_with fail
  go_loopw [1, 7] (fun y z wr => y = .int .i64 i ∧ z = .int .i64 0 ∧ wr = wb) (fun _ z _ => 0)
  case atStart => exact ⟨rfl, rfl, rfl⟩
  case round =>
    obtain ⟨rfl, rfl, rfl⟩ := hrel
    go_wp2_with (go_at_call 39; ((with_reducible refine (HG.out).mono ?_); rintro e w1 ⟨rfl, hb⟩); have HB1 := Lib.hid (hb.on HB.out HB.out.size); have hX1 := ((HBB.out.next hb).alloc (.cells #[.int .i64 0, .int .i64 0, .int .i64 0, .int .i64 0, .int .i64 0, .int .i64 0, .bool false] 61)); obtain ⟨⟨z0, z1⟩, ⟨g0, g1⟩⟩ := hX1.c2; clear hb hX1)
    refine bodyPost_ret (v := .tuple #[.agg #[.int .i64 0, .int .i64 0], .bool false]) (by simp [results, Tryz.results41, go_sem, z0, z1]) rfl ?_
    exact ⟨rfl, ((HB1.out.alloc HB1.out.size _).setCell (by show w.heap.size ≤ w.heap.size + 1; omega) _).setCell (by show w.heap.size ≤ w.heap.size + 1; omega) _⟩
/-- The rounds of within. -/
def WnS (R : RT) (sv : Value) (L : List Win) (g : Nat) (wb : World) (m : Nat) (q i : Int) (k : Nat) (y : Value) (wr : World) : Prop :=
  ∃ (m' : Nat) (j : Int), k + m' = m ∧ y = .int .i64 j ∧ Way (ndL R L) m' j ∧ thruB (ndL R L) m q i = thruB (ndL R L) m' j i ∧ RBox R sv g wb wr
set_option maxRecDepth 100000 in
set_option maxHeartbeats 8000000 in
theorem within_c (h : RW w sv L) (hL : L.length ≤ 1048576) (hno : placeN 0 L = none) {m : Nat} {q i : Int} (hW : Way (ndL R L) m q) (hm : m ≤ L.length) :
    Calls Tryz.prog 84 #[refV R sv, .int .i64 q, .int .i64 i] w fun e w' => e = .returned (.bool (thruB (ndL R L) m q i)) ∧ Below w.heap.size w w' := by
  obtain ⟨wb, hwb⟩ : ∃ wb, wb = w.alloc (.cells (refA R sv) 54) := ⟨_, rfl⟩
  have hbel : Below w.heap.size w wb := by rw [hwb]; exact (Below.refl _ _).alloc (Nat.le_refl _) _
  have hbx : RBox R sv w.heap.size wb wb := ⟨by rw [hwb]; exact Blk.new w _ _, Below.refl _ _⟩
  have hRW : ∀ W, RBox R sv w.heap.size wb W → RW W sv L := fun W hW => (h.below hbel).below hW.2
  have HG := Lib.hid (fun (W : World) (hW : RBox R sv w.heap.size wb W) (j : Int) => place_c (R := R) (hRW W hW) hL j)
  obtain ⟨p, c, rfl, hcell⟩ := id h
  have HC := Lib.hid (fun (W : World) (hW : RBox R (.slice p L.length c) w.heap.size wb W) (j : Nat) (v : Win) (hv : L[j]? = some v) => (show ∃ b o, p = some ⟨b, o, none⟩ ∧ ∀ (i : Nat) (u : Value), (encW v)[i]? = some u → W.cell? ⟨b, o + j * 7 + i, none⟩ = some u from by
    obtain ⟨b, o, h1, h2, h3⟩ := hcell j v hv
    exact ⟨b, o, h1, fun i u hu => (hW.2.cell (p := ⟨b, o + j * 7 + i, none⟩) (Nat.lt_of_lt_of_le h2 hbel.size)).trans ((hbel.cell (p := ⟨b, o + j * 7 + i, none⟩) h2).trans (h3 i u hu))⟩))
  have HB := Lib.hid hbel
  have HW := Lib.hid hwb
  have H0 := Lib.hid hbx
  have HWY := Lib.hid hW
  have HML := Lib.hid hm
  have HNO := Lib.hid hno
  obtain ⟨n, hn⟩ : ∃ n, n = L.length := ⟨_, rfl⟩
  rw [← hn] at HG HC H0 HML hwb HW ⊢
  have HN := Lib.hid hn
  have hL2 : (n : Int) ≤ 1048576 := by omega
  clear h hbel hbx hRW hW hm hn hno hcell
  go_enter Tryz.func84, Tryz.ntmps84
  go_upto_region 1 with fail
  rw [← HW.out]
  clear hwb
  go_wp2_with fail
  go_loopw [1, 7] (fun y z wr => ∃ k : Nat, k ≤ m ∧ z = .int .i64 k ∧ WnS R (.slice p n c) L w.heap.size wb m q i k y wr) (fun _ z _ => m + 1 - (intOf z).toNat)
  case atStart => exact ⟨0, Nat.zero_le _, rfl, m, q, by omega, rfl, HWY.out, rfl, H0.out⟩
  case round =>
    obtain ⟨k, hk, rfl, m', j, hkm, rfl, hWj, hv, hX⟩ := hrel
    have hkn : (k : Int) ≤ (n : Int) := by have := HML.out; omega
    have hk0 : (0 : Int) ≤ (k : Int) := by omega
    obtain ⟨x0, x1, x2, x3, x4, x5⟩ := hX.cells
    have HX := Lib.hid hX
    have HV := Lib.hid hv
    have HWJ := Lib.hid hWj
    have hG := HG.out wr hX j
    clear hX hv hWj
    by_cases hji : j = i
    · have hb1 : (j == i) = true := by simpa using hji
      have HR := Lib.hid (show thruB (ndL R L) m q i = true by rw [HV.out, hji]; cases m' <;> simp [thruB])
      clear hji hG
      go_wp2_with fail
      go_ret
      exact ⟨ret_bool HR.out.symm, HX.out.2.on HB.out HB.out.size⟩
    · have hb1 : (j == i) = false := by simpa using hji
      cases m' with
      | zero =>
        obtain ⟨rfl, -⟩ := HWJ.out
        rw [HNO.out] at hG
        have HG1 := Lib.hid (show Calls Tryz.prog 64 #[refV R (.slice p n c), .int .i64 0] wr fun e w' => e = .returned (.int .i64 (-1)) ∧ Below wr.heap.size wr w' from hG)
        have HR := Lib.hid (show thruB (ndL R L) m q i = false by rw [HV.out]; simp only [thruB]; exact hb1)
        clear hji hG
        go_wp2_with (go_at_call 64; ((with_reducible refine (HG1.out).mono ?_); rintro e w1 ⟨rfl, hb⟩); have HX1 := Lib.hid (HX.out.next hb); clear hb)
        go_ret
        exact ⟨ret_bool HR.out.symm, HX1.out.2.on HB.out HB.out.size⟩
      | succ m' =>
        obtain ⟨hz, d, hd, hW'⟩ := HWJ.out
        obtain ⟨hg, -⟩ := ndL_some hd
        unfold getR at hg
        rw [if_neg hz] at hg
        unfold findL at hg
        cases hp : placeN j L with
        | none => rw [hp] at hg; cases hg
        | some kk =>
          rw [hp] at hg hG
          dsimp only at hg
          have hkl := (List.getElem?_eq_some_iff.1 hg).1
          have HG1 := Lib.hid (show Calls Tryz.prog 64 #[refV R (.slice p n c), .int .i64 j] wr fun e w' => e = .returned (.int .i64 (kk : Int)) ∧ Below wr.heap.size wr w' from hG)
          have HGG := Lib.hid hg
          have HR := Lib.hid (show thruB (ndL R L) m q i = thruB (ndL R L) m' d.win.par i by rw [HV.out]; simp only [thruB, parOf, hd]; rw [hb1]; rfl)
          have HW' := Lib.hid hW'
          have hk1 : (kk : Int) < (n : Int) := by have := HN.out; omega
          have hk2 : ¬ ((kk : Int) < 0) := by omega
          have hk3 : (0 : Int) ≤ (kk : Int) := by omega
          clear hji hG hz hd hg hp hkl hW'
          go_wp2_with (go_at_call 64; ((with_reducible refine (HG1.out).mono ?_); rintro e w1 ⟨rfl, hb⟩); have hX1 := HX.out.next hb; obtain ⟨y0, y1, y2, y3, y4, y5⟩ := hX1.cells; obtain ⟨bb, o, rfl, hb2⟩ := HC.out _ hX1 kk _ HGG.out; obtain ⟨-, r1, -⟩ := RW.cells hb2; have HX1 := Lib.hid hX1; clear hb hX1 hb2)
          go_roundw
          case rel => exact ⟨k + 1, by omega, by go_num, m', _, by omega, rfl, HW'.out, HR.out, HX1.out⟩
          case measure => simp [intOf]; omega
end
end Go.Proofs.YtfdgpbdppenhmaaGreat
end
