/- band: the runs of the rows between two cuts. -/
import Derived.Test.YtfabknabkcfpjaaRhE
namespace Go.Proofs.Ytfabknabkcfpjaa
open Go.RowKit Go.Shelf
/-- A side of a rectangle. -/
structure Sd where
  x : Int
  s : Int
  k : Nat
  r : Rc
def encS (d : Sd) : List Value := [.int .i64 d.x, .int .i64 d.s, .int .i64 d.k, .int .i64 d.r.x, .int .i64 d.r.y, .int .i64 d.r.w, .int .i64 d.r.h]
theorem encS_len (d : Sd) : (encS d).length = 7 := rfl
structure Bd where
  runs : List Rc
  d0 : Int
  d1 : Int
  x : Int
def offS (top : Int) (d : Sd) : Prop := top < d.r.y ∨ d.r.y + d.r.h ≤ top
instance (top : Int) (d : Sd) : Decidable (offS top d) := by unfold offS; exact inferInstance
def bandStep (rl : Bool → Bool → Bool) (top bottom : Int) (t : Bd) (d : Sd) : Bd :=
  if offS top d then t else
  { runs := if rl (decide (0 < t.d0)) (decide (0 < t.d1)) = true then extR t.runs (betweenR t.x top d.x bottom) else t.runs
    d0 := if d.k = 0 then t.d0 + d.s else t.d0
    d1 := if d.k = 1 then t.d1 + d.s else t.d1
    x := d.x }
def bandOf (rl : Bool → Bool → Bool) (top bottom : Int) (ds : List Sd) : Bd := ds.foldl (bandStep rl top bottom) ⟨[], 0, 0, 0⟩
theorem band_snoc {rl : Bool → Bool → Bool} {top bottom : Int} {ds : List Sd} {k : Nat} {d : Sd} (h : ds[k]? = some d) : bandOf rl top bottom (ds.take (k + 1)) = bandStep rl top bottom (bandOf rl top bottom (ds.take k)) d := by
  rw [take_snoc_get h]; unfold bandOf; rw [List.foldl_append]; rfl
/-- What every run keeps. -/
def okR (r : Rc) : Prop := -32768 ≤ r.x ∧ r.x ≤ 32768 ∧ 0 ≤ r.w ∧ r.x + r.w ≤ 32768
theorem ok_between (a b c d : Int) : okR (betweenR a b c d) := by
  unfold betweenR okR
  split
  · dsimp only; omega
  · unfold zeroR; dsimp only; omega
theorem ok_hull {a r : Rc} (ha : okR a) (hr : okR r) : okR (hullOf a r) := by
  unfold hullOf hullR
  split
  · split
    · unfold zeroR okR; dsimp only; omega
    · exact hr
  · split
    · exact ha
    · exact ok_between _ _ _ _
theorem ok_ext {rs : List Rc} {x : Rc} (h : ∀ r ∈ rs, okR r) (hx : okR x) : ∀ r ∈ extR rs x, okR r := by
  unfold extR
  split
  · exact h
  · cases hl : rs.getLast? with
    | none => intro r hr; rw [List.mem_singleton.1 hr]; exact hx
    | some a =>
      have ha := h a (List.mem_of_getLast? hl)
      dsimp only
      split
      · intro r hr
        rcases List.mem_append.1 hr with k | k
        · exact h r k
        · rw [List.mem_singleton.1 k]; exact hx
      · intro r hr
        rcases List.mem_append.1 hr with k | k
        · exact h r (List.dropLast_subset _ k)
        · rw [List.mem_singleton.1 k]; exact ok_hull ha hx
def okB (n : Nat) (t : Bd) : Prop := (∀ r ∈ t.runs, okR r) ∧ t.runs.length ≤ n ∧ -(n : Int) ≤ t.d0 ∧ t.d0 ≤ n ∧ -(n : Int) ≤ t.d1 ∧ t.d1 ≤ n
def okS (d : Sd) : Prop := (d.s = 1 ∨ d.s = -1) ∧ d.k ≤ 1 ∧ (-32768 ≤ d.r.y ∧ d.r.y ≤ 32768) ∧ (0 ≤ d.r.h ∧ d.r.h ≤ 65536)
theorem ok_step {rl : Bool → Bool → Bool} {top bottom : Int} {t : Bd} {d : Sd} {n : Nat} (h : okB n t) (hd : okS d) : okB (n + 1) (bandStep rl top bottom t d) := by
  obtain ⟨h1, h2, h3, h4, h5, h6⟩ := h
  obtain ⟨hs, hk, _⟩ := hd
  unfold bandStep
  split
  · exact ⟨h1, by omega, by omega, by omega, by omega, by omega⟩
  · refine ⟨?_, ?_, ?_, ?_, ?_, ?_⟩
    · dsimp only
      split
      · exact ok_ext h1 (ok_between _ _ _ _)
      · exact h1
    · dsimp only
      split
      · have := ext_len t.runs (betweenR t.x top d.x bottom); omega
      · omega
    all_goals (dsimp only; split <;> omega)
theorem ok_band {rl : Bool → Bool → Bool} {top bottom : Int} {ds : List Sd} (hd : ∀ d ∈ ds, okS d) : ∀ k, k ≤ ds.length → okB k (bandOf rl top bottom (ds.take k))
  | 0, _ => ⟨fun r hr => by simp [bandOf] at hr, by simp [bandOf], by simp [bandOf], by simp [bandOf], by simp [bandOf], by simp [bandOf]⟩
  | k + 1, hk => by
    have hx : ds[k]? = some ds[k] := List.getElem?_eq_getElem (by omega)
    rw [band_snoc hx]
    exact ok_step (ok_band hd k (by omega)) (hd _ (List.mem_of_getElem? hx))
/-- What band keeps: the runs, how deep, and its side's box. -/
def Bnd (w0 : World) (v : Value) (runs : List Rc) (d0 d1 : Int) (wx : World) : Prop :=
  OwK encR 40 4 wx (w0.heap.size + 1) v runs ∧ Blk wx w0.heap.size 84 #[.int .i64 d0, .int .i64 d1] ∧ Below w0.heap.size w0 wx
def Bns (w0 : World) (v : Value) (runs : List Rc) (d0 d1 : Int) (n1 : Nat) (S : Array Value) (wx : World) : Prop :=
  Bnd w0 v runs d0 d1 wx ∧ Blk wx n1 76 S ∧ w0.heap.size ≤ n1 ∧ v.ownBlock ≠ some n1
section
variable {w0 wx w1 : World} {v v' : Value} {runs runs' : List Rc} {d0 d1 : Int} {n1 : Nat} {S : Array Value}
theorem Bnd.next (h : Bnd w0 v runs d0 d1 wx) (hb : Below wx.heap.size wx w1) : Bnd w0 v runs d0 d1 w1 := ⟨h.1.below hb, h.2.1.next hb, h.2.2.trans (hb.mono h.2.2.size)⟩
theorem Bnd.drew (h : Bnd w0 v runs d0 d1 wx) : Bnd w0 v runs d0 d1 wx.drew := ⟨h.1, h.2.1, h.2.2.drew⟩
theorem Bns.next (h : Bns w0 v runs d0 d1 n1 S wx) (hb : Below wx.heap.size wx w1) : Bns w0 v runs d0 d1 n1 S w1 := ⟨h.1.next hb, h.2.1.next hb, h.2.2⟩
theorem Bns.drew (h : Bns w0 v runs d0 d1 n1 S wx) : Bns w0 v runs d0 d1 n1 S wx.drew := ⟨h.1.drew, h.2⟩
theorem Bnd.box (h : Bnd w0 v runs d0 d1 wx) (S : Array Value) (t : TypeId) (ht : t = 76) : Bns w0 v runs d0 d1 wx.heap.size S (wx.alloc (.cells S t)) :=
  ⟨h.next ((Below.refl _ _).alloc (Nat.le_refl _) _), ht ▸ Blk.new wx t S, h.2.2.size, fun e => by have := (h.1.lt e).2; omega⟩
theorem Bns.ext (h : Bns w0 v runs d0 d1 n1 S wx) (hO : OwK encR 40 4 w1 (w0.heap.size + 1) v' runs') (hg : wx.grownBy w1 v.ownBlock) (hw : Went wx.heap.size v v') : Bns w0 v' runs' d0 d1 n1 S w1 := by
  obtain ⟨⟨h1, h2, h3⟩, h4, h5, h6⟩ := h
  refine ⟨⟨hO, h2.grown hg (fun e => ?_), below_only h3 hg h3.size (fun g e => ?_)⟩, h4.grown hg (fun e => h6 e.symm), h5, fun e => ?_⟩
  · have := (h1.lt e.symm).1; omega
  · have := (h1.lt e).1; omega
  · rcases hw with hw | ⟨g, hg', hl⟩
    · exact h6 (hw ▸ e)
    · rw [hg'] at e; injection e with e; have := h4.lt; omega
theorem Bns.deep (h : Bns w0 v runs d0 d1 n1 S wx) (u : Int) : Bns w0 v runs u d1 n1 S (wx.setCell ⟨w0.heap.size, 0, none⟩ (.int .i64 u)) := by
  obtain ⟨⟨h1, h2, h3⟩, h4, h5, h6⟩ := h
  refine ⟨⟨h1.grown (only_setCell (only_refl _ (some w0.heap.size)) (.inl rfl) _) ?_, h2.set_ 0 _, h3.setCell (Nat.le_refl _) _⟩, h4.far (h4.ne_ h2 (by decide)) _, h5, h6⟩
  cases hv : v.ownBlock with
  | none => exact .inl rfl
  | some g => exact .inr fun e => by injection e with e; have := (h1.lt hv).1; omega
theorem Bns.deep1 (h : Bns w0 v runs d0 d1 n1 S wx) (u : Int) : Bns w0 v runs d0 u n1 S (wx.setCell ⟨w0.heap.size, 1, none⟩ (.int .i64 u)) := by
  obtain ⟨⟨h1, h2, h3⟩, h4, h5, h6⟩ := h
  refine ⟨⟨h1.grown (only_setCell (only_refl _ (some w0.heap.size)) (.inl rfl) _) ?_, h2.set_ 1 _, h3.setCell (Nat.le_refl _) _⟩, h4.far (h4.ne_ h2 (by decide)) _, h5, h6⟩
  cases hv : v.ownBlock with
  | none => exact .inl rfl
  | some g => exact .inr fun e => by injection e with e; have := (h1.lt hv).1; omega
end
/-- What a rule handed in tells. -/
def Rules (g : Nat) (cb : Array Value) (rl : Bool → Bool → Bool) : Prop :=
  ∀ (a b : Bool) (W : World), Calls Try.prog g (#[.bool a, .bool b] ++ cb) W fun e w' => e = .returned (.bool (rl a b)) ∧ W = w'
theorem RdK.side {w : World} {b o j : Nat} {d : Sd} (h : ∀ (i : Nat) (u : Value), (encS d)[i]? = some u → w.cell? ⟨b, o + j * 7 + i, none⟩ = some u) :
    w.cell? ⟨b, o + j * 7, none⟩ = some (.int .i64 d.x) ∧ w.cell? ⟨b, o + j * 7 + 1, none⟩ = some (.int .i64 d.s) ∧ w.cell? ⟨b, o + j * 7 + 2, none⟩ = some (.int .i64 d.k) ∧ w.cell? ⟨b, o + j * 7 + 3, none⟩ = some (.int .i64 d.r.x) ∧ w.cell? ⟨b, o + j * 7 + 4, none⟩ = some (.int .i64 d.r.y) ∧ w.cell? ⟨b, o + j * 7 + 5, none⟩ = some (.int .i64 d.r.w) ∧ w.cell? ⟨b, o + j * 7 + 6, none⟩ = some (.int .i64 d.r.h) :=
  ⟨h 0 _ rfl, h 1 _ rfl, h 2 _ rfl, h 3 _ rfl, h 4 _ rfl, h 5 _ rfl, h 6 _ rfl⟩
set_option maxRecDepth 100000 in
set_option maxHeartbeats 8000000 in
theorem band_c (sv : Value) (ds : List Sd) (top bottom : Int) (g : Nat) (cb : Array Value) (rl : Bool → Bool → Bool) (w : World) (eg : ∀ args w, (callFunc g args).run Try.prog w = .ok (.enter g args) w) (hT : Rules g cb rl)
    (hS : RdK encS 7 w sv ds) (hn : ds.length ≤ 4096) (hok : ∀ d ∈ ds, okS d) (ht : -32768 ≤ top ∧ top ≤ 32768) :
    Calls Try.prog 42 #[sv, .int .i64 top, .int .i64 bottom, .func (.func g) #[] cb] w fun e w' => ∃ v, e = .returned v ∧ OwK encR 40 4 w' w.heap.size v (bandOf rl top bottom ds).runs ∧ Below w.heap.size w w' := by
  obtain ⟨p, c, rfl, hcell⟩ := hS
  have HC := Lib.hid hcell
  obtain ⟨n, hln⟩ : ∃ n, n = ds.length := ⟨_, rfl⟩
  rw [← hln] at hn ⊢
  have HN := Lib.hid hln
  have HT := Lib.hid hT
  have HOK := Lib.hid (fun k hk => ok_band (rl := rl) (top := top) (bottom := bottom) hok k hk)
  have HOS := Lib.hid hok
  have P0 : Bnd w (.slice none 0 0) [] 0 0 (w.alloc (.cells #[.int .i64 0, .int .i64 0] 84)) := ⟨OwK.nil _ _, Blk.new _ _ _, (Below.refl _ _).alloc (Nat.le_refl _) _⟩
  obtain ⟨t1, t2⟩ := ht
  clear hcell hln hT hok
  go_enter Try.func42, Try.ntmps42
  go_wp2_with fail
  go_loopw [9, 11, 16] (fun vv xx z wr => ∃ k : Nat, k ≤ n ∧ z = .int .i64 k ∧ xx = .int .i64 (bandOf rl top bottom (ds.take k)).x ∧ Bnd w vv (bandOf rl top bottom (ds.take k)).runs (bandOf rl top bottom (ds.take k)).d0 (bandOf rl top bottom (ds.take k)).d1 wr) (fun _ _ z _ => n - (intOf z).toNat)
  case atStart => exact ⟨0, Nat.zero_le _, rfl, rfl, P0⟩
  case round =>
    obtain ⟨k, hk, rfl, rfl, P1⟩ := hrel
    clear P0
    by_cases hlt : k < n
    · obtain ⟨d, hx⟩ : ∃ d, ds[k]? = some d := ⟨_, List.getElem?_eq_getElem (by rw [← HN.out]; exact hlt)⟩
      have HX := Lib.hid (band_snoc (rl := rl) (top := top) (bottom := bottom) hx)
      obtain ⟨hds, hdk, ⟨y1, y2⟩, z1, z2⟩ := HOS.out d (List.mem_of_getElem? hx)
      obtain ⟨o1, o2, o3, o4, o5, o6⟩ := HOK.out k (by rw [← HN.out]; omega)
      have HO1 := Lib.hid o1
      obtain ⟨b, o, rfl, hb1, hb2⟩ := HC.out k d hx
      obtain ⟨r0, r1, r2, r3, r4, r5, r6⟩ := RdK.side (w := wr) (fun i u hu => (P1.2.2.cell (p := ⟨b, o + k * 7 + i, none⟩) hb1).trans (hb2 i u hu))
      have hbl : b < wr.heap.size := Nat.lt_of_lt_of_le hb1 P1.2.2.size
      generalize bandOf rl top bottom (ds.take k) = t at *
      clear hb2 hx o1
      have hi0 : (0 : Int) ≤ (k : Int) := by omega
      have hi1 : (k : Int) < (n : Int) := by omega
      obtain ⟨⟨q0, q1⟩, _⟩ := P1.2.1.c2
      have hld := P1.2.1.lt
      have P2 := P1.box #[.int .i64 d.x, .int .i64 d.s, .int .i64 d.k, .int .i64 d.r.x, .int .i64 d.r.y, .int .i64 d.r.w, .int .i64 d.r.h] 76 rfl
      clear P1
      by_cases hoff : offS top d
      · have HD := Lib.hid (HX.out.trans (by unfold bandStep; rw [if_pos hoff]))
        have hcase : top < d.r.y ∨ (¬ top < d.r.y ∧ d.r.y + d.r.h ≤ top) := by unfold offS at hoff; omega
        clear hoff HX
        rcases hcase with h1 | ⟨h1, h2⟩
        all_goals
          go_wp2_with fail
          go_roundw
          case rel => exact ⟨k + 1, by omega, by go_num, by rw [HD.out], by rw [HD.out]; exact P2.1⟩
          case measure => simp [intOf]; omega
      · have h1 : ¬ top < d.r.y := fun h => hoff (.inl h)
        have h2 : ¬ d.r.y + d.r.h ≤ top := fun h => hoff (.inr h)
        have HD := Lib.hid (HX.out.trans (by unfold bandStep; rw [if_neg hoff]))
        clear hoff HX
        have HR := HT.out (decide (0 < t.d0)) (decide (0 < t.d1))
        have hkk : d.k = 0 ∨ d.k = 1 := by omega
        by_cases hrl : rl (decide (0 < t.d0)) (decide (0 < t.d1)) = true
        · rw [hrl] at HR
          have HRR := Lib.hid HR
          have HDR := Lib.hid hrl
          clear HR hrl
          have okB' := HO1.out
          go_wp2_with fail
          refine (HRR.out _).mono ?_
          rintro e1 w1 ⟨rfl, rfl⟩
          go_wp2_with fail
          refine (between_c t.x top d.x bottom _).mono ?_
          rintro e2 w2 ⟨rfl, hb⟩
          have P3 := P2.next hb
          clear hb P2 q0 q1 r0 r1 r2 r3 r4 r5 r6
          have HEX := Lib.hid (fun h1 h2 h3 => extend_c (w.heap.size + 1) u9 t.runs (betweenR t.x top d.x bottom) w2 P3.1.1 h1 h2 h3)
          go_wp2_with fail
          refine (HEX.out (by have := P3.1.2.1.lt; omega) (by omega) (fun r hr => by obtain ⟨k1, k2, k3, k4⟩ := okB' r hr; omega)).mono ?_
          rintro e3 w3 ⟨v', rfl, hO, hg, hw⟩
          have P4 := P3.ext hO hg hw
          clear hO hg hw P3 HEX okB'
          obtain ⟨⟨s0, s1, s2, _⟩, _⟩ := P4.2.1.c7
          go_wp2_with fail
          rcases hkk with hk0 | hk0
          · skip
            have HS := Lib.hid (show ∀ wx, Bns w v' (extR t.runs (betweenR t.x top d.x bottom)) t.d0 t.d1 wr.heap.size #[.int .i64 d.x, .int .i64 d.s, .int .i64 d.k, .int .i64 d.r.x, .int .i64 d.r.y, .int .i64 d.r.w, .int .i64 d.r.h] wx → wx.cell? ⟨wr.heap.size, 1, none⟩ = some (.int .i64 d.s) ∧ wx.cell? ⟨wr.heap.size, 2, none⟩ = some (.int .i64 0) from fun wx h => by have h7 := h.2.1.c7.1; rw [hk0] at h7; exact ⟨h7.2.1, h7.2.2.1⟩)
            have HD2 := Lib.hid (HD.out.trans (show _ = (⟨extR t.runs (betweenR t.x top d.x bottom), t.d0 + d.s, t.d1, d.x⟩ : Bd) by rw [if_pos HDR.out, hk0]; rfl))
            have PD := P4.drew
            obtain ⟨⟨q0, q1⟩, f0, f1⟩ := PD.1.2.1.c2
            have hld := PD.1.2.1.lt
            have W1 : IntKind.i64.wrap (t.d0 + d.s) = t.d0 + d.s := IntWalk.i64_in _ (by omega)
            have PF := PD.deep (t.d0 + d.s)
            have h7 := PF.2.1.c7.1
            rw [hk0] at h7
            have HSF := Lib.hid (And.intro h7.2.1 h7.2.2.1)
            clear h7
            clear hk0
            refine wp_region_noPanic ?_
            refine wp_region_held_drew (S := fun wx => wx.cell? ⟨wr.heap.size, 1, none⟩ = some (.int .i64 d.s) ∧ wx.cell? ⟨wr.heap.size, 2, none⟩ = some (.int .i64 0)) (by kernel_rfl) (by exact HS.out _ PD) (fun hHeld => ?_)
            refine wpAnyH_take (i := 0) (v := ?va0) rfl (by kernel_rfl) (by kernel_rfl) (by kernel_rfl) (fun _ _ _ h => h) (Or.inl ⟨by kernel_rfl, ?ya0⟩) (by assumption) ?ra0
            case ya0 => (intro wq hSw; (try dsimp only at hSw); go_simp; (try with_reducible rfl))
            (try simp only [Act.put, List.getElem_toArray, List.getElem_cons_zero, List.setIfInBounds_toArray, List.set_cons_zero, List.set_cons_succ])
            refine wpAnyH_take (i := 1) (v := ?va1) rfl (by kernel_rfl) (by kernel_rfl) (by kernel_rfl) (fun _ _ _ h => h) (Or.inl ⟨by kernel_rfl, ?ya1⟩) (by assumption) ?ra1
            case ya1 => (intro wq hSw; (try dsimp only at hSw); go_simp; (try with_reducible rfl))
            (try simp only [Act.put, List.getElem_toArray, List.getElem_cons_succ, List.getElem_cons_zero, List.setIfInBounds_toArray, List.set_cons_zero, List.set_cons_succ])
            refine wpAnyH_take (i := 2) (v := ?va2) rfl (by kernel_rfl) (by kernel_rfl) (by kernel_rfl) (fun _ _ _ h => h) (Or.inl ⟨by kernel_rfl, ?ya2⟩) (by assumption) ?ra2
            case ya2 => (intro wq hSw; (try dsimp only at hSw); go_simp; (try with_reducible rfl))
            (try simp only [Act.put, List.getElem_toArray, List.getElem_cons_succ, List.getElem_cons_zero, List.setIfInBounds_toArray, List.set_cons_zero, List.set_cons_succ])
            refine wpAnyH_take (i := 4) (v := ?va4) rfl (by kernel_rfl) (by kernel_rfl) (by kernel_rfl) (fun _ _ _ h => h) (Or.inl ⟨by kernel_rfl, ?ya4⟩) (by assumption) ?ra4
            case ya4 => (intro wq hSw; (try dsimp only at hSw); go_simp; (try with_reducible rfl))
            (try simp only [Act.put, List.getElem_toArray, List.getElem_cons_succ, List.getElem_cons_zero, List.setIfInBounds_toArray, List.set_cons_zero, List.set_cons_succ])
            refine wpAnyH_take (i := 5) (v := ?va5) rfl (by kernel_rfl) (by kernel_rfl) (by kernel_rfl) (fun _ _ _ h => h) (Or.inl ⟨by kernel_rfl, ?ya5⟩) (by assumption) ?ra5
            case ya5 => (intro wq hSw; (try dsimp only at hSw); go_simp; (try with_reducible rfl))
            (try simp only [Act.put, List.getElem_toArray, List.getElem_cons_succ, List.getElem_cons_zero, List.setIfInBounds_toArray, List.set_cons_zero, List.set_cons_succ])
            refine wpAnyH_ready (rs := [3]) (by kernel_rfl) (by simp) ?_
            refine AllReadyH.cons rfl (fun K hK => ?_) AllReadyH.nil
            go_simp
            refine hK.out _ _ (by exact HS.out _ PD) (fun hHeld => ?_)
            clear hK K
            (try simp only [Act.put, List.getElem_toArray, List.getElem_cons_succ, List.getElem_cons_zero, List.setIfInBounds_toArray, List.set_cons_zero, List.set_cons_succ])
            refine wpAnyH_take (i := 6) (v := ?va6) rfl (by kernel_rfl) (by kernel_rfl) (by kernel_rfl) (fun _ _ _ h => h) (Or.inl ⟨by kernel_rfl, ?ya6⟩) (by assumption) ?ra6
            case ya6 => (intro wq hSw; (try dsimp only at hSw); go_simp; (try with_reducible rfl))
            (try simp only [Act.put, List.getElem_toArray, List.getElem_cons_succ, List.getElem_cons_zero, List.setIfInBounds_toArray, List.set_cons_zero, List.set_cons_succ])
            refine wpAnyH_take (i := 7) (v := ?va7) rfl (by kernel_rfl) (by kernel_rfl) (by kernel_rfl) (fun _ _ _ h => h) (Or.inl ⟨by kernel_rfl, ?ya7⟩) (by assumption) ?ra7
            case ya7 => (intro wq hSw; (try dsimp only at hSw); go_simp; (try with_reducible rfl))
            (try simp only [Act.put, List.getElem_toArray, List.getElem_cons_succ, List.getElem_cons_zero, List.setIfInBounds_toArray, List.set_cons_zero, List.set_cons_succ])
            refine wpAnyH_ready (rs := [8]) (by kernel_rfl) (by simp) ?_
            refine AllReadyH.cons rfl (fun K hK => ?_) AllReadyH.nil
            go_simp
            refine hK.out _ _ (by exact HSF.out) (fun hHeld => ?_)
            clear hK K
            (try simp only [Act.put, List.getElem_toArray, List.getElem_cons_succ, List.getElem_cons_zero, List.setIfInBounds_toArray, List.set_cons_zero, List.set_cons_succ])
            refine wpAnyH_done (by kernel_rfl) ?_ _
            refine NoPanic.normal ?_
            clear hHeld
            go_wp2_with fail
            go_roundw
            case rel => exact ⟨k + 1, by omega, by go_num, by rw [HD2.out], by rw [HD2.out]; exact PF.1⟩
            case measure => simp [intOf]; omega
          · skip
            have HS := Lib.hid (show ∀ wx, Bns w v' (extR t.runs (betweenR t.x top d.x bottom)) t.d0 t.d1 wr.heap.size #[.int .i64 d.x, .int .i64 d.s, .int .i64 d.k, .int .i64 d.r.x, .int .i64 d.r.y, .int .i64 d.r.w, .int .i64 d.r.h] wx → wx.cell? ⟨wr.heap.size, 1, none⟩ = some (.int .i64 d.s) ∧ wx.cell? ⟨wr.heap.size, 2, none⟩ = some (.int .i64 1) from fun wx h => by have h7 := h.2.1.c7.1; rw [hk0] at h7; exact ⟨h7.2.1, h7.2.2.1⟩)
            have HD2 := Lib.hid (HD.out.trans (show _ = (⟨extR t.runs (betweenR t.x top d.x bottom), t.d0, t.d1 + d.s, d.x⟩ : Bd) by rw [if_pos HDR.out, hk0]; rfl))
            have PD := P4.drew
            obtain ⟨⟨q0, q1⟩, f0, f1⟩ := PD.1.2.1.c2
            have hld := PD.1.2.1.lt
            have W1 : IntKind.i64.wrap (t.d1 + d.s) = t.d1 + d.s := IntWalk.i64_in _ (by omega)
            have PF := PD.deep1 (t.d1 + d.s)
            have h7 := PF.2.1.c7.1
            rw [hk0] at h7
            have HSF := Lib.hid (And.intro h7.2.1 h7.2.2.1)
            clear h7
            clear hk0
            refine wp_region_noPanic ?_
            refine wp_region_held_drew (S := fun wx => wx.cell? ⟨wr.heap.size, 1, none⟩ = some (.int .i64 d.s) ∧ wx.cell? ⟨wr.heap.size, 2, none⟩ = some (.int .i64 1)) (by kernel_rfl) (by exact HS.out _ PD) (fun hHeld => ?_)
            refine wpAnyH_take (i := 0) (v := ?vb0) rfl (by kernel_rfl) (by kernel_rfl) (by kernel_rfl) (fun _ _ _ h => h) (Or.inl ⟨by kernel_rfl, ?yb0⟩) (by assumption) ?rb0
            case yb0 => (intro wq hSw; (try dsimp only at hSw); go_simp; (try with_reducible rfl))
            (try simp only [Act.put, List.getElem_toArray, List.getElem_cons_zero, List.setIfInBounds_toArray, List.set_cons_zero, List.set_cons_succ])
            refine wpAnyH_take (i := 1) (v := ?vb1) rfl (by kernel_rfl) (by kernel_rfl) (by kernel_rfl) (fun _ _ _ h => h) (Or.inl ⟨by kernel_rfl, ?yb1⟩) (by assumption) ?rb1
            case yb1 => (intro wq hSw; (try dsimp only at hSw); go_simp; (try with_reducible rfl))
            (try simp only [Act.put, List.getElem_toArray, List.getElem_cons_succ, List.getElem_cons_zero, List.setIfInBounds_toArray, List.set_cons_zero, List.set_cons_succ])
            refine wpAnyH_take (i := 2) (v := ?vb2) rfl (by kernel_rfl) (by kernel_rfl) (by kernel_rfl) (fun _ _ _ h => h) (Or.inl ⟨by kernel_rfl, ?yb2⟩) (by assumption) ?rb2
            case yb2 => (intro wq hSw; (try dsimp only at hSw); go_simp; (try with_reducible rfl))
            (try simp only [Act.put, List.getElem_toArray, List.getElem_cons_succ, List.getElem_cons_zero, List.setIfInBounds_toArray, List.set_cons_zero, List.set_cons_succ])
            refine wpAnyH_take (i := 4) (v := ?vb4) rfl (by kernel_rfl) (by kernel_rfl) (by kernel_rfl) (fun _ _ _ h => h) (Or.inl ⟨by kernel_rfl, ?yb4⟩) (by assumption) ?rb4
            case yb4 => (intro wq hSw; (try dsimp only at hSw); go_simp; (try with_reducible rfl))
            (try simp only [Act.put, List.getElem_toArray, List.getElem_cons_succ, List.getElem_cons_zero, List.setIfInBounds_toArray, List.set_cons_zero, List.set_cons_succ])
            refine wpAnyH_take (i := 5) (v := ?vb5) rfl (by kernel_rfl) (by kernel_rfl) (by kernel_rfl) (fun _ _ _ h => h) (Or.inl ⟨by kernel_rfl, ?yb5⟩) (by assumption) ?rb5
            case yb5 => (intro wq hSw; (try dsimp only at hSw); go_simp; (try with_reducible rfl))
            (try simp only [Act.put, List.getElem_toArray, List.getElem_cons_succ, List.getElem_cons_zero, List.setIfInBounds_toArray, List.set_cons_zero, List.set_cons_succ])
            refine wpAnyH_ready (rs := [3]) (by kernel_rfl) (by simp) ?_
            refine AllReadyH.cons rfl (fun K hK => ?_) AllReadyH.nil
            go_simp
            refine hK.out _ _ (by exact HS.out _ PD) (fun hHeld => ?_)
            clear hK K
            (try simp only [Act.put, List.getElem_toArray, List.getElem_cons_succ, List.getElem_cons_zero, List.setIfInBounds_toArray, List.set_cons_zero, List.set_cons_succ])
            refine wpAnyH_take (i := 6) (v := ?vb6) rfl (by kernel_rfl) (by kernel_rfl) (by kernel_rfl) (fun _ _ _ h => h) (Or.inl ⟨by kernel_rfl, ?yb6⟩) (by assumption) ?rb6
            case yb6 => (intro wq hSw; (try dsimp only at hSw); go_simp; (try with_reducible rfl))
            (try simp only [Act.put, List.getElem_toArray, List.getElem_cons_succ, List.getElem_cons_zero, List.setIfInBounds_toArray, List.set_cons_zero, List.set_cons_succ])
            refine wpAnyH_take (i := 7) (v := ?vb7) rfl (by kernel_rfl) (by kernel_rfl) (by kernel_rfl) (fun _ _ _ h => h) (Or.inl ⟨by kernel_rfl, ?yb7⟩) (by assumption) ?rb7
            case yb7 => (intro wq hSw; (try dsimp only at hSw); go_simp; (try with_reducible rfl))
            (try simp only [Act.put, List.getElem_toArray, List.getElem_cons_succ, List.getElem_cons_zero, List.setIfInBounds_toArray, List.set_cons_zero, List.set_cons_succ])
            refine wpAnyH_ready (rs := [8]) (by kernel_rfl) (by simp) ?_
            refine AllReadyH.cons rfl (fun K hK => ?_) AllReadyH.nil
            go_simp
            refine hK.out _ _ (by exact HSF.out) (fun hHeld => ?_)
            clear hK K
            (try simp only [Act.put, List.getElem_toArray, List.getElem_cons_succ, List.getElem_cons_zero, List.setIfInBounds_toArray, List.set_cons_zero, List.set_cons_succ])
            refine wpAnyH_done (by kernel_rfl) ?_ _
            refine NoPanic.normal ?_
            clear hHeld
            go_wp2_with fail
            go_roundw
            case rel => exact ⟨k + 1, by omega, by go_num, by rw [HD2.out], by rw [HD2.out]; exact PF.1⟩
            case measure => simp [intOf]; omega
        · rw [Bool.not_eq_true] at hrl
          rw [hrl] at HR
          have HRR := Lib.hid HR
          have HDR := Lib.hid hrl
          clear HR hrl
          go_wp2_with fail
          refine (HRR.out _).mono ?_
          rintro e1 w1 ⟨rfl, rfl⟩
          go_wp2_with fail
          generalize wr.alloc (.cells #[.int .i64 d.x, .int .i64 d.s, .int .i64 d.k, .int .i64 d.r.x, .int .i64 d.r.y, .int .i64 d.r.w, .int .i64 d.r.h] 76) = w3 at P2 ⊢
          clear q0 q1 r0 r1 r2 r3 r4 r5 r6
          obtain ⟨⟨s0, s1, s2, _⟩, _⟩ := P2.2.1.c7
          rcases hkk with hk0 | hk0
          · skip
            have HS := Lib.hid (show ∀ wx, Bns w u9 t.runs t.d0 t.d1 wr.heap.size #[.int .i64 d.x, .int .i64 d.s, .int .i64 d.k, .int .i64 d.r.x, .int .i64 d.r.y, .int .i64 d.r.w, .int .i64 d.r.h] wx → wx.cell? ⟨wr.heap.size, 1, none⟩ = some (.int .i64 d.s) ∧ wx.cell? ⟨wr.heap.size, 2, none⟩ = some (.int .i64 0) from fun wx h => by have h7 := h.2.1.c7.1; rw [hk0] at h7; exact ⟨h7.2.1, h7.2.2.1⟩)
            have HD2 := Lib.hid (HD.out.trans (show _ = (⟨t.runs, t.d0 + d.s, t.d1, d.x⟩ : Bd) by rw [if_neg (by rw [HDR.out]; decide), hk0]; rfl))
            have PD := P2.drew
            obtain ⟨⟨q0, q1⟩, f0, f1⟩ := PD.1.2.1.c2
            have hld := PD.1.2.1.lt
            have W1 : IntKind.i64.wrap (t.d0 + d.s) = t.d0 + d.s := IntWalk.i64_in _ (by omega)
            have PF := PD.deep (t.d0 + d.s)
            have h7 := PF.2.1.c7.1
            rw [hk0] at h7
            have HSF := Lib.hid (And.intro h7.2.1 h7.2.2.1)
            clear h7
            clear hk0
            refine wp_region_noPanic ?_
            refine wp_region_held_drew (S := fun wx => wx.cell? ⟨wr.heap.size, 1, none⟩ = some (.int .i64 d.s) ∧ wx.cell? ⟨wr.heap.size, 2, none⟩ = some (.int .i64 0)) (by kernel_rfl) (by exact HS.out _ PD) (fun hHeld => ?_)
            refine wpAnyH_take (i := 0) (v := ?vc0) rfl (by kernel_rfl) (by kernel_rfl) (by kernel_rfl) (fun _ _ _ h => h) (Or.inl ⟨by kernel_rfl, ?yc0⟩) (by assumption) ?rc0
            case yc0 => (intro wq hSw; (try dsimp only at hSw); go_simp; (try with_reducible rfl))
            (try simp only [Act.put, List.getElem_toArray, List.getElem_cons_zero, List.setIfInBounds_toArray, List.set_cons_zero, List.set_cons_succ])
            refine wpAnyH_take (i := 1) (v := ?vc1) rfl (by kernel_rfl) (by kernel_rfl) (by kernel_rfl) (fun _ _ _ h => h) (Or.inl ⟨by kernel_rfl, ?yc1⟩) (by assumption) ?rc1
            case yc1 => (intro wq hSw; (try dsimp only at hSw); go_simp; (try with_reducible rfl))
            (try simp only [Act.put, List.getElem_toArray, List.getElem_cons_succ, List.getElem_cons_zero, List.setIfInBounds_toArray, List.set_cons_zero, List.set_cons_succ])
            refine wpAnyH_take (i := 2) (v := ?vc2) rfl (by kernel_rfl) (by kernel_rfl) (by kernel_rfl) (fun _ _ _ h => h) (Or.inl ⟨by kernel_rfl, ?yc2⟩) (by assumption) ?rc2
            case yc2 => (intro wq hSw; (try dsimp only at hSw); go_simp; (try with_reducible rfl))
            (try simp only [Act.put, List.getElem_toArray, List.getElem_cons_succ, List.getElem_cons_zero, List.setIfInBounds_toArray, List.set_cons_zero, List.set_cons_succ])
            refine wpAnyH_take (i := 4) (v := ?vc4) rfl (by kernel_rfl) (by kernel_rfl) (by kernel_rfl) (fun _ _ _ h => h) (Or.inl ⟨by kernel_rfl, ?yc4⟩) (by assumption) ?rc4
            case yc4 => (intro wq hSw; (try dsimp only at hSw); go_simp; (try with_reducible rfl))
            (try simp only [Act.put, List.getElem_toArray, List.getElem_cons_succ, List.getElem_cons_zero, List.setIfInBounds_toArray, List.set_cons_zero, List.set_cons_succ])
            refine wpAnyH_take (i := 5) (v := ?vc5) rfl (by kernel_rfl) (by kernel_rfl) (by kernel_rfl) (fun _ _ _ h => h) (Or.inl ⟨by kernel_rfl, ?yc5⟩) (by assumption) ?rc5
            case yc5 => (intro wq hSw; (try dsimp only at hSw); go_simp; (try with_reducible rfl))
            (try simp only [Act.put, List.getElem_toArray, List.getElem_cons_succ, List.getElem_cons_zero, List.setIfInBounds_toArray, List.set_cons_zero, List.set_cons_succ])
            refine wpAnyH_ready (rs := [3]) (by kernel_rfl) (by simp) ?_
            refine AllReadyH.cons rfl (fun K hK => ?_) AllReadyH.nil
            go_simp
            refine hK.out _ _ (by exact HS.out _ PD) (fun hHeld => ?_)
            clear hK K
            (try simp only [Act.put, List.getElem_toArray, List.getElem_cons_succ, List.getElem_cons_zero, List.setIfInBounds_toArray, List.set_cons_zero, List.set_cons_succ])
            refine wpAnyH_take (i := 6) (v := ?vc6) rfl (by kernel_rfl) (by kernel_rfl) (by kernel_rfl) (fun _ _ _ h => h) (Or.inl ⟨by kernel_rfl, ?yc6⟩) (by assumption) ?rc6
            case yc6 => (intro wq hSw; (try dsimp only at hSw); go_simp; (try with_reducible rfl))
            (try simp only [Act.put, List.getElem_toArray, List.getElem_cons_succ, List.getElem_cons_zero, List.setIfInBounds_toArray, List.set_cons_zero, List.set_cons_succ])
            refine wpAnyH_take (i := 7) (v := ?vc7) rfl (by kernel_rfl) (by kernel_rfl) (by kernel_rfl) (fun _ _ _ h => h) (Or.inl ⟨by kernel_rfl, ?yc7⟩) (by assumption) ?rc7
            case yc7 => (intro wq hSw; (try dsimp only at hSw); go_simp; (try with_reducible rfl))
            (try simp only [Act.put, List.getElem_toArray, List.getElem_cons_succ, List.getElem_cons_zero, List.setIfInBounds_toArray, List.set_cons_zero, List.set_cons_succ])
            refine wpAnyH_ready (rs := [8]) (by kernel_rfl) (by simp) ?_
            refine AllReadyH.cons rfl (fun K hK => ?_) AllReadyH.nil
            go_simp
            refine hK.out _ _ (by exact HSF.out) (fun hHeld => ?_)
            clear hK K
            (try simp only [Act.put, List.getElem_toArray, List.getElem_cons_succ, List.getElem_cons_zero, List.setIfInBounds_toArray, List.set_cons_zero, List.set_cons_succ])
            refine wpAnyH_done (by kernel_rfl) ?_ _
            refine NoPanic.normal ?_
            clear hHeld
            go_wp2_with fail
            go_roundw
            case rel => exact ⟨k + 1, by omega, by go_num, by rw [HD2.out], by rw [HD2.out]; exact PF.1⟩
            case measure => simp [intOf]; omega
          · skip
            have HS := Lib.hid (show ∀ wx, Bns w u9 t.runs t.d0 t.d1 wr.heap.size #[.int .i64 d.x, .int .i64 d.s, .int .i64 d.k, .int .i64 d.r.x, .int .i64 d.r.y, .int .i64 d.r.w, .int .i64 d.r.h] wx → wx.cell? ⟨wr.heap.size, 1, none⟩ = some (.int .i64 d.s) ∧ wx.cell? ⟨wr.heap.size, 2, none⟩ = some (.int .i64 1) from fun wx h => by have h7 := h.2.1.c7.1; rw [hk0] at h7; exact ⟨h7.2.1, h7.2.2.1⟩)
            have HD2 := Lib.hid (HD.out.trans (show _ = (⟨t.runs, t.d0, t.d1 + d.s, d.x⟩ : Bd) by rw [if_neg (by rw [HDR.out]; decide), hk0]; rfl))
            have PD := P2.drew
            obtain ⟨⟨q0, q1⟩, f0, f1⟩ := PD.1.2.1.c2
            have hld := PD.1.2.1.lt
            have W1 : IntKind.i64.wrap (t.d1 + d.s) = t.d1 + d.s := IntWalk.i64_in _ (by omega)
            have PF := PD.deep1 (t.d1 + d.s)
            have h7 := PF.2.1.c7.1
            rw [hk0] at h7
            have HSF := Lib.hid (And.intro h7.2.1 h7.2.2.1)
            clear h7
            clear hk0
            refine wp_region_noPanic ?_
            refine wp_region_held_drew (S := fun wx => wx.cell? ⟨wr.heap.size, 1, none⟩ = some (.int .i64 d.s) ∧ wx.cell? ⟨wr.heap.size, 2, none⟩ = some (.int .i64 1)) (by kernel_rfl) (by exact HS.out _ PD) (fun hHeld => ?_)
            refine wpAnyH_take (i := 0) (v := ?vd0) rfl (by kernel_rfl) (by kernel_rfl) (by kernel_rfl) (fun _ _ _ h => h) (Or.inl ⟨by kernel_rfl, ?yd0⟩) (by assumption) ?rd0
            case yd0 => (intro wq hSw; (try dsimp only at hSw); go_simp; (try with_reducible rfl))
            (try simp only [Act.put, List.getElem_toArray, List.getElem_cons_zero, List.setIfInBounds_toArray, List.set_cons_zero, List.set_cons_succ])
            refine wpAnyH_take (i := 1) (v := ?vd1) rfl (by kernel_rfl) (by kernel_rfl) (by kernel_rfl) (fun _ _ _ h => h) (Or.inl ⟨by kernel_rfl, ?yd1⟩) (by assumption) ?rd1
            case yd1 => (intro wq hSw; (try dsimp only at hSw); go_simp; (try with_reducible rfl))
            (try simp only [Act.put, List.getElem_toArray, List.getElem_cons_succ, List.getElem_cons_zero, List.setIfInBounds_toArray, List.set_cons_zero, List.set_cons_succ])
            refine wpAnyH_take (i := 2) (v := ?vd2) rfl (by kernel_rfl) (by kernel_rfl) (by kernel_rfl) (fun _ _ _ h => h) (Or.inl ⟨by kernel_rfl, ?yd2⟩) (by assumption) ?rd2
            case yd2 => (intro wq hSw; (try dsimp only at hSw); go_simp; (try with_reducible rfl))
            (try simp only [Act.put, List.getElem_toArray, List.getElem_cons_succ, List.getElem_cons_zero, List.setIfInBounds_toArray, List.set_cons_zero, List.set_cons_succ])
            refine wpAnyH_take (i := 4) (v := ?vd4) rfl (by kernel_rfl) (by kernel_rfl) (by kernel_rfl) (fun _ _ _ h => h) (Or.inl ⟨by kernel_rfl, ?yd4⟩) (by assumption) ?rd4
            case yd4 => (intro wq hSw; (try dsimp only at hSw); go_simp; (try with_reducible rfl))
            (try simp only [Act.put, List.getElem_toArray, List.getElem_cons_succ, List.getElem_cons_zero, List.setIfInBounds_toArray, List.set_cons_zero, List.set_cons_succ])
            refine wpAnyH_take (i := 5) (v := ?vd5) rfl (by kernel_rfl) (by kernel_rfl) (by kernel_rfl) (fun _ _ _ h => h) (Or.inl ⟨by kernel_rfl, ?yd5⟩) (by assumption) ?rd5
            case yd5 => (intro wq hSw; (try dsimp only at hSw); go_simp; (try with_reducible rfl))
            (try simp only [Act.put, List.getElem_toArray, List.getElem_cons_succ, List.getElem_cons_zero, List.setIfInBounds_toArray, List.set_cons_zero, List.set_cons_succ])
            refine wpAnyH_ready (rs := [3]) (by kernel_rfl) (by simp) ?_
            refine AllReadyH.cons rfl (fun K hK => ?_) AllReadyH.nil
            go_simp
            refine hK.out _ _ (by exact HS.out _ PD) (fun hHeld => ?_)
            clear hK K
            (try simp only [Act.put, List.getElem_toArray, List.getElem_cons_succ, List.getElem_cons_zero, List.setIfInBounds_toArray, List.set_cons_zero, List.set_cons_succ])
            refine wpAnyH_take (i := 6) (v := ?vd6) rfl (by kernel_rfl) (by kernel_rfl) (by kernel_rfl) (fun _ _ _ h => h) (Or.inl ⟨by kernel_rfl, ?yd6⟩) (by assumption) ?rd6
            case yd6 => (intro wq hSw; (try dsimp only at hSw); go_simp; (try with_reducible rfl))
            (try simp only [Act.put, List.getElem_toArray, List.getElem_cons_succ, List.getElem_cons_zero, List.setIfInBounds_toArray, List.set_cons_zero, List.set_cons_succ])
            refine wpAnyH_take (i := 7) (v := ?vd7) rfl (by kernel_rfl) (by kernel_rfl) (by kernel_rfl) (fun _ _ _ h => h) (Or.inl ⟨by kernel_rfl, ?yd7⟩) (by assumption) ?rd7
            case yd7 => (intro wq hSw; (try dsimp only at hSw); go_simp; (try with_reducible rfl))
            (try simp only [Act.put, List.getElem_toArray, List.getElem_cons_succ, List.getElem_cons_zero, List.setIfInBounds_toArray, List.set_cons_zero, List.set_cons_succ])
            refine wpAnyH_ready (rs := [8]) (by kernel_rfl) (by simp) ?_
            refine AllReadyH.cons rfl (fun K hK => ?_) AllReadyH.nil
            go_simp
            refine hK.out _ _ (by exact HSF.out) (fun hHeld => ?_)
            clear hK K
            (try simp only [Act.put, List.getElem_toArray, List.getElem_cons_succ, List.getElem_cons_zero, List.setIfInBounds_toArray, List.set_cons_zero, List.set_cons_succ])
            refine wpAnyH_done (by kernel_rfl) ?_ _
            refine NoPanic.normal ?_
            clear hHeld
            go_wp2_with fail
            go_roundw
            case rel => exact ⟨k + 1, by omega, by go_num, by rw [HD2.out], by rw [HD2.out]; exact PF.1⟩
            case measure => simp [intOf]; omega
    · obtain rfl : k = n := by omega
      have HTK := Lib.hid (show bandOf rl top bottom (ds.take k) = bandOf rl top bottom ds by rw [HN.out, List.take_length])
      generalize bandOf rl top bottom (ds.take k) = t at P1 HTK
      go_wp2_with fail
      go_ret
      exact ⟨_, rfl, by rw [← HTK.out]; exact P1.1.less (by omega), P1.2.2⟩
end Go.Proofs.Ytfabknabkcfpjaa
