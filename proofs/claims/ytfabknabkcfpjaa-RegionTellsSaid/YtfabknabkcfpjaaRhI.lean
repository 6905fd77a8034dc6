/- sidesOf: the sides of two sets' rectangles. -/
import Derived.Test.YtfabknabkcfpjaaRhF
import Derived.Test.YtfabknabkcfpjaaRhJ
import Derived.Test.YtfabknabkcfpjaaRhU
import Derived.LoopTactic
namespace Go.Proofs.Ytfabknabkcfpjaa
open Go.RowKit Go.Shelf
/-- The two sides of a rectangle of set k; none of one without places. -/
def sidesR (k : Nat) (r : Rc) : List Sd := if emptyB r.x r.y r.w r.h = true then [] else [⟨r.x, 1, k, r⟩, ⟨r.x + r.w, -1, k, r⟩]
def sidesK (k : Nat) (rs : List Rc) : List Sd := rs.flatMap (sidesR k)
theorem sidesK_snoc {k : Nat} {rs : List Rc} {j : Nat} {r : Rc} (h : rs[j]? = some r) : sidesK k (rs.take (j + 1)) = sidesK k (rs.take j) ++ sidesR k r := by
  rw [take_snoc_get h]; unfold sidesK; rw [List.flatMap_append]; simp
theorem sidesK_len (k : Nat) (rs : List Rc) : (sidesK k rs).length ≤ 2 * rs.length := by
  unfold sidesK
  induction rs with
  | nil => simp
  | cons r t ih =>
    rw [List.flatMap_cons, List.length_append, List.length_cons]
    have : (sidesR k r).length ≤ 2 := by unfold sidesR; split <;> simp
    omega
theorem sideInfo : (Try.prog.info? 76).map (fun i => (i.zero, i.size, i.bytes)) = some (some (.agg #[.int .i64 0, .int .i64 0, .int .i64 0, .int .i64 0, .int .i64 0, .int .i64 0, .int .i64 0]), 7, 56) := by kernel_rfl
/-- What sidesOf keeps. -/
def Sst (w0 : World) (v : Value) (ds : List Sd) (wx : World) : Prop := OwK encS 76 7 wx w0.heap.size v ds ∧ Below w0.heap.size w0 wx
theorem Sst.next {w0 wx w1 : World} {v : Value} {ds : List Sd} (h : Sst w0 v ds wx) (hb : Below wx.heap.size wx w1) : Sst w0 v ds w1 := ⟨h.1.below hb, h.2.trans (hb.mono h.2.size)⟩
/-- The sides of the first sets. -/
def sidesU (la lb : List Rc) : Nat → List Sd
  | 0 => []
  | 1 => sidesK 0 la
  | _ => sidesK 0 la ++ sidesK 1 lb
/-- How far sidesOf's outer loop is. -/
def U3 (w : World) (la lb : List Rc) (vv z : Value) (wr : World) : Prop :=
  (z = .int .i64 0 ∧ Sst w vv (sidesU la lb 0) wr) ∨ (z = .int .i64 1 ∧ Sst w vv (sidesU la lb 1) wr) ∨ (z = .int .i64 2 ∧ Sst w vv (sidesU la lb 2) wr)
theorem U3.one {w wr : World} {la lb : List Rc} {vv : Value} (h : Sst w vv (sidesU la lb 1) wr) : U3 w la lb vv (.int .i64 1) wr := Or.inr (Or.inl ⟨rfl, h⟩)
theorem U3.two {w wr : World} {la lb : List Rc} {vv : Value} (h : Sst w vv (sidesU la lb 2) wr) : U3 w la lb vv (.int .i64 2) wr := Or.inr (Or.inr ⟨rfl, h⟩)
set_option maxRecDepth 100000 in
set_option maxHeartbeats 8000000 in
theorem sides_c (va vb : Value) (la lb : List Rc) (w : World) (ha : RdK encR 4 w va la) (hb : RdK encR 4 w vb lb) (hla : la.length ≤ 256) (hlb : lb.length ≤ 256) (hra : ∀ r ∈ la, badR r = false) (hrb : ∀ r ∈ lb, badR r = false) :
    Calls Try.prog 39 #[va, vb] w fun e w' => ∃ v ds, e = .returned v ∧ ds.Perm (sidesK 0 la ++ sidesK 1 lb) ∧ ds.Pairwise (fun a b => a.x ≤ b.x) ∧ RdK encS 7 w' v ds ∧ Below w.heap.size w w' := by
  obtain ⟨i0, hi, hz0, hz1, hz2⟩ := info_parts sideInfo
  obtain ⟨pa, ca, rfl, hca⟩ := ha
  obtain ⟨pb, cb, rfl, hcb⟩ := hb
  obtain ⟨n0, hn0⟩ : ∃ n, n = la.length := ⟨_, rfl⟩
  obtain ⟨n1, hn1⟩ : ∃ n, n = lb.length := ⟨_, rfl⟩
  rw [← hn0] at hla ⊢
  rw [← hn1] at hlb ⊢
  have HN0 := Lib.hid hn0
  have HN1 := Lib.hid hn1
  have HC0 := Lib.hid hca
  have HC1 := Lib.hid hcb
  have HR0 := Lib.hid hra
  have HR1 := Lib.hid hrb
  clear hn0 hn1 hca hcb hra hrb
  have hx0 : ∀ wq, (Instr.index 74 (.agg #[.slice pa n0 ca, .slice pb n1 cb]) (.int .i64 0)).run Try.prog wq = .ok (.slice pa n0 ca) wq := fun _ => by kernel_rfl
  have hx1 : ∀ wq, (Instr.index 74 (.agg #[.slice pa n0 ca, .slice pb n1 cb]) (.int .i64 1)).run Try.prog wq = .ok (.slice pb n1 cb) wq := fun _ => by kernel_rfl
  have P0 : Sst w (.slice none 0 0) (sidesU la lb 0) w := ⟨OwK.nil _ _, Below.refl _ _⟩
  go_enter Try.func39, Try.ntmps39
  go_wp2_with fail
  go_loopw [5, 13] (fun vv z wr => U3 w la lb vv z wr) (fun _ z _ => 2 - (intOf z).toNat)
  case atStart => exact Or.inl ⟨rfl, P0⟩
  case round =>
    clear P0
    unfold U3 at hrel
    rcases hrel with ⟨rfl, P1⟩ | ⟨rfl, P1⟩ | ⟨rfl, P1⟩
    · have PB : Sst w u5 ([] ++ sidesK 0 ([] : List Rc)) wr := P1
      have HBL := Lib.hid (show ([] : List Sd).length ≤ 512 by decide)
      skip
      clear P1
      go_wp2_with fail
      go_loopw [5, 19] (fun vv z wr => ∃ j : Nat, j ≤ n0 ∧ z = .int .i64 j ∧ Sst w vv (([] : List Sd) ++ sidesK 0 (la.take j)) wr) (fun _ z _ => n0 - (intOf z).toNat)
      case atStart => exact ⟨0, Nat.zero_le _, rfl, by simpa [sidesK] using PB⟩
      case round =>
        obtain ⟨j, hj, rfl, P2⟩ := hrel
        clear PB
        by_cases hlj : j < n0
        · obtain ⟨r, hx⟩ : ∃ r, la[j]? = some r := ⟨_, List.getElem?_eq_getElem (by rw [← HN0.out]; exact hlj)⟩
          have HX := Lib.hid (sidesK_snoc (k := 0) hx)
          obtain ⟨b, o, rfl, hb1, hb2⟩ := HC0.out j r hx
          obtain ⟨r0, r1, r2, r3⟩ := RdK.rect (w := wr) (fun i u hu => (P2.2.cell (p := ⟨b, o + j * 4 + i, none⟩) hb1).trans (hb2 i u hu))
          have hbl : b < wr.heap.size := Nat.lt_of_lt_of_le hb1 P2.2.size
          have hbad := HR0.out r (List.mem_of_getElem? hx)
          have hbnd : -32768 ≤ r.x ∧ r.x ≤ 32767 ∧ 0 ≤ r.w ∧ r.x + r.w ≤ 32768 := by
            unfold badR at hbad
            rw [Bool.not_eq_false'] at hbad
            exact ((rightB_iff _ _ _ _).1 hbad).1
          obtain ⟨d1, d2, d3, d4⟩ := hbnd
          have hlen : (([] : List Sd) ++ sidesK 0 (la.take j)).length ≤ 4096 := by
            rw [List.length_append]
            have h1 := sidesK_len 0 (la.take j)
            have h2 : (la.take j).length ≤ 256 := by rw [List.length_take]; omega
            have h3 := HBL.out
            omega
          clear hb2 hx hbad
          have hi0 : (0 : Int) ≤ (j : Int) := by omega
          have hi1 : (j : Int) < (n0 : Int) := by omega
          have HE := fun W => empty_c r.x r.y r.w r.h W
          have P3 := P2.next ((Below.refl _ _).alloc (Nat.le_refl _) (.cells #[.int .i64 r.x, .int .i64 r.y, .int .i64 r.w, .int .i64 r.h] 40))
          have B3 := Blk.new wr 40 #[.int .i64 r.x, .int .i64 r.y, .int .i64 r.w, .int .i64 r.h]
          clear P2
          cases hE : emptyB r.x r.y r.w r.h
          · have HS := Lib.hid (show sidesR 0 r = [⟨r.x, 1, 0, r⟩, ⟨r.x + r.w, -1, 0, r⟩] by unfold sidesR; rw [hE]; rfl)
            rw [hE] at HE
            have HEE := Lib.hid HE
            clear HE hE
            have HLEN := Lib.hid hlen
            obtain ⟨acc, hacc⟩ : ∃ acc, ([] : List Sd) ++ sidesK 0 (la.take j) = acc := ⟨_, rfl⟩
            rw [hacc] at P3 HLEN
            have HACC := Lib.hid hacc
            clear hacc hlen
            go_wp2_with fail
            refine (HEE.out _).mono ?_
            rintro e1 w1 ⟨rfl, hb⟩
            have P4 := P3.next hb
            have B4 := B3.next hb
            clear hb P3 B3 r0 r1 r2 r3
            obtain ⟨⟨r0, r1, r2, r3⟩, _⟩ := B4.c4
            go_wp2_with (at_builtin; refine wpList_append_own_at _ rfl (.tmp 26) (.tmp 40) 59 rfl w.heap.size 76 i0 (.agg #[.int .i64 0, .int .i64 0, .int .i64 0, .int .i64 0, .int .i64 0, .int .i64 0, .int .i64 0]) 7 56 Try.underlying59 hi hz0 hz1 hz2 rfl (by decide) _ _ _ rfl (World.ownsRow.alloc P4.1 _) ⟨_, 0, none⟩ 2 2 [.int .i64 r.x, .int .i64 1, .int .i64 0, .int .i64 r.x, .int .i64 r.y, .int .i64 r.w, .int .i64 r.h, .int .i64 (r.x + r.w), .int .i64 (-1), .int .i64 0, .int .i64 r.x, .int .i64 r.y, .int .i64 r.w, .int .i64 r.h] rfl rfl (cell_list _ _ _) (oneCell_ints [r.x, 1, 0, r.x, r.y, r.w, r.h, r.x + r.w, -1, 0, r.x, r.y, r.w, r.h]) (by have := HLEN.out; unfold maxLen; omega) (by have := HLEN.out; omega) (by simp; exact Nat.le_trans P4.2.size (Nat.le_succ _)) ?_; intro v' w3 hown hg _ hat)
            have P5 : Sst w v' (([] : List Sd) ++ sidesK 0 (la.take (j + 1))) w3 := by
              rw [HX.out, HS.out, ← List.append_assoc, HACC.out]
              refine ⟨?_, below_only (P4.2.alloc P4.2.size _) hg (by simp; exact Nat.le_trans P4.2.size (Nat.le_succ _)) (fun g e => (P4.1.lt e).1)⟩
              unfold OwK
              rw [List.length_append, List.flatMap_append]
              exact hown
            clear P4 hown hg hat
            go_wp2_with fail
            go_roundw
            case rel => exact ⟨j + 1, by omega, by go_num, P5⟩
            case measure => simp [intOf]; omega
          · have HS := Lib.hid (show sidesR 0 r = [] by unfold sidesR; rw [hE]; rfl)
            rw [hE] at HE
            have HEE := Lib.hid HE
            clear HE hE
            go_wp2_with fail
            refine (HEE.out _).mono ?_
            rintro e1 w1 ⟨rfl, hb⟩
            have P4 := P3.next hb
            clear hb P3 B3 r0 r1 r2 r3
            go_wp2_with fail
            go_roundw
            case rel => exact ⟨j + 1, by omega, by go_num, by rw [HX.out, HS.out, List.append_nil]; exact P4⟩
            case measure => simp [intOf]; omega
        · obtain rfl : j = n0 := by omega
          have HFIN := Lib.hid (show ([] : List Sd) ++ sidesK 0 (la.take j) = sidesU la lb 1 by rw [HN0.out, List.take_length]; rfl)
          go_wp2_with fail
          go_roundw
          case rel => exact U3.one (by rw [← HFIN.out]; exact P2)
          case measure => simp [intOf]
    · have PB : Sst w u5 (sidesK 0 la) wr := P1
      have HBL := Lib.hid (show (sidesK 0 la).length ≤ 512 by have h1 := sidesK_len 0 la; have h2 := HN0.out; omega)
      have PB : Sst w u5 (sidesK 0 la ++ sidesK 1 ([] : List Rc)) wr := by simpa [sidesK] using PB
      skip
      clear P1
      go_wp2_with fail
      go_loopw [5, 19] (fun vv z wr => ∃ j : Nat, j ≤ n1 ∧ z = .int .i64 j ∧ Sst w vv (sidesK 0 la ++ sidesK 1 (lb.take j)) wr) (fun _ z _ => n1 - (intOf z).toNat)
      case atStart => exact ⟨0, Nat.zero_le _, rfl, by simpa [sidesK] using PB⟩
      case round =>
        obtain ⟨j, hj, rfl, P2⟩ := hrel
        clear PB
        by_cases hlj : j < n1
        · obtain ⟨r, hx⟩ : ∃ r, lb[j]? = some r := ⟨_, List.getElem?_eq_getElem (by rw [← HN1.out]; exact hlj)⟩
          have HX := Lib.hid (sidesK_snoc (k := 1) hx)
          obtain ⟨b, o, rfl, hb1, hb2⟩ := HC1.out j r hx
          obtain ⟨r0, r1, r2, r3⟩ := RdK.rect (w := wr) (fun i u hu => (P2.2.cell (p := ⟨b, o + j * 4 + i, none⟩) hb1).trans (hb2 i u hu))
          have hbl : b < wr.heap.size := Nat.lt_of_lt_of_le hb1 P2.2.size
          have hbad := HR1.out r (List.mem_of_getElem? hx)
          have hbnd : -32768 ≤ r.x ∧ r.x ≤ 32767 ∧ 0 ≤ r.w ∧ r.x + r.w ≤ 32768 := by
            unfold badR at hbad
            rw [Bool.not_eq_false'] at hbad
            exact ((rightB_iff _ _ _ _).1 hbad).1
          obtain ⟨d1, d2, d3, d4⟩ := hbnd
          have hlen : (sidesK 0 la ++ sidesK 1 (lb.take j)).length ≤ 4096 := by
            rw [List.length_append]
            have h1 := sidesK_len 1 (lb.take j)
            have h2 : (lb.take j).length ≤ 256 := by rw [List.length_take]; omega
            have h3 := HBL.out
            omega
          clear hb2 hx hbad
          have hi0 : (0 : Int) ≤ (j : Int) := by omega
          have hi1 : (j : Int) < (n1 : Int) := by omega
          have HE := fun W => empty_c r.x r.y r.w r.h W
          have P3 := P2.next ((Below.refl _ _).alloc (Nat.le_refl _) (.cells #[.int .i64 r.x, .int .i64 r.y, .int .i64 r.w, .int .i64 r.h] 40))
          have B3 := Blk.new wr 40 #[.int .i64 r.x, .int .i64 r.y, .int .i64 r.w, .int .i64 r.h]
          clear P2
          cases hE : emptyB r.x r.y r.w r.h
          · have HS := Lib.hid (show sidesR 1 r = [⟨r.x, 1, 1, r⟩, ⟨r.x + r.w, -1, 1, r⟩] by unfold sidesR; rw [hE]; rfl)
            rw [hE] at HE
            have HEE := Lib.hid HE
            clear HE hE
            have HLEN := Lib.hid hlen
            obtain ⟨acc, hacc⟩ : ∃ acc, sidesK 0 la ++ sidesK 1 (lb.take j) = acc := ⟨_, rfl⟩
            rw [hacc] at P3 HLEN
            have HACC := Lib.hid hacc
            clear hacc hlen
            go_wp2_with fail
            refine (HEE.out _).mono ?_
            rintro e1 w1 ⟨rfl, hb⟩
            have P4 := P3.next hb
            have B4 := B3.next hb
            clear hb P3 B3 r0 r1 r2 r3
            obtain ⟨⟨r0, r1, r2, r3⟩, _⟩ := B4.c4
            go_wp2_with (at_builtin; refine wpList_append_own_at _ rfl (.tmp 26) (.tmp 40) 59 rfl w.heap.size 76 i0 (.agg #[.int .i64 0, .int .i64 0, .int .i64 0, .int .i64 0, .int .i64 0, .int .i64 0, .int .i64 0]) 7 56 Try.underlying59 hi hz0 hz1 hz2 rfl (by decide) _ _ _ rfl (World.ownsRow.alloc P4.1 _) ⟨_, 0, none⟩ 2 2 [.int .i64 r.x, .int .i64 1, .int .i64 1, .int .i64 r.x, .int .i64 r.y, .int .i64 r.w, .int .i64 r.h, .int .i64 (r.x + r.w), .int .i64 (-1), .int .i64 1, .int .i64 r.x, .int .i64 r.y, .int .i64 r.w, .int .i64 r.h] rfl rfl (cell_list _ _ _) (oneCell_ints [r.x, 1, 1, r.x, r.y, r.w, r.h, r.x + r.w, -1, 1, r.x, r.y, r.w, r.h]) (by have := HLEN.out; unfold maxLen; omega) (by have := HLEN.out; omega) (by simp; exact Nat.le_trans P4.2.size (Nat.le_succ _)) ?_; intro v' w3 hown hg _ hat)
            have P5 : Sst w v' (sidesK 0 la ++ sidesK 1 (lb.take (j + 1))) w3 := by
              rw [HX.out, HS.out, ← List.append_assoc, HACC.out]
              refine ⟨?_, below_only (P4.2.alloc P4.2.size _) hg (by simp; exact Nat.le_trans P4.2.size (Nat.le_succ _)) (fun g e => (P4.1.lt e).1)⟩
              unfold OwK
              rw [List.length_append, List.flatMap_append]
              exact hown
            clear P4 hown hg hat
            go_wp2_with fail
            go_roundw
            case rel => exact ⟨j + 1, by omega, by go_num, P5⟩
            case measure => simp [intOf]; omega
          · have HS := Lib.hid (show sidesR 1 r = [] by unfold sidesR; rw [hE]; rfl)
            rw [hE] at HE
            have HEE := Lib.hid HE
            clear HE hE
            go_wp2_with fail
            refine (HEE.out _).mono ?_
            rintro e1 w1 ⟨rfl, hb⟩
            have P4 := P3.next hb
            clear hb P3 B3 r0 r1 r2 r3
            go_wp2_with fail
            go_roundw
            case rel => exact ⟨j + 1, by omega, by go_num, by rw [HX.out, HS.out, List.append_nil]; exact P4⟩
            case measure => simp [intOf]; omega
        · obtain rfl : j = n1 := by omega
          have HFIN := Lib.hid (show sidesK 0 la ++ sidesK 1 (lb.take j) = sidesU la lb 2 by rw [HN1.out, List.take_length]; rfl)
          go_wp2_with fail
          go_roundw
          case rel => exact U3.two (by rw [← HFIN.out]; exact P2)
          case measure => simp [intOf]
    · have hl1 := sidesK_len 0 la
      have hl2 := sidesK_len 1 lb
      have HS := Lib.hid (sort_c w.heap.size u5 (sidesU la lb 2) wr P1.1 (by show (sidesK 0 la ++ sidesK 1 lb).length ≤ 4096; rw [List.length_append]; have := HN0.out; have := HN1.out; omega))
      go_wp2_with fail
      refine HS.out.mono ?_
      rintro e1 w1 ⟨rfl, ds, h1, h2, h3, h4⟩
      have HQ := Lib.hid (show ds.Perm (sidesK 0 la ++ sidesK 1 lb) ∧ ds.Pairwise (fun a b => a.x ≤ b.x) ∧ RdK encS 7 w1 u5 ds ∧ Below w.heap.size w w1 from
        ⟨h1, h2, h3, Kept.below P1.2 h4 P1.2.size (fun i hi e => by have := (P1.1.lt e).1; omega)⟩)
      clear h1 h2 h3 h4
      go_wp2_with fail
      go_ret
      exact ⟨u5, ds, rfl, HQ.out⟩
end Go.Proofs.Ytfabknabkcfpjaa
