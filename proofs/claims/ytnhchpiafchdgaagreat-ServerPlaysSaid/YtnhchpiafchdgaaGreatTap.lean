/- Texts Sbe SrB SrC SrD. -/
import Derived.Test.YtnhchpiafchdgaaGreatTao
import Derived.Test.YtnhchpiafchdgaaGreatTac
import Derived.Test.YtnhchpiafchdgaaGreatTam
import Derived.MapFrom
import Derived.Test.YtnhchpiafchdgaaGreatTaa
section
namespace Go.Proofs.YtnhchpiafchdgaaGreat.Pp
open Go.RowKit Go.Maps
def sgnL : Array UInt8 := #[97, 98, 99, 100, 101, 102, 103, 104, 105, 106, 107, 108, 109, 110, 111, 112, 113, 114, 115, 116, 117, 118, 119, 120, 121, 122, 65, 66, 67, 68, 69, 70, 71, 72, 73, 74, 75, 76, 77, 78, 79, 80, 81, 82, 83, 84, 85, 86, 87, 88, 89, 90, 48, 49, 50, 51, 52, 53, 54, 55, 56, 57, 95]
abbrev sgnB : ByteArray := ⟨#[97, 98, 99, 100, 101, 102, 103, 104, 105, 106, 107, 108, 109, 110, 111, 112, 113, 114, 115, 116, 117, 118, 119, 120, 121, 122, 65, 66, 67, 68, 69, 70, 71, 72, 73, 74, 75, 76, 77, 78, 79, 80, 81, 82, 83, 84, 85, 86, 87, 88, 89, 90, 48, 49, 50, 51, 52, 53, 54, 55, 56, 57, 95]⟩
def sgn (j : Nat) : Int := ((sgnL[j]?.getD 0).toNat : Int)
def anyB (x : Int) (m : Nat) : Bool := (List.range m).any fun j => sgn j == x
theorem any_all (x : Nat) (hx : x < 256) : anyB (x : Int) 63 = inN (x : Int) := by
 have h : ∀ y : Fin 256, anyB (y.val : Int) 63 = inN (y.val : Int) := by decide +kernel
 exact h ⟨x, hx⟩
theorem any_succ (x : Int) (m : Nat) : anyB x (m + 1) = (anyB x m || (sgn m == x)) := by
 unfold anyB
 rw [List.range_succ, List.any_append]
 simp
theorem sgn_at {j : Nat} (hj : j < sgnB.size) : sgn j = ((sgnB[j]'hj).toNat : Int) := by
 have h : j < sgnL.size := hj
 unfold sgn
 rw [Array.getElem?_eq_getElem h]
 rfl
set_option maxRecDepth 100000 in
set_option maxHeartbeats 4000000 in
theorem rname_c (s : ByteArray) (w : World) (hs : s.size ≤ 9223372036854775807) : Calls Tryz.prog 133 #[.string s] w fun e w' => e = .returned (.bool (nameB s)) ∧ Below w.heap.size w w' := by
 obtain ⟨n, hn⟩ : ∃ n, n = s.size := ⟨_, rfl⟩
 have HN := Lib.hid hn
 have HS := Lib.hid hs
 clear hn hs
 go_enter Tryz.func133, Tryz.ntmps133
 go_wp2_with fail
 go_loopw [3] (fun z wr => ∃ k q : Nat, k ≤ s.size ∧ z = .int .i64 k ∧ wr = w.drewN q ∧ Asd (∀ j, j < k → inN (byt s j) = true)) (fun z _ => s.size - (intOf z).toNat)
 case atStart => exact ⟨0, 0, Nat.zero_le _, rfl, rfl, fun j hj => absurd hj (Nat.not_lt_zero _)⟩
 case round =>
  obtain ⟨k, q, hk, rfl, rfl, hA⟩ := hrel
  have HA := Lib.hid (show ∀ j, j < k → inN (byt s j) = true from hA)
  have hk0 : (0 : Int) ≤ (k : Int) := by omega
  clear hA
  by_cases hlt : k < s.size
  · have hk1 : (k : Int) < (s.size : Int) := by omega
    obtain ⟨x, hx⟩ : ∃ x, x = (s[k]'hlt).toNat := ⟨_, rfl⟩
    have HX := Lib.hid hx
    have HLT := Lib.hid hlt
    clear hx
    go_wp2_with fail
    go_loopw [4, 5] (fun f z wr => ∃ m r : Nat, m ≤ 63 ∧ z = .int .i64 m ∧ f = .bool (anyB (x : Int) m) ∧ wr = w.drewN r) (fun _ z _ => 63 - (intOf z).toNat)
    case atStart => exact ⟨0, q, by omega, rfl, rfl, rfl⟩
    case round =>
      obtain ⟨m, r, hm, rfl, rfl, rfl⟩ := hrel
      have hm0 : (0 : Int) ≤ (m : Int) := by omega
      by_cases hm3 : m < 63
      · have hm1 : (m : Int) < 63 := by omega
        cases hf : anyB (x : Int) m with
        | true =>
         go_wp2_with fail
         go_quiet (fail)
         go_wp2_with fail
         go_roundw
         case rel => exact ⟨m + 1, _, by omega, by go_num, by rw [any_succ, hf]; rfl, rfl⟩
         case measure => simp [intOf]; omega
        | false =>
         have hsz : m < sgnB.size := hm3
         go_wp2_with fail
         go_quiet (fail)
         go_wp2_with fail
         go_roundw
         case rel => exact ⟨m + 1, _, by omega, by go_num, by rw [any_succ, hf, sgn_at hsz, HX.out]; rfl, rfl⟩
         case measure => simp [intOf]; omega
      · obtain rfl : m = 63 := by omega
        have HIN := Lib.hid (show inN (byt s k) = anyB (x : Int) 63 by
         rw [any_all x (by rw [HX.out]; exact UInt8.toNat_lt _), HX.out, byt_at HLT.out])
        cases hf : anyB (x : Int) 63 with
        | true =>
         have HF := Lib.hid hf
         have hs9 : (k : Int) + 1 ≤ 9223372036854775807 := by have := HS.out; have := HLT.out; omega
         have hwr : wrap64 ((k : Int) + 1) = (k : Int) + 1 := by unfold wrap64; omega
         go_wp2_with fail
         go_roundw
         case rel => exact ⟨k + 1, _, by omega, by go_num, rfl, fun j hj => by
          rcases Nat.lt_or_ge j k with h | h
          · exact HA.out j h
          · obtain rfl : j = k := by omega
            rw [HIN.out, HF.out]⟩
         case measure => simp [intOf]; omega
        | false =>
         have HR := Lib.hid (show nameB s = false from decide_eq_false (fun h => by
          have := h.2 k HLT.out
          rw [HIN.out, hf] at this
          cases this))
         go_wp2_with fail
         go_ret
         exact ⟨ret_bool HR.out.symm, below_drewN (Below.refl _ _) _⟩
  · obtain rfl : k = s.size := by omega
    by_cases h1 : 1 ≤ s.size
    · by_cases h2 : s.size ≤ 32
      · have g1 : (1 : Int) ≤ (s.size : Int) := by omega
        have g2 : (s.size : Int) ≤ 32 := by omega
        have HR := Lib.hid (show nameB s = true from decide_eq_true ⟨⟨h1, h2⟩, HA.out⟩)
        go_wp2_with fail
        go_ret
        exact ⟨ret_bool HR.out.symm, below_drewN (Below.refl _ _) _⟩
      · have g1 : (1 : Int) ≤ (s.size : Int) := by omega
        have g2 : ¬ (s.size : Int) ≤ 32 := by omega
        have HR := Lib.hid (show nameB s = false from decide_eq_false (fun h => h2 h.1.2))
        go_wp2_with fail
        go_ret
        exact ⟨ret_bool HR.out.symm, below_drewN (Below.refl _ _) _⟩
    · have g1 : ¬ (1 : Int) ≤ (s.size : Int) := by omega
      have HR := Lib.hid (show nameB s = false from decide_eq_false (fun h => h1 h.1.1))
      go_wp2_with fail
      go_ret
      exact ⟨ret_bool HR.out.symm, below_drewN (Below.refl _ _) _⟩
end Go.Proofs.YtnhchpiafchdgaaGreat.Pp
end
section
namespace Go.Proofs.YtnhchpiafchdgaaGreat.Pp
open Go.RowKit Go.Shelf Go.Maps
theorem one_flatH (l : List Hd) : ∀ q ∈ l.flatMap encH, q.oneCell' = true := fun q hq => by
 obtain ⟨v, -, hv⟩ := List.mem_flatMap.1 hq
 exact oneCell_encH v q hv
theorem flat_set (p : Pr) : ∀ (R : List Hd) (k : Nat) (h : Hd), R[k]? = some h → (((R.flatMap encH).set (k * 4 + 1) (.string p.name)).set (k * 4 + 2) (.string p.typ)).set (k * 4 + 3) (.string p.data) = (R.set k ⟨h.win, p⟩).flatMap encH
 | [], k, h, hx => by simp at hx
 | x :: t, 0, h, hx => by
  simp only [List.getElem?_cons_zero, Option.some.injEq] at hx
  subst hx
  rfl
 | x :: t, k + 1, h, hx => by
  have ih := flat_set p t k h (by simpa using hx)
  rw [List.flatMap_cons, List.set_append_right _ _ (by rw [encH_len]; omega), List.set_append_right _ _ (by rw [encH_len]; omega), List.set_append_right _ _ (by rw [encH_len]; omega), encH_len,
   show (k + 1) * 4 + 1 - 4 = k * 4 + 1 by omega, show (k + 1) * 4 + 2 - 4 = k * 4 + 2 by omega, show (k + 1) * 4 + 3 - 4 = k * 4 + 3 by omega, ih, List.set_cons_succ, List.flatMap_cons]
theorem OH.stored {w : World} {B g n cap k : Nat} {R : List Hd} {h : Hd} (hO : OH w B (.slice (some ⟨g, 0, none⟩) n cap) R) (hn : n = R.length) (hk : R[k]? = some h) (p : Pr) :
  OH (((w.setCell ⟨g, k * 4 + 1, none⟩ (.string p.name)).setCell ⟨g, k * 4 + 1 + 1, none⟩ (.string p.typ)).setCell ⟨g, k * 4 + 1 + 2, none⟩ (.string p.data)) B (.slice (some ⟨g, 0, none⟩) n cap) (R.set k ⟨h.win, p⟩) ∧
  w.grownBy (((w.setCell ⟨g, k * 4 + 1, none⟩ (.string p.name)).setCell ⟨g, k * 4 + 1 + 1, none⟩ (.string p.typ)).setCell ⟨g, k * 4 + 1 + 2, none⟩ (.string p.data)) (some g) := by
 subst hn
 obtain ⟨h1, g1⟩ := World.ownsRow.stored hO (k * 4 + 1) (.string p.name)
 obtain ⟨h2, g2⟩ := World.ownsRow.stored h1 (k * 4 + 2) (.string p.typ)
 obtain ⟨h3, g3⟩ := World.ownsRow.stored h2 (k * 4 + 3) (.string p.data)
 refine ⟨?_, only_trans (only_trans g1 g2) g3⟩
 show World.ownsRow _ B 120 4 _ (R.set k ⟨h.win, p⟩).length _
 rw [List.length_set, ← flat_set p R k h hk]
 exact h3
set_option maxRecDepth 100000 in
set_option maxHeartbeats 4000000 in
theorem rset_badname {w : World} {B : Nat} {v : Value} {L : List Hd} (h : OH w B v L) (hL : L.length ≤ 1048576) (i : Int) (p : Pr) (z1 : p.name.size ≤ 9223372036854775807) (z2 : p.typ.size ≤ 9223372036854775807) (h1 : nameB p.name = false) :
  Calls Tryz.prog 116 #[v, .int .i64 i, prV p] w fun e w' => ∃ v', e = .returned (.tuple #[v', .int .i64 70]) ∧ OH w' B v' (L) ∧ Below w.heap.size w w' := by
 obtain ⟨bt, h2⟩ : ∃ bt, nameB p.typ = bt := ⟨_, rfl⟩
 obtain ⟨pa, c, rfl⟩ := OwK.slice h
 obtain ⟨n, hn⟩ : ∃ n, n = L.length := ⟨_, rfl⟩
 rw [← hn] at h ⊢
 obtain ⟨wb, hwb⟩ : ∃ wb, wb = w.alloc (.cells #[.string p.name, .string p.typ, .string p.data] 35) := ⟨_, rfl⟩
 have hbel : Below w.heap.size w wb := by rw [hwb]; exact (Below.refl _ _).alloc (Nat.le_refl _) _
 have hbx : Blk wb w.heap.size 35 #[.string p.name, .string p.typ, .string p.data] := by rw [hwb]; exact Blk.new w _ _
 have HN1 := Lib.hid (fun W => (show Calls Tryz.prog 133 #[.string p.name] W fun e w' => e = .returned (.bool false) ∧ Below W.heap.size W w' from h1 ▸ rname_c p.name W z1))
 have HN2 := Lib.hid (fun W => (show Calls Tryz.prog 133 #[.string p.typ] W fun e w' => e = .returned (.bool bt) ∧ Below W.heap.size W w' from h2 ▸ rname_c p.typ W z2))
 have HX := Lib.hid hbx
 have HB := Lib.hid hbel
 have HW := Lib.hid hwb
 have HO := Lib.hid (fun W (hW : Below wb.heap.size wb W) => (h.below hbel).below hW)
 have HN := Lib.hid hn
 have HLL := Lib.hid hL
 obtain ⟨⟨x0, x1, x2⟩, -⟩ := hbx.c3
 clear h hn h1 h2 hbel hbx z1 z2 hL
 go_enter Tryz.func116, Tryz.ntmps116
 go_upto_region 1 with fail
 rw [← HW.out]
 clear hwb
 go_wp2_with (go_at_call 133; ((with_reducible refine (HN1.out _).mono ?_); rintro e w2 ⟨rfl, hb2⟩); have HB2 := Lib.hid hb2; clear hb2; clear x0 x1 x2; obtain ⟨⟨x0, x1, x2⟩, -⟩ := (HX.out.next HB2.out).c3)
 refine bodyPost_ret (v := .tuple #[.slice pa n c, .int .i64 70]) (by simp [results, Tryz.results116, go_sem]) rfl ?_
 exact ⟨.slice pa n c, rfl, HO.out _ HB2.out, HB2.out.on HB.out HB.out.size⟩
set_option maxRecDepth 100000 in
set_option maxHeartbeats 4000000 in
theorem rset_badtype {w : World} {B : Nat} {v : Value} {L : List Hd} (h : OH w B v L) (hL : L.length ≤ 1048576) (i : Int) (p : Pr) (z1 : p.name.size ≤ 9223372036854775807) (z2 : p.typ.size ≤ 9223372036854775807) (h1 : nameB p.name = true) (h2 : nameB p.typ = false) :
  Calls Tryz.prog 116 #[v, .int .i64 i, prV p] w fun e w' => ∃ v', e = .returned (.tuple #[v', .int .i64 70]) ∧ OH w' B v' (L) ∧ Below w.heap.size w w' := by
 obtain ⟨pa, c, rfl⟩ := OwK.slice h
 obtain ⟨n, hn⟩ : ∃ n, n = L.length := ⟨_, rfl⟩
 rw [← hn] at h ⊢
 obtain ⟨wb, hwb⟩ : ∃ wb, wb = w.alloc (.cells #[.string p.name, .string p.typ, .string p.data] 35) := ⟨_, rfl⟩
 have hbel : Below w.heap.size w wb := by rw [hwb]; exact (Below.refl _ _).alloc (Nat.le_refl _) _
 have hbx : Blk wb w.heap.size 35 #[.string p.name, .string p.typ, .string p.data] := by rw [hwb]; exact Blk.new w _ _
 have HN1 := Lib.hid (fun W => (show Calls Tryz.prog 133 #[.string p.name] W fun e w' => e = .returned (.bool true) ∧ Below W.heap.size W w' from h1 ▸ rname_c p.name W z1))
 have HN2 := Lib.hid (fun W => (show Calls Tryz.prog 133 #[.string p.typ] W fun e w' => e = .returned (.bool false) ∧ Below W.heap.size W w' from h2 ▸ rname_c p.typ W z2))
 have HX := Lib.hid hbx
 have HB := Lib.hid hbel
 have HW := Lib.hid hwb
 have HO := Lib.hid (fun W (hW : Below wb.heap.size wb W) => (h.below hbel).below hW)
 have HN := Lib.hid hn
 have HLL := Lib.hid hL
 obtain ⟨⟨x0, x1, x2⟩, -⟩ := hbx.c3
 clear h hn h1 h2 hbel hbx z1 z2 hL
 go_enter Tryz.func116, Tryz.ntmps116
 go_upto_region 1 with fail
 rw [← HW.out]
 clear hwb
 go_wp2_with (first
  | (go_at_call 133; ((with_reducible refine (HN1.out _).mono ?_); rintro e w2 ⟨rfl, hb2⟩); have HB2 := Lib.hid hb2; clear hb2; clear x0 x1 x2; obtain ⟨⟨x0, x1, x2⟩, -⟩ := (HX.out.next HB2.out).c3)
  | (go_at_call 133; ((with_reducible refine (HN2.out _).mono ?_); rintro e w3 ⟨rfl, hb3⟩); have HB3 := Lib.hid (hb3.on HB2.out HB2.out.size); clear hb3; clear x0 x1 x2; obtain ⟨⟨x0, x1, x2⟩, -⟩ := (HX.out.next HB3.out).c3))
 refine bodyPost_ret (v := .tuple #[.slice pa n c, .int .i64 70]) (by simp [results, Tryz.results116, go_sem]) rfl ?_
 exact ⟨.slice pa n c, rfl, HO.out _ HB3.out, HB3.out.on HB.out HB.out.size⟩
set_option maxRecDepth 100000 in
set_option maxHeartbeats 4000000 in
theorem rset_long {w : World} {B : Nat} {v : Value} {L : List Hd} (h : OH w B v L) (hL : L.length ≤ 1048576) (i : Int) (p : Pr) (z1 : p.name.size ≤ 9223372036854775807) (z2 : p.typ.size ≤ 9223372036854775807) (h1 : nameB p.name = true) (h2 : nameB p.typ = true) (h3 : 256 < p.data.size) :
  Calls Tryz.prog 116 #[v, .int .i64 i, prV p] w fun e w' => ∃ v', e = .returned (.tuple #[v', .int .i64 71]) ∧ OH w' B v' (L) ∧ Below w.heap.size w w' := by
 have h4 : (256 : Int) < (p.data.size : Int) := by omega
 obtain ⟨pa, c, rfl⟩ := OwK.slice h
 obtain ⟨n, hn⟩ : ∃ n, n = L.length := ⟨_, rfl⟩
 rw [← hn] at h ⊢
 obtain ⟨wb, hwb⟩ : ∃ wb, wb = w.alloc (.cells #[.string p.name, .string p.typ, .string p.data] 35) := ⟨_, rfl⟩
 have hbel : Below w.heap.size w wb := by rw [hwb]; exact (Below.refl _ _).alloc (Nat.le_refl _) _
 have hbx : Blk wb w.heap.size 35 #[.string p.name, .string p.typ, .string p.data] := by rw [hwb]; exact Blk.new w _ _
 have HN1 := Lib.hid (fun W => (show Calls Tryz.prog 133 #[.string p.name] W fun e w' => e = .returned (.bool true) ∧ Below W.heap.size W w' from h1 ▸ rname_c p.name W z1))
 have HN2 := Lib.hid (fun W => (show Calls Tryz.prog 133 #[.string p.typ] W fun e w' => e = .returned (.bool true) ∧ Below W.heap.size W w' from h2 ▸ rname_c p.typ W z2))
 have HX := Lib.hid hbx
 have HB := Lib.hid hbel
 have HW := Lib.hid hwb
 have HO := Lib.hid (fun W (hW : Below wb.heap.size wb W) => (h.below hbel).below hW)
 have HN := Lib.hid hn
 have HLL := Lib.hid hL
 obtain ⟨⟨x0, x1, x2⟩, -⟩ := hbx.c3
 clear h hn h1 h2 h3 hbel hbx z1 z2 hL
 go_enter Tryz.func116, Tryz.ntmps116
 go_upto_region 1 with fail
 rw [← HW.out]
 clear hwb
 go_wp2_with (first
  | (go_at_call 133; ((with_reducible refine (HN1.out _).mono ?_); rintro e w2 ⟨rfl, hb2⟩); have HB2 := Lib.hid hb2; clear hb2; clear x0 x1 x2; obtain ⟨⟨x0, x1, x2⟩, -⟩ := (HX.out.next HB2.out).c3)
  | (go_at_call 133; ((with_reducible refine (HN2.out _).mono ?_); rintro e w3 ⟨rfl, hb3⟩); have HB3 := Lib.hid (hb3.on HB2.out HB2.out.size); clear hb3; clear x0 x1 x2; obtain ⟨⟨x0, x1, x2⟩, -⟩ := (HX.out.next HB3.out).c3))
 refine bodyPost_ret (v := .tuple #[.slice pa n c, .int .i64 71]) (by simp [results, Tryz.results116, go_sem]) rfl ?_
 exact ⟨.slice pa n c, rfl, HO.out _ HB3.out, HB3.out.on HB.out HB.out.size⟩
set_option maxRecDepth 100000 in
set_option maxHeartbeats 4000000 in
theorem rset_has {w : World} {B : Nat} {v : Value} {L : List Hd} (h : OH w B v L) (hL : L.length ≤ 1048576) (i : Int) (p : Pr) (z1 : p.name.size ≤ 9223372036854775807) (z2 : p.typ.size ≤ 9223372036854775807) (h1 : nameB p.name = true) (h2 : nameB p.typ = true) (h3 : p.data.size ≤ 256) {k : Nat} {x : Hd} (hp : placeI L i p.name = (k : Int)) (hk : L[k]? = some x) :
  Calls Tryz.prog 116 #[v, .int .i64 i, prV p] w fun e w' => ∃ v', e = .returned (.tuple #[v', .int .i64 0]) ∧ OH w' w.heap.size v' (L.set k ⟨x.win, p⟩) ∧ Below w.heap.size w w' := by
 obtain ⟨i0, hi0, hz0, hz1, hz2⟩ := info_parts heldInfo
 have h4 : ¬ (256 : Int) < (p.data.size : Int) := by omega
 obtain ⟨pa, c, rfl⟩ := OwK.slice h
 obtain ⟨n, hn⟩ : ∃ n, n = L.length := ⟨_, rfl⟩
 rw [← hn] at h ⊢
 obtain ⟨wb, hwb⟩ : ∃ wb, wb = w.alloc (.cells #[.string p.name, .string p.typ, .string p.data] 35) := ⟨_, rfl⟩
 have hbel : Below w.heap.size w wb := by rw [hwb]; exact (Below.refl _ _).alloc (Nat.le_refl _) _
 have hbx : Blk wb w.heap.size 35 #[.string p.name, .string p.typ, .string p.data] := by rw [hwb]; exact Blk.new w _ _
 have HN1 := Lib.hid (fun W => (show Calls Tryz.prog 133 #[.string p.name] W fun e w' => e = .returned (.bool true) ∧ Below W.heap.size W w' from h1 ▸ rname_c p.name W z1))
 have HN2 := Lib.hid (fun W => (show Calls Tryz.prog 133 #[.string p.typ] W fun e w' => e = .returned (.bool true) ∧ Below W.heap.size W w' from h2 ▸ rname_c p.typ W z2))
 have HX := Lib.hid hbx
 have HB := Lib.hid hbel
 have HW := Lib.hid hwb
 have HO := Lib.hid (fun W (hW : Below wb.heap.size wb W) => (h.below hbel).below hW)
 have HN := Lib.hid hn
 have HLL := Lib.hid hL
 obtain ⟨⟨x0, x1, x2⟩, -⟩ := hbx.c3
 have HPL := Lib.hid (fun W (hW : Below wb.heap.size wb W) => (show Calls Tryz.prog 65 #[.slice pa n c, .int .i64 i, .string p.name] W fun e w' => e = .returned (.int .i64 (k : Int)) ∧ W = w' from hp ▸ place_c (OH.rd ((h.below hbel).below hW)) hL i p.name))
 have HK := Lib.hid hk
 have hk0 : (0 : Int) ≤ (k : Int) := by omega
 have hkn : (k : Int) < (n : Int) := by rw [hn]; have := (List.getElem?_eq_some_iff.1 hk).1; omega
 clear hp hk
 clear h hn h1 h2 h3 hbel hbx z1 z2 hL
 go_enter Tryz.func116, Tryz.ntmps116
 go_upto_region 1 with fail
 rw [← HW.out]
 clear hwb
 go_upto_region 5 with (first
  | (go_at_call 133; ((with_reducible refine (HN1.out _).mono ?_); rintro e w2 ⟨rfl, hb2⟩); have HB2 := Lib.hid hb2; clear hb2; clear x0 x1 x2; obtain ⟨⟨x0, x1, x2⟩, -⟩ := (HX.out.next HB2.out).c3)
  | (go_at_call 133; ((with_reducible refine (HN2.out _).mono ?_); rintro e w3 ⟨rfl, hb3⟩); have HB3 := Lib.hid (hb3.on HB2.out HB2.out.size); clear hb3; clear x0 x1 x2; obtain ⟨⟨x0, x1, x2⟩, -⟩ := (HX.out.next HB3.out).c3))
 go_upto_region 6 with (go_at_call 65; ((with_reducible refine (HPL.out _ HB3.out).mono ?_); rintro e w4 ⟨rfl, rfl⟩))
 have hmd : (w3.alloc (.cells #[] 120)).ownsRow wb.heap.size 120 4 (.slice (some ⟨w3.heap.size, 0, none⟩) 0 0) 0 [] := World.ownsRow_made w3 #[] 0 HB3.out.size (by decide) rfl
 have HMD := Lib.hid hmd
 have HOW := Lib.hid (HO.out _ (HB3.out.alloc HB3.out.size (.cells #[] 120)))
 have HB4 := Lib.hid (HB3.out.alloc HB3.out.size (.cells #[] 120))
 clear hmd
 go_upto_region 7 with (at_builtin; refine list_app rfl (.tmp 31) (.tmp 32) 55 rfl wb.heap.size 120 i0 (.agg #[.int .i64 0, .string ByteArray.empty, .string ByteArray.empty, .string ByteArray.empty]) 4 56 Tryz.underlying55 hi0 hz0 hz1 hz2 rfl (by decide) _ _ _ rfl HMD.out B _ _ _ rfl HOW.out (one_flatH _) (by unfold maxLen; have := HLL.out; omega) (by have := HLL.out; omega) HB4.out.size ?_; intro v5 w5 ho5 hg5; have HO5 := Lib.hid (show OH w5 wb.heap.size v5 L from by have hh := ho5; rw [Nat.zero_add, List.nil_append] at hh; exact hh); have HB5 := Lib.hid (below_only HB4.out hg5 HB4.out.size (fun k hk => (World.ownsRow.lt HMD.out k hk).1)); clear ho5 hg5)
 clear x0 x1 x2
 obtain ⟨⟨x0, x1, x2⟩, -⟩ := (HX.out.next HB5.out).c3
 obtain ⟨g, cap, hv5, hg5, -, hcl, hfr⟩ := OwK.form encH_len HO5.out (fun e => by have := HK.out; rw [e] at this; cases this)
 subst hv5
 rw [← HN.out] at HO5
 rw [← HN.out]
 obtain ⟨hst, hgr⟩ := OH.stored HO5.out HN.out HK.out p
 have HST := Lib.hid hst
 have HBF := Lib.hid (below_only HB5.out hgr HB5.out.size (fun q e => by injection e with e; omega))
 have f1 := hfr (k * 4 + 1)
 have f2 := hfr (k * 4 + 1 + 1)
 have f3 := hfr (k * 4 + 1 + 2)
 have e1 := hcl k x 1 _ HK.out rfl
 have e2 : w5.cell? ⟨g, k * 4 + 1 + 1, none⟩ = some (.string x.p.typ) := hcl k x 2 _ HK.out rfl
 have e3 : w5.cell? ⟨g, k * 4 + 1 + 2, none⟩ = some (.string x.p.data) := hcl k x 3 _ HK.out rfl
 clear hst hgr hfr hg5 hcl
 go_wp2_with fail
 refine bodyPost_ret (v := .tuple #[.slice (some ⟨g, 0, none⟩) n cap, .int .i64 0]) (by simp [results, Tryz.results116, go_sem]) rfl ?_
 exact ⟨_, rfl, OwK.less HST.out HB.out.size, HBF.out.on HB.out HB.out.size⟩
set_option maxRecDepth 100000 in
set_option maxHeartbeats 4000000 in
theorem rset_full {w : World} {B : Nat} {v : Value} {L : List Hd} (h : OH w B v L) (hL : L.length ≤ 1048576) (i : Int) (p : Pr) (z1 : p.name.size ≤ 9223372036854775807) (z2 : p.typ.size ≤ 9223372036854775807) (h1 : nameB p.name = true) (h2 : nameB p.typ = true) (h3 : p.data.size ≤ 256) (hp : placeI L i p.name = -1) (hf : 32 ≤ (listR L i).length) :
  Calls Tryz.prog 116 #[v, .int .i64 i, prV p] w fun e w' => ∃ v', e = .returned (.tuple #[v', .int .i64 2]) ∧ OH w' B v' (L) ∧ Below w.heap.size w w' := by
 obtain ⟨i0, hi0, hz0, hz1, hz2⟩ := info_parts heldInfo
 have h4 : ¬ (256 : Int) < (p.data.size : Int) := by omega
 obtain ⟨pa, c, rfl⟩ := OwK.slice h
 obtain ⟨n, hn⟩ : ∃ n, n = L.length := ⟨_, rfl⟩
 rw [← hn] at h ⊢
 obtain ⟨wb, hwb⟩ : ∃ wb, wb = w.alloc (.cells #[.string p.name, .string p.typ, .string p.data] 35) := ⟨_, rfl⟩
 have hbel : Below w.heap.size w wb := by rw [hwb]; exact (Below.refl _ _).alloc (Nat.le_refl _) _
 have hbx : Blk wb w.heap.size 35 #[.string p.name, .string p.typ, .string p.data] := by rw [hwb]; exact Blk.new w _ _
 have HN1 := Lib.hid (fun W => (show Calls Tryz.prog 133 #[.string p.name] W fun e w' => e = .returned (.bool true) ∧ Below W.heap.size W w' from h1 ▸ rname_c p.name W z1))
 have HN2 := Lib.hid (fun W => (show Calls Tryz.prog 133 #[.string p.typ] W fun e w' => e = .returned (.bool true) ∧ Below W.heap.size W w' from h2 ▸ rname_c p.typ W z2))
 have HX := Lib.hid hbx
 have HB := Lib.hid hbel
 have HW := Lib.hid hwb
 have HO := Lib.hid (fun W (hW : Below wb.heap.size wb W) => (h.below hbel).below hW)
 have HN := Lib.hid hn
 have HLL := Lib.hid hL
 obtain ⟨⟨x0, x1, x2⟩, -⟩ := hbx.c3
 have HPL := Lib.hid (fun W (hW : Below wb.heap.size wb W) => (show Calls Tryz.prog 65 #[.slice pa n c, .int .i64 i, .string p.name] W fun e w' => e = .returned (.int .i64 (-1)) ∧ W = w' from hp ▸ place_c (OH.rd ((h.below hbel).below hW)) hL i p.name))
 have HLI := Lib.hid (fun W (hW : Below wb.heap.size wb W) => rlist_c (OH.rd ((h.below hbel).below hW)) hL i)
 obtain ⟨m, hm⟩ : ∃ m, m = (listR L i).length := ⟨_, rfl⟩
 rw [← hm] at hf
 have HM := Lib.hid hm
 have hm1 : (32 : Int) ≤ (m : Int) := by omega
 clear hp hf hm
 clear h hn h1 h2 h3 hbel hbx z1 z2 hL
 go_enter Tryz.func116, Tryz.ntmps116
 go_upto_region 1 with fail
 rw [← HW.out]
 clear hwb
 go_upto_region 5 with (first
  | (go_at_call 133; ((with_reducible refine (HN1.out _).mono ?_); rintro e w2 ⟨rfl, hb2⟩); have HB2 := Lib.hid hb2; clear hb2; clear x0 x1 x2; obtain ⟨⟨x0, x1, x2⟩, -⟩ := (HX.out.next HB2.out).c3)
  | (go_at_call 133; ((with_reducible refine (HN2.out _).mono ?_); rintro e w3 ⟨rfl, hb3⟩); have HB3 := Lib.hid (hb3.on HB2.out HB2.out.size); clear hb3; clear x0 x1 x2; obtain ⟨⟨x0, x1, x2⟩, -⟩ := (HX.out.next HB3.out).c3))
 go_upto_region 6 with (go_at_call 65; ((with_reducible refine (HPL.out _ HB3.out).mono ?_); rintro e w4 ⟨rfl, rfl⟩))
 have hmd : (w3.alloc (.cells #[] 120)).ownsRow wb.heap.size 120 4 (.slice (some ⟨w3.heap.size, 0, none⟩) 0 0) 0 [] := World.ownsRow_made w3 #[] 0 HB3.out.size (by decide) rfl
 have HMD := Lib.hid hmd
 have HOW := Lib.hid (HO.out _ (HB3.out.alloc HB3.out.size (.cells #[] 120)))
 have HB4 := Lib.hid (HB3.out.alloc HB3.out.size (.cells #[] 120))
 clear hmd
 go_upto_region 7 with (at_builtin; refine list_app rfl (.tmp 31) (.tmp 32) 55 rfl wb.heap.size 120 i0 (.agg #[.int .i64 0, .string ByteArray.empty, .string ByteArray.empty, .string ByteArray.empty]) 4 56 Tryz.underlying55 hi0 hz0 hz1 hz2 rfl (by decide) _ _ _ rfl HMD.out B _ _ _ rfl HOW.out (one_flatH _) (by unfold maxLen; have := HLL.out; omega) (by have := HLL.out; omega) HB4.out.size ?_; intro v5 w5 ho5 hg5; have HO5 := Lib.hid (show OH w5 wb.heap.size v5 L from by have hh := ho5; rw [Nat.zero_add, List.nil_append] at hh; exact hh); have HB5 := Lib.hid (below_only HB4.out hg5 HB4.out.size (fun k hk => (World.ownsRow.lt HMD.out k hk).1)); clear ho5 hg5)
 clear x0 x1 x2
 obtain ⟨⟨x0, x1, x2⟩, -⟩ := (HX.out.next HB5.out).c3
 go_wp2_with (go_at_call 134; ((with_reducible refine (HLI.out _ HB5.out).mono ?_); rintro e w6 ⟨v6, rfl, hl6, hb6⟩); obtain ⟨p6, c6, rfl⟩ := OwK.slice hl6; rw [← HM.out]; have HB6 := Lib.hid (hb6.on HB5.out HB5.out.size); clear hb6 hl6)
 refine bodyPost_ret (v := .tuple #[.slice pa n c, .int .i64 2]) (by simp [results, Tryz.results116, go_sem]) rfl ?_
 exact ⟨.slice pa n c, rfl, HO.out _ HB6.out, HB6.out.on HB.out HB.out.size⟩
set_option maxRecDepth 100000 in
set_option maxHeartbeats 4000000 in
theorem rset_new {w : World} {B : Nat} {v : Value} {L : List Hd} (h : OH w B v L) (hL : L.length ≤ 1048576) (i : Int) (p : Pr) (z1 : p.name.size ≤ 9223372036854775807) (z2 : p.typ.size ≤ 9223372036854775807) (h1 : nameB p.name = true) (h2 : nameB p.typ = true) (h3 : p.data.size ≤ 256) (hp : placeI L i p.name = -1) (hf : (listR L i).length < 32) :
  Calls Tryz.prog 116 #[v, .int .i64 i, prV p] w fun e w' => ∃ v', e = .returned (.tuple #[v', .int .i64 0]) ∧ OH w' w.heap.size v' (L ++ [⟨i, p⟩]) ∧ Below w.heap.size w w' := by
 obtain ⟨i0, hi0, hz0, hz1, hz2⟩ := info_parts heldInfo
 have h4 : ¬ (256 : Int) < (p.data.size : Int) := by omega
 obtain ⟨pa, c, rfl⟩ := OwK.slice h
 obtain ⟨n, hn⟩ : ∃ n, n = L.length := ⟨_, rfl⟩
 rw [← hn] at h ⊢
 obtain ⟨wb, hwb⟩ : ∃ wb, wb = w.alloc (.cells #[.string p.name, .string p.typ, .string p.data] 35) := ⟨_, rfl⟩
 have hbel : Below w.heap.size w wb := by rw [hwb]; exact (Below.refl _ _).alloc (Nat.le_refl _) _
 have hbx : Blk wb w.heap.size 35 #[.string p.name, .string p.typ, .string p.data] := by rw [hwb]; exact Blk.new w _ _
 have HN1 := Lib.hid (fun W => (show Calls Tryz.prog 133 #[.string p.name] W fun e w' => e = .returned (.bool true) ∧ Below W.heap.size W w' from h1 ▸ rname_c p.name W z1))
 have HN2 := Lib.hid (fun W => (show Calls Tryz.prog 133 #[.string p.typ] W fun e w' => e = .returned (.bool true) ∧ Below W.heap.size W w' from h2 ▸ rname_c p.typ W z2))
 have HX := Lib.hid hbx
 have HB := Lib.hid hbel
 have HW := Lib.hid hwb
 have HO := Lib.hid (fun W (hW : Below wb.heap.size wb W) => (h.below hbel).below hW)
 have HN := Lib.hid hn
 have HLL := Lib.hid hL
 obtain ⟨⟨x0, x1, x2⟩, -⟩ := hbx.c3
 have HPL := Lib.hid (fun W (hW : Below wb.heap.size wb W) => (show Calls Tryz.prog 65 #[.slice pa n c, .int .i64 i, .string p.name] W fun e w' => e = .returned (.int .i64 (-1)) ∧ W = w' from hp ▸ place_c (OH.rd ((h.below hbel).below hW)) hL i p.name))
 have HLI := Lib.hid (fun W (hW : Below wb.heap.size wb W) => rlist_c (OH.rd ((h.below hbel).below hW)) hL i)
 obtain ⟨m, hm⟩ : ∃ m, m = (listR L i).length := ⟨_, rfl⟩
 rw [← hm] at hf
 have HM := Lib.hid hm
 have hm1 : ¬ (32 : Int) ≤ (m : Int) := by omega
 clear hp hf hm
 clear h hn h1 h2 h3 hbel hbx z1 z2 hL
 go_enter Tryz.func116, Tryz.ntmps116
 go_upto_region 1 with fail
 rw [← HW.out]
 clear hwb
 go_upto_region 5 with (first
  | (go_at_call 133; ((with_reducible refine (HN1.out _).mono ?_); rintro e w2 ⟨rfl, hb2⟩); have HB2 := Lib.hid hb2; clear hb2; clear x0 x1 x2; obtain ⟨⟨x0, x1, x2⟩, -⟩ := (HX.out.next HB2.out).c3)
  | (go_at_call 133; ((with_reducible refine (HN2.out _).mono ?_); rintro e w3 ⟨rfl, hb3⟩); have HB3 := Lib.hid (hb3.on HB2.out HB2.out.size); clear hb3; clear x0 x1 x2; obtain ⟨⟨x0, x1, x2⟩, -⟩ := (HX.out.next HB3.out).c3))
 go_upto_region 6 with (go_at_call 65; ((with_reducible refine (HPL.out _ HB3.out).mono ?_); rintro e w4 ⟨rfl, rfl⟩))
 have hmd : (w3.alloc (.cells #[] 120)).ownsRow wb.heap.size 120 4 (.slice (some ⟨w3.heap.size, 0, none⟩) 0 0) 0 [] := World.ownsRow_made w3 #[] 0 HB3.out.size (by decide) rfl
 have HMD := Lib.hid hmd
 have HOW := Lib.hid (HO.out _ (HB3.out.alloc HB3.out.size (.cells #[] 120)))
 have HB4 := Lib.hid (HB3.out.alloc HB3.out.size (.cells #[] 120))
 clear hmd
 go_upto_region 7 with (at_builtin; refine list_app rfl (.tmp 31) (.tmp 32) 55 rfl wb.heap.size 120 i0 (.agg #[.int .i64 0, .string ByteArray.empty, .string ByteArray.empty, .string ByteArray.empty]) 4 56 Tryz.underlying55 hi0 hz0 hz1 hz2 rfl (by decide) _ _ _ rfl HMD.out B _ _ _ rfl HOW.out (one_flatH _) (by unfold maxLen; have := HLL.out; omega) (by have := HLL.out; omega) HB4.out.size ?_; intro v5 w5 ho5 hg5; have HO5 := Lib.hid (show OH w5 wb.heap.size v5 L from by have hh := ho5; rw [Nat.zero_add, List.nil_append] at hh; exact hh); have HB5 := Lib.hid (below_only HB4.out hg5 HB4.out.size (fun k hk => (World.ownsRow.lt HMD.out k hk).1)); clear ho5 hg5)
 clear x0 x1 x2
 obtain ⟨⟨x0, x1, x2⟩, -⟩ := (HX.out.next HB5.out).c3
 go_upto_region 12 with (go_at_call 134; ((with_reducible refine (HLI.out _ HB5.out).mono ?_); rintro e w6 ⟨v6, rfl, hl6, hb6⟩); obtain ⟨p6, c6, rfl⟩ := OwK.slice hl6; rw [← HM.out]; have HB6 := Lib.hid (hb6.on HB5.out HB5.out.size); have HB56 := Lib.hid hb6; clear hb6 hl6; have HO6 := Lib.hid (HO5.out.below HB56.out); clear x0 x1 x2; obtain ⟨⟨x0, x1, x2⟩, -⟩ := (HX.out.next HB6.out).c3)
 go_wp2_with (at_builtin; refine wpList_append_own_at _ rfl (.tmp 48) (.tmp 52) 55 rfl wb.heap.size 120 i0 (.agg #[.int .i64 0, .string ByteArray.empty, .string ByteArray.empty, .string ByteArray.empty]) 4 56 Tryz.underlying55 hi0 hz0 hz1 hz2 rfl (by decide) _ _ _ rfl (World.ownsRow.alloc HO6.out _) ⟨_, 0, none⟩ 1 1 (encH ⟨i, p⟩) rfl rfl (cell_list_at _ _ (encH ⟨i, p⟩) _ rfl) (oneCell_encH _) (by unfold maxLen; have := HLL.out; omega) (by have := HLL.out; omega) (by have := HB6.out.size; simp; omega) ?_; intro v7 w7 ho7 hg7 _ _; have HP := Lib.hid ((show GhS wb w6 v5 L from ⟨HO6.out, HB6.out⟩).put (u := ⟨i, p⟩) ho7 hg7); clear ho7 hg7)
 refine bodyPost_ret (v := .tuple #[v7, .int .i64 0]) (by simp [results, Tryz.results116, go_sem]) rfl ?_
 exact ⟨_, rfl, OwK.less HP.out.1 HB.out.size, HP.out.2.on HB.out HB.out.size⟩
end Go.Proofs.YtnhchpiafchdgaaGreat.Pp
end
section
namespace Go.Proofs.YtnhchpiafchdgaaGreat.Pp
open Go.RowKit Go.Shelf Go.Maps
theorem OwK.keep {α : Type} {enc : α → List Value} {T : TypeId} {k : Nat} {w w' : World} {B : Nat} {v : Value} {xs : List α} (h : OwK enc T k w B v xs) (hk : Keep w w') : OwK enc T k w' B v xs := by
 obtain ⟨h1, h2⟩ := h
 refine ⟨h1, ?_⟩
 rcases h2 with h2 | ⟨g, cap, cur, a, b, c, d⟩
 · exact .inl h2
 · exact .inr ⟨g, cap, cur, a, b, hk g T cur c, d⟩
section
variable {w : World} {B : Nat} {v : Value} {R : List Hd} {ms : Int → ByteArray → Option Pr} {ns : Int → Nat}
theorem rset_c (h : OH w B v R) (hB : B ≤ w.heap.size) (hI : Inv R ms ns) (hL : R.length ≤ 1048576) (i : Int) (p : Pr) (z1 : p.name.size ≤ 9223372036854775807) (z2 : p.typ.size ≤ 9223372036854775807) :
  Calls Tryz.prog 116 #[v, .int .i64 i, prV p] w fun e w' => ∃ v', e = .returned (.tuple #[v', .int .i64 (setE p (ms i) (ns i))]) ∧ OH w' B v' (setR R ms ns i p) ∧ Below w.heap.size w w' := by
 have hpl := hI.place i p.name
 have hcn : (listR R i).length = ns i := by rw [listR_len, hI.cnt i]
 unfold setR
 cases b1 : nameB p.name with
 | false =>
  have he : setE p (ms i) (ns i) = 70 := by unfold setE; rw [b1]; simp
  rw [he]
  exact rset_badname h hL i p z1 z2 b1
 | true =>
  cases b2 : nameB p.typ with
  | false =>
   have he : setE p (ms i) (ns i) = 70 := by unfold setE; rw [b1, b2]; simp
   rw [he]
   exact rset_badtype h hL i p z1 z2 b1 b2
  | true =>
   by_cases b3 : 256 < p.data.size
   · have he : setE p (ms i) (ns i) = 71 := by unfold setE; rw [if_pos ⟨b1, b2⟩, if_pos b3]
     rw [he]
     exact rset_long h hL i p z1 z2 b1 b2 b3
   · cases hs : ms i p.name with
     | some q =>
      have he : setE p (ms i) (ns i) = 0 := by unfold setE; rw [if_pos ⟨b1, b2⟩, if_neg b3, if_neg (by rw [hs]; simp)]
      have hf := hI.found hs
      have hpk : placeI R i p.name = (placeN R i p.name : Int) := by unfold placeI; rw [if_pos (List.getElem?_eq_some_iff.1 hf).1]
      rw [he, if_pos rfl, if_pos (by rfl)]
      exact (rset_has h hL i p z1 z2 b1 b2 (by omega) hpk hf).mono fun e w' ⟨v', h1, h2, h3⟩ => ⟨v', h1, h2.less hB, h3⟩
     | none =>
      have hpk : placeI R i p.name = -1 := by
        unfold placeI
        rw [hs] at hpl
        have h1 := of_decide_eq_false hpl
        unfold placeI at h1
        split
        · next hx => rw [if_pos hx] at h1; omega
        · rfl
      by_cases b4 : 32 ≤ ns i
      · have he : setE p (ms i) (ns i) = 2 := by unfold setE; rw [if_pos ⟨b1, b2⟩, if_neg b3, if_pos ⟨by rw [hs]; rfl, b4⟩]
        rw [he]
        exact rset_full h hL i p z1 z2 b1 b2 (by omega) hpk (by omega)
      · have he : setE p (ms i) (ns i) = 0 := by unfold setE; rw [if_pos ⟨b1, b2⟩, if_neg b3, if_neg (fun hx => b4 hx.2)]
        rw [he, if_pos rfl, if_neg (by simp)]
        exact (rset_new h hL i p z1 z2 b1 b2 (by omega) hpk (by omega)).mono fun e w' ⟨v', h1, h2, h3⟩ => ⟨v', h1, h2.less hB, h3⟩
theorem setR_len (R : List Hd) (ms : Int → ByteArray → Option Pr) (ns : Int → Nat) (i : Int) (p : Pr) : (setR R ms ns i p).length ≤ R.length + 1 := by
 unfold setR
 split
 · split
   · rw [List.length_set]; omega
   · rw [List.length_append]; simp
 · omega
end
theorem Tb.big {n0 k t : Nat} {w0 w : World} {ms : Int → ByteArray → Option Pr} {ns : Int → Nat} (H : Tb n0 w0 w t ms ns k) (i : Int) (s : ByteArray) (p : Pr) (h : ms i s = some p) : s.size ≤ maxLen := by
 obtain ⟨bm, nb, cnt, -, -, -, h3, -⟩ := H
 obtain ⟨a, b, -⟩ := h3 i s p h
 have := nameB_size b
 rw [a] at this
 unfold maxLen; omega
end Go.Proofs.YtnhchpiafchdgaaGreat.Pp
end
namespace Go.Proofs.YtnhchpiafchdgaaGreat.Pp
open Go.RowKit Go.Maps
structure Tl where
 t : Nat
 bm : Nat
 nb : Int → Option Nat
def Tl.foot (l : Tl) : Nat → Prop := fun b => b = l.t ∨ b = l.bm ∨ ∃ i, I64 i ∧ l.nb i = some b
def msH (H : List Hd) : Int → ByteArray → Option Pr := fun i s => getL H i s
def nsH (H : List Hd) : Int → Nat := fun i => (H.filter (fun h => decide (h.win = i))).length
def eH (H : List Hd) (i : Int) (p : Pr) : Int := setE p (msH H i) (nsH H i)
def sH (H : List Hd) (i : Int) (p : Pr) : List Hd := setR H (msH H) (nsH H) i p
theorem Inv.ms {H : List Hd} {ms : Int → ByteArray → Option Pr} {ns : Int → Nat} (h : Inv H ms ns) : ms = msH H := by
 funext i s; exact (h.get i s).symm
theorem Inv.ns {H : List Hd} {ms : Int → ByteArray → Option Pr} {ns : Int → Nat} (h : Inv H ms ns) : ns = nsH H := by
 funext i; exact (h.cnt i).symm
structure HOk (H : List Hd) : Prop where
 inv : Inv H (msH H) (nsH H)
 few : ∀ i, nsH H i ≤ 32
 small : ∀ i s p, msH H i s = some p → p.name = s ∧ nameB p.name = true ∧ nameB p.typ = true ∧ p.data.size ≤ 256
theorem HOk.begin : HOk [] := ⟨by have h := Inv.begin; rwa [h.ms, h.ns] at h, fun _ => Nat.zero_le _, fun i s p h => by cases h⟩
theorem HOk.drop {H : List Hd} (h : HOk H) (i : Int) : HOk (dropH i H) := by
 have h1 := h.inv.drop i
 have e1 := h1.ms
 have e2 := h1.ns
 refine ⟨by rw [← e1, ← e2]; exact h1, fun j => ?_, fun j s p hp => ?_⟩
 · rw [← e2]
   by_cases hji : j = i
   · rw [hji, upI_same]; decide
   · rw [upI_other _ _ hji]; exact h.few j
 · rw [← e1] at hp
   by_cases hji : j = i
   · rw [hji, upI_same] at hp; cases hp
   · rw [upI_other _ _ hji] at hp; exact h.small j s p hp
theorem HOk.set {H : List Hd} (h : HOk H) (i : Int) (p : Pr) : HOk (sH H i p) := by
 have h1 := h.inv.set i p
 have e1 := h1.ms
 have e2 := h1.ns
 refine ⟨by unfold sH; rw [← e1, ← e2]; exact h1, fun j => ?_, fun j s q hq => ?_⟩
 · unfold sH
   rw [← e2]
   unfold setN
   split
   · next he =>
     by_cases hji : j = i
     · rw [hji, upI_same]
       have hle := h.few i
       cases hx : (msH H i p.name).isSome with
       | true => simpa using hle
       | false =>
         unfold setE at he
         split at he
         · split at he
           · omega
           · split at he
             · omega
             · next hn =>
               have : nsH H i < 32 := by
                rcases Nat.lt_or_ge (nsH H i) 32 with hy | hy
                · exact hy
                · exact absurd ⟨hx, hy⟩ hn
               simp; omega
         · omega
     · rw [upI_other _ _ hji]; exact h.few j
   · exact h.few j
 · unfold sH at hq
   rw [← e1] at hq
   unfold setM at hq
   split at hq
   · next he =>
     by_cases hji : j = i
     · rw [hji, upI_same] at hq
       by_cases hss : s = p.name
       · rw [hss, upS_same] at hq
         injection hq with hq
         rw [← hq, hss]
         unfold setE at he
         split at he
         · next hb =>
           split at he
           · omega
           · exact ⟨rfl, hb.1, hb.2, by omega⟩
         · omega
       · rw [upS_other _ _ hss] at hq; exact h.small i s q hq
     · rw [upI_other _ _ hji] at hq; exact h.small j s q hq
   · exact h.small j s q hq
theorem HOk.get {H : List Hd} (h : HOk H) (i : Int) (s : ByteArray) : ((msH H i s).getD noP).name.size ≤ 32 ∧ ((msH H i s).getD noP).typ.size ≤ 32 ∧ ((msH H i s).getD noP).data.size ≤ 256 := by
 cases hm : msH H i s with
 | none => decide +kernel
 | some p =>
  obtain ⟨-, a, b, c⟩ := h.small i s p hm
  exact ⟨nameB_size a, nameB_size b, c⟩
def TT (w : World) (l : Tl) (H : List Hd) (k : Nat) : Prop :=
 ∃ cnt, TabH w l.t l.bm l.nb cnt (msH H) (nsH H) ∧ cnt ≤ k ∧ ∀ i, I64 i → l.nb i = none → nsH H i = 0
section
variable {w w' : World} {l : Tl} {H : List Hd} {k : Nat}
theorem TT.more (h : TT w l H k) {k' : Nat} (hk : k ≤ k') : TT w l H k' := by
 obtain ⟨c, h1, h2, h3⟩ := h
 exact ⟨c, h1, Nat.le_trans h2 hk, h3⟩
theorem TT.lt (h : TT w l H k) {b : Nat} (hb : l.foot b) : b < w.heap.size := by
 obtain ⟨c, h1, -⟩ := h
 rcases hb with rfl | rfl | ⟨i, hi, hn⟩
 · exact h1.tab.lt
 · exact h1.map.lt
 · exact (h1.inner i b hi hn).lt
theorem TT.kept (h : TT w l H k) (hk : ∀ b, l.foot b → w'.heap[b]? = w.heap[b]?) : TT w' l H k := by
 obtain ⟨c, h1, h2, h3⟩ := h
 exact ⟨c, h1.kept (fun g _ hg => hk g hg), h2, h3⟩
theorem TT.next (h : TT w l H k) (hb : Below w.heap.size w w') : TT w' l H k := h.kept fun b hf => hb.block b (h.lt hf)
theorem turn_grown {F F' : Nat → Prop} {b : Nat} (hg : w.grownBy w' (some b)) (hb : F b) (hF : ∀ i, F' i → F i ∨ w.heap.size ≤ i) : Turn F F' w w' :=
 ⟨hg.os, hg.tape, hg.output, hg.size, fun i hi hn => hg.block i hi (fun e => hn (by injection e with e; rw [e]; exact hb)), hF⟩
theorem tt_new (w : World) : Calls Tryz.prog 34 #[] w fun e w' => ∃ l, e = .returned (tabP l.t) ∧ TT w' l [] 0 ∧ Below w.heap.size w w' ∧ ∀ b, l.foot b → w.heap.size ≤ b :=
 (new_c w).mono fun e w' ⟨t, bm, he, ht, hb, h1, h2⟩ => ⟨⟨t, bm, fun _ => none⟩, he, ⟨0, by
  have h := Inv.begin
  rw [h.ms, h.ns] at ht
  exact ht, Nat.le_refl _, fun _ _ _ => rfl⟩, hb, fun b hf => by
  rcases hf with rfl | rfl | ⟨i, _, hn⟩
  · exact h1
  · exact h2
  · cases hn⟩
theorem tt_get (h : TT w l H k) (hH : HOk H) {i : Int} (hi : I64 i) {s : ByteArray} (hs : s.size ≤ maxLen) :
  Calls Tryz.prog 50 #[tabP l.t, .int .i64 i, .string s] w fun e w' => e = .returned (.tuple #[prV ((msH H i s).getD noP), .bool (msH H i s).isSome]) ∧ Below w.heap.size w w' := by
 have hsm := hH.get i s
 obtain ⟨c, h1, -⟩ := h
 exact get_c h1 hi hs ⟨by omega, by omega, by omega⟩
theorem tt_drop (h : TT w l H k) (hH : HOk H) {i : Int} (hi : I64 i) :
   Calls Tryz.prog 111 #[tabP l.t, .int .i64 i] w fun e w' => e = .returned (.tuple #[]) ∧ ∃ l' : Tl, l'.t = l.t ∧ TT w' l' (dropH i H) k ∧ Turn l.foot l'.foot w w' := by
 obtain ⟨c, h1, h2, h3⟩ := h
 have hI := hH.inv.drop i
 refine (drop_c h1 hi).mono fun e w' ⟨he, ⟨c', hc, ht⟩, hg⟩ => ⟨he, ⟨l.t, l.bm, upI l.nb i none⟩, rfl, ⟨c', ?_, Nat.le_trans hc h2, fun j hj hn => ?_⟩, turn_grown hg (.inr (.inl rfl)) (fun b hb => .inl ?_)⟩
 · rw [← hI.ms, ← hI.ns]; exact ht
 · rw [← hI.ns]
   by_cases hji : j = i
   · rw [hji, upI_same]
   · have hn' : upI l.nb i none j = none := hn
     rw [upI_other _ _ hji] at hn' ⊢; exact h3 j hj hn'
 · rcases hb with h4 | h4 | ⟨j, hj, hn⟩
   · exact .inl h4
   · exact .inr (.inl h4)
   · have hn' : upI l.nb i none j = some b := hn
     by_cases hji : j = i
     · rw [hji, upI_same] at hn'; cases hn'
     · rw [upI_other _ _ hji] at hn'; exact .inr (.inr ⟨j, hj, hn'⟩)
theorem tt_set (h : TT w l H k) (hH : HOk H) (hk : k < 1048576) {i : Int} (hi : I64 i) (p : Pr) (z1 : p.name.size ≤ maxLen) (z2 : p.typ.size ≤ maxLen) :
  Calls Tryz.prog 119 #[tabP l.t, .int .i64 i, prV p] w fun e w' => e = .returned (.int .i64 (eH H i p)) ∧ ∃ l' : Tl, l'.t = l.t ∧ TT w' l' (sH H i p) (k + 1) ∧ Turn l.foot l'.foot w w' := by
 have hT := h
 obtain ⟨cnt, h, h1, h4⟩ := h
 have hI := hH.inv.set i p
 have eM : msH (sH H i p) = setM (msH H) (nsH H) i p := hI.ms.symm
 have eN : nsH (sH H i p) = setN (msH H) (nsH H) i p := hI.ns.symm
 have no : ∀ r : Int, r ≠ 0 → eH H i p = r → Calls Tryz.prog 119 #[tabP l.t, .int .i64 i, prV p] w (fun e w' => e = .returned (.int .i64 r) ∧ Below w.heap.size w w') → Calls Tryz.prog 119 #[tabP l.t, .int .i64 i, prV p] w fun e w' => e = .returned (.int .i64 (eH H i p)) ∧ ∃ l' : Tl, l'.t = l.t ∧ TT w' l' (sH H i p) (k + 1) ∧ Turn l.foot l'.foot w w' := fun r hr he hc => by
  have e1 : sH H i p = H := by unfold sH setR; rw [if_neg]; show ¬ eH H i p = 0; rw [he]; exact hr
  rw [he, e1]
  exact hc.mono fun e w' ⟨he, hb⟩ => ⟨he, l, rfl, (hT.next hb).more (Nat.le_succ k), Turn.of_below hb⟩
 have z1' : p.name.size ≤ 9223372036854775807 := z1
 have z2' : p.typ.size ≤ 9223372036854775807 := z2
 cases b1 : nameB p.name with
 | false => exact no 70 (by decide) (by unfold eH setE; rw [b1]; simp) (set_badname h hi p z1' z2' b1)
 | true =>
  cases b2 : nameB p.typ with
  | false => exact no 70 (by decide) (by unfold eH setE; rw [b1, b2]; simp) (set_badtype h hi p z1' z2' b1 b2)
  | true =>
   by_cases b3 : 256 < p.data.size
   · exact no 71 (by decide) (by unfold eH setE; rw [if_pos ⟨b1, b2⟩, if_pos b3]) (set_long h hi p z1' z2' b1 b2 b3)
   · by_cases b4 : (msH H i p.name).isSome = false ∧ 32 ≤ nsH H i
     · have he : eH H i p = 2 := by unfold eH setE; rw [if_pos ⟨b1, b2⟩, if_neg b3, if_pos b4]
       cases hn : l.nb i with
       | none => have := h4 i hi hn; omega
       | some b => exact no 2 (by decide) he (set_full h hi p hn b1 b2 (by omega) b4.1 b4.2)
     · have he : eH H i p = 0 := by unfold eH setE; rw [if_pos ⟨b1, b2⟩, if_neg b3, if_neg b4]
       have he2 : setE p (msH H i) (nsH H i) = 0 := he
       have hle := hH.few i
       have hnn : (msH H i p.name).isSome = false → nsH H i < 32 := fun hx => by
        rcases Nat.lt_or_ge (nsH H i) 32 with hy | hy
        · exact hy
        · exact absurd ⟨hx, hy⟩ b4
       have eM' : msH (sH H i p) = upI (msH H) i (upS (msH H i) p.name (some p)) := by rw [eM]; unfold setM; rw [if_pos he2]
       have eN' : nsH (sH H i p) = upI (nsH H) i (if (msH H i p.name).isSome then nsH H i else nsH H i + 1) := by rw [eN]; unfold setN; rw [if_pos he2]
       unfold TT
       rw [he, eM', eN']
       cases hn : l.nb i with
       | none =>
        have e1 : (fun _ => none : ByteArray → Option Pr) = msH H i := by funext s; exact (h.bare i s hn).symm
        have e2 : (if (msH H i p.name).isSome then nsH H i else nsH H i + 1) = 1 := by rw [h.bare i _ hn, h4 i hi hn]; rfl
        refine (set_first h hi hn (by omega) p b1 b2 (by omega)).mono fun e w' ⟨he', b, ht, hb, hg⟩ => ?_
        rw [e1] at ht
        rw [e2]
        refine ⟨he', ⟨l.t, l.bm, upI l.nb i (some b)⟩, rfl, ⟨cnt + 1, ht, by omega, fun j hj hx => ?_⟩, turn_grown hg (.inr (.inl rfl)) (fun c hc => ?_)⟩
        · have hx' : upI l.nb i (some b) j = none := hx
          by_cases hji : j = i
          · rw [hji, upI_same] at hx'; cases hx'
          · rw [upI_other _ _ hji] at hx' ⊢; exact h4 j hj hx'
        · rcases hc with h5 | h5 | ⟨j, hj, hc⟩
          · exact .inl (.inl h5)
          · exact .inl (.inr (.inl h5))
          · have hc' : upI l.nb i (some b) j = some c := hc
            by_cases hji : j = i
            · rw [hji, upI_same] at hc'; injection hc' with hc'; rw [← hc']; exact .inr hb
            · rw [upI_other _ _ hji] at hc'; exact .inl (.inr (.inr ⟨j, hj, hc'⟩))
       | some b =>
        have fin : ∀ m : Nat, (if (msH H i p.name).isSome then nsH H i else nsH H i + 1) = m → Calls Tryz.prog 119 #[tabP l.t, .int .i64 i, prV p] w (fun e w' => e = .returned (.int .i64 0) ∧ TabH w' l.t l.bm l.nb cnt (upI (msH H) i (upS (msH H i) p.name (some p))) (upI (nsH H) i m) ∧ w.grownBy w' (some b)) → Calls Tryz.prog 119 #[tabP l.t, .int .i64 i, prV p] w fun e w' => e = .returned (.int .i64 0) ∧ ∃ l' : Tl, l'.t = l.t ∧ (∃ cnt', TabH w' l'.t l'.bm l'.nb cnt' (upI (msH H) i (upS (msH H i) p.name (some p))) (upI (nsH H) i (if (msH H i p.name).isSome then nsH H i else nsH H i + 1)) ∧ cnt' ≤ k + 1 ∧ ∀ j, I64 j → l'.nb j = none → upI (nsH H) i (if (msH H i p.name).isSome then nsH H i else nsH H i + 1) j = 0) ∧ Turn l.foot l'.foot w w' := fun m hm hc => by
          rw [hm]
          refine hc.mono fun e w' ⟨he', ht, hg⟩ => ⟨he', l, rfl, ⟨cnt, ht, by omega, fun j hj hx => ?_⟩, turn_grown hg (.inr (.inr ⟨i, hi, hn⟩)) (fun c hc => .inl hc)⟩
          by_cases hji : j = i
          · rw [hji, hn] at hx; cases hx
          · rw [upI_other _ _ hji]; exact h4 j hj hx
        cases hx : (msH H i p.name).isSome with
        | true => exact hx ▸ fin (nsH H i) (by rw [hx]; rfl) (set_has h hi p hn b1 b2 (by omega) hx (by omega))
        | false => exact hx ▸ fin (nsH H i + 1) (by rw [hx]; rfl) (set_more h hi p hn b1 b2 (by omega) hx (hnn hx) (by omega))
end
end Go.Proofs.YtnhchpiafchdgaaGreat.Pp
namespace Go.Proofs.YtnhchpiafchdgaaGreat
open Go.RowKit Go.Shelf Go.Maps
structure Md where
 win : Int
 own : Int
 sav : Bool
structure Ev where
 kind : Int
 win : Int
 x : Int
 y : Int
 a : Int
 e : Int
 name : ByteArray
structure Xs where
 R : RT
 L : List Win
 H : List Pp.Hd
 M : List Md
 F : Int
 G : Bool
 E : List Ev
structure Rq where
 kind : Int
 win : Int
 other : Int
 x : Int
 y : Int
 a : Int
 e : Int
 p : Pp.Pr
def noText : ByteArray := ⟨#[]⟩
abbrev Xs.start (x y a e : Int) : Xs := ⟨⟨x, y, a, e, 0⟩, [], [], [], 0, true, []⟩
def findM (i : Int) (M : List Md) : Option Md := M.find? (fun m => decide (m.win = i))
def ownM (i : Int) (M : List Md) : Int := match findM i M with
 | some m => m.own
 | none => -1
def savM (i : Int) (M : List Md) : Bool := match findM i M with
 | some m => m.sav
 | none => false
def setSav (i : Int) (on : Bool) (M : List Md) : List Md := M.map (fun m => if m.win = i then ⟨m.win, m.own, on⟩ else m)
def dropM (i : Int) (M : List Md) : List Md := M.filter (fun m => decide (m.win ≠ i))
def Xs.tell (X : Xs) (e : Ev) : Xs := if X.G = true ∧ X.E.length < 4096 then { X with E := X.E ++ [e] } else X
def Xs.look (X : Xs) : Xs := if X.F ≠ 0 ∧ viewL X.R X.L X.F = false then { X with F := 0 } else X
def Xs.forget (X : Xs) (i : Int) : Xs :=
 let Y := if ownM i X.M ≠ 0 then X.tell ⟨4, i, 0, 0, 0, 0, noText⟩ else X
 { Y with H := Pp.dropH i Y.H, M := dropM i Y.M }
def Xs.destroy (X : Xs) (i : Int) : Xs :=
 if askL X.L i ≠ 0 then X else (goneI X.R X.L i).foldl Xs.forget { X with L := dropAll (goneI X.R X.L i) X.L }
def Xs.save (X : Xs) (i : Int) (on : Bool) : Int × Xs := if ownM i X.M ≤ 0 then (1, X) else (0, { X with M := setSav i on X.M })
def Xs.asks (X : Xs) (actor : Int) (i : Int) : Bool := decide (actor ≠ 0) && (X.G && (decide ((winL X.R X.L i).par = 0) || decide (ownM (winL X.R X.L i).par X.M ≠ ownM i X.M)))
def Xs.own (X : Xs) (actor : Int) (q : Rq) : Int × Xs :=
 if q.kind = 2 then (0, X.destroy q.win)
 else if q.kind = 10 then
  (let X' : Xs := if Pp.eH X.H q.win q.p = 0 then { X with H := Pp.sH X.H q.win q.p } else X
   (Pp.eH X.H q.win q.p, if Pp.eH X.H q.win q.p = 0 ∧ actor ≠ 0 then X'.tell ⟨5, q.win, 0, 0, 0, 0, q.p.name⟩ else X'))
 else if q.kind = 4 then
  (let X' := if X.asks actor q.win = true then X.tell ⟨3, q.win, 0, 0, 0, 0, noText⟩ else X
   ((tMap false q.win X.L).2, { X' with L := (tMap false q.win X.L).1 }))
 else if X.asks actor q.win = true then
  (if q.kind = 3 then (0, X.tell ⟨1, q.win, 0, 0, 0, 0, noText⟩)
   else if q.kind = 5 then (if rightB q.x q.y q.a q.e = false then (10, X) else (0, X.tell ⟨2, q.win, q.x, q.y, q.a, q.e, noText⟩))
   else (80, X))
 else if q.kind = 3 then ((tMap true q.win X.L).2, { X with L := (tMap true q.win X.L).1 })
 else if q.kind = 5 then ((tConf q.win q.x q.y q.a q.e X.L).2, { X with L := (tConf q.win q.x q.y q.a q.e X.L).1 })
 else if q.kind = 6 then ((tRaise q.win X.L).2, { X with L := (tRaise q.win X.L).1 })
 else ((tLower q.win X.L).2, { X with L := (tLower q.win X.L).1 })
def Xs.change (X : Xs) (actor : Int) (q : Rq) : Int × Xs :=
 if thereL X.R X.L q.win = false then (6, X) else if q.win = 0 then (1, X) else if actor ≠ 0 ∧ ownM q.win X.M ≠ actor then (80, X) else X.own actor q
def Xs.manage (X : Xs) (actor : Int) (q : Rq) : Int × Xs :=
 if actor ≠ 0 then (80, X) else if thereL X.R X.L q.win = false then (6, X)
 else if q.kind = 8 then ((tRepar X.R q.win q.other q.x q.y X.L).2, { X with L := (tRepar X.R q.win q.other q.x q.y X.L).1 })
 else if q.kind = 11 then X.save q.win (decide (q.other ≠ 0))
 else if q.win ≠ 0 ∧ viewL X.R X.L q.win = false then (8, X) else (0, { X with F := q.win })
def Xs.wrong (X : Xs) (actor kind : Int) : Bool := decide (actor < 0) || (decide (actor = 0) && !X.G) || decide (kind < 1) || decide (11 < kind)
def Xs.create (X : Xs) (actor : Int) (q : Rq) : Int × Int × Xs :=
 if isL X.L q.other = true ∧ actor ≠ 0 ∧ q.other ≠ 0 ∧ ownM q.other X.M ≠ actor then (0, 80, X)
 else
  (let c := tCreate X.R q.other q.x q.y q.a q.e X.L
   (c.2.2.1, c.2.2.2, if c.2.2.2 = 0 then { X with R := c.1, L := c.2.1, M := X.M ++ [⟨c.2.2.1, actor, false⟩] } else X))
def isManage (kind : Int) : Bool := kind == 9 || (kind == 11 || kind == 8)
def Xs.other (X : Xs) (actor : Int) (q : Rq) : Int × Xs := if isManage q.kind = true then X.manage actor q else X.change actor q
def Xs.do (X : Xs) (actor : Int) (q : Rq) : Int × Int × Xs :=
 if X.wrong actor q.kind = true then (0, 1, X)
 else if q.kind = 1 then X.create actor q
 else (0, (X.other actor q).1, (X.other actor q).2.look)
def landR (R : RT) (L : List Win) (i : Int) : Rc := shiftR (-32768) (-32768) (winL R L i).w (winL R L i).h (IntKind.i64.wrap (absXL R L i + 32768)) (IntKind.i64.wrap (absYL R L i + 32768))
def Xs.back (X : Xs) (m : Md) : Xs := if m.sav = true then { X with L := (tRepar X.R m.win 0 (landR X.R X.L m.win).x (landR X.R X.L m.win).y X.L).1, M := setSav m.win false X.M } else X
def Xs.end (X : Xs) (m : Md) : Xs := if m.own = 0 ∧ thereL X.R X.L m.win = true then X.destroy m.win else X
def Xs.stop (X : Xs) : Int × Xs :=
 if X.G = false then (8, X)
 else (0, (X.M.foldl Xs.end (X.M.foldl Xs.back { X with G := false, E := [] })).look)
def Xs.taken (X : Xs) : List Ev × Xs := (X.E, { X with E := [] })
end Go.Proofs.YtnhchpiafchdgaaGreat
namespace Go.Proofs.YtnhchpiafchdgaaGreat
open Go.RowKit Go.Shelf Go.Maps
structure Elt (α : Type) where
 enc : α → Value
 lit : α → DataW Unit
 el : Value → Option (DataW Unit × List MemPlace)
 of_ : ∀ a, el (enc a) = some (lit a, [])
 inv : ∀ v a ps, el v = some (lit a, ps) → v = enc a
def elN (v : Value) : Option (DataW Unit × List MemPlace) :=
 match v with
 | .int .i64 n => some (.lit (.int .i64 n), [])
 | _ => none
def eltN : Elt Int := ⟨.int .i64, fun n => .lit (.int .i64 n), elN, fun _ => rfl, fun v a ps h => by
 unfold elN at h
 split at h
 · simp only [Option.some.injEq, Prod.mk.injEq, DataW.lit.injEq, Lit.int.injEq, true_and] at h
   rw [h.1]
 · cases h⟩
def elU (v : Value) : Option (DataW Unit × List MemPlace) :=
 match v with
 | .agg l => if l = #[] then some (.agg [], []) else none
 | _ => none
def eltU : Elt Unit := ⟨fun _ => .agg #[], fun _ => .agg [], elU, fun _ => rfl, fun v a ps h => by
 unfold elU at h
 split at h
 · split at h
   · next e => rw [e]
   · cases h
 · cases h⟩
def MapG {α : Type} (E : Elt α) (z : α) (w : World) (b : Nat) (f : Int → Option α) (n : Nat) : Prop :=
 ∃ D, w.ownsMap Tryz.prog 3 E.el b n D ∧ Maps.size D = n ∧ ∀ i, I64 i → D.atKey (keyI i) (E.lit z) = E.lit ((f i).getD z) ∧ Maps.has D (keyI i) = (f i).isSome
theorem tightG {el : Value → Option (DataW Unit × List MemPlace)} {w : World} {b n : Nat} {D : DataW Unit} (h : w.ownsMap Tryz.prog 3 el b n D) : w.ownsMap Tryz.prog 3 el b (Maps.size D) D := by
 obtain ⟨es, clock, hb, F, _, rfl⟩ := h
 refine ⟨es, clock, hb, F, ?_, rfl⟩
 simp [Maps.size, length_sorted]
section
variable {α : Type} {E : Elt α} {z : α} {w w' : World} {b n : Nat} {f : Int → Option α}
theorem MapG.made (w : World) : MapG E z (w.alloc (.map #[] 0)) w.heap.size (fun _ => none) 0 :=
 ⟨_, World.ownsMap_made _ _ _ _, rfl, fun _ _ => ⟨rfl, rfl⟩⟩
theorem MapG.lt (h : MapG E z w b f n) : b < w.heap.size := by obtain ⟨D, h, _⟩ := h; exact h.lt
theorem MapG.same (h : MapG E z w b f n) (hb : w'.heap[b]? = w.heap[b]?) : MapG E z w' b f n := by
 obtain ⟨D, ⟨es, clock, h1, r1⟩, r⟩ := h
 exact ⟨D, ⟨es, clock, hb.trans h1, r1⟩, r⟩
theorem MapG.next (h : MapG E z w b f n) (hb : Below w.heap.size w w') : MapG E z w' b f n := h.same (hb.block _ h.lt)
theorem MapG.look (h : MapG E z w b f n) {T te : TypeId} (hT : Tryz.prog.underlying T = some (.map 3 te)) (hz : (zeroValue te).run Tryz.prog w = .ok (E.enc z) w) {i : Int} (hi : I64 i) :
  (Instr.lookup T (.map (some b)) (.int .i64 i) false).run Tryz.prog w = .ok (E.enc ((f i).getD z)) w := by
 obtain ⟨D, h, _, r⟩ := h
 obtain ⟨v, ps, h1, h2⟩ := h.lookup keyed hT hz (E.of_ z) (key_of hi)
 rw [(r i hi).1] at h2
 rw [h1, E.inv _ _ _ h2]
theorem MapG.look2 (h : MapG E z w b f n) {T te : TypeId} (hT : Tryz.prog.underlying T = some (.map 3 te)) (hz : (zeroValue te).run Tryz.prog w = .ok (E.enc z) w) {i : Int} (hi : I64 i) :
  (Instr.lookup T (.map (some b)) (.int .i64 i) true).run Tryz.prog w = .ok (.tuple #[E.enc ((f i).getD z), .bool (f i).isSome]) w := by
 obtain ⟨D, h, _, r⟩ := h
 obtain ⟨v, ps, h1, h2⟩ := h.look_ok keyed hT hz (E.of_ z) (key_of hi)
 rw [(r i hi).1] at h2
 rw [h1, E.inv _ _ _ h2, (r i hi).2]
theorem MapG.put (h : MapG E z w b f n) {T te : TypeId} (hT : Tryz.prog.underlying T = some (.map 3 te)) {i : Int} (hi : I64 i) (hn : n < 4611686018427387904) (a : α) :
   ∃ w', (Instr.mapUpdate T (.map (some b)) (.int .i64 i) (E.enc a)).run Tryz.prog w = .ok () w' ∧ MapG E z w' b (upd f i (some a)) (if (f i).isSome then n else n + 1) ∧ w.grownBy w' (some b) := by
 obtain ⟨D, h, hs, r⟩ := h
 obtain ⟨w', h1, h2, h3⟩ := h.update keyed hT (by unfold maxLen; omega) (key_of hi) (E.of_ a)
 have hsz : Maps.size (D.put (keyI i) (E.lit a)) = if (f i).isSome then n else n + 1 := by
   rw [Maps.size_put (h.tidy keyed), (r i hi).2, hs]
 refine ⟨w', h1, ⟨_, ?_, hsz, fun j hj => ?_⟩, h3⟩
 · have := tightG h2; rwa [hsz] at this
 · by_cases hij : j = i
   · subst hij
     rw [upd_same]
     exact ⟨Maps.atKey_put_same h.isMap (show WideAt.IsKeyLit (keyI j) from trivial) _ _, Maps.has_put_same h.isMap (show WideAt.IsKeyLit (keyI j) from trivial) _⟩
   · rw [upd_other _ _ hij]
     exact ⟨(Maps.atKey_put_other (keyI_ne hij) _ _).trans (r j hj).1, (Maps.has_put_other (keyI_ne hij) _).trans (r j hj).2⟩
theorem MapG.del (h : MapG E z w b f n) {T te : TypeId} (hT : Tryz.prog.underlying T = some (.map 3 te)) {i : Int} (hi : I64 i) (ty : TypeId) :
   ∃ w', (Builtin.delete_ #[T, 3] ty #[.map (some b), .int .i64 i]).run Tryz.prog w = .ok (.tuple #[]) w' ∧ (∃ n', n' ≤ n ∧ MapG E z w' b (upd f i none) n') ∧ w.grownBy w' (some b) := by
 obtain ⟨D, h, hs, r⟩ := h
 obtain ⟨w', h1, h2, h3⟩ := h.drop keyed hT (key_of hi) ty
 have h4 := Maps.size_del (k := keyI i) (h.tidy keyed)
 refine ⟨w', h1, ⟨Maps.size (D.del (keyI i)), by omega, _, tightG h2, rfl, fun j hj => ?_⟩, h3.grown⟩
 by_cases hij : j = i
 · subst hij
   rw [upd_same]
   exact ⟨Maps.atKey_del_same _, Maps.has_del_same⟩
 · rw [upd_other _ _ hij]
   exact ⟨(Maps.atKey_del_other (keyI_ne hij) _).trans (r j hj).1, (Maps.has_del_other (keyI_ne hij)).trans (r j hj).2⟩
theorem MapG.clear (h : MapG E z w b f n) {T te : TypeId} (hT : Tryz.prog.underlying T = some (.map 3 te)) (ty : TypeId) :
   ∃ w', (Builtin.clear_ #[T] ty #[.map (some b)]).run Tryz.prog w = .ok (.tuple #[]) w' ∧ MapG E z w' b (fun _ => none) 0 ∧ w.grownBy w' (some b) := by
 obtain ⟨D, ⟨es, clock, hb, F, _, _⟩, _⟩ := h
 refine ⟨{ w with heap := w.heap.setIfInBounds b (.map #[] clock) }, ?_, ⟨.map [], ⟨#[], clock, ?_, ⟨by simp, MapKept.stamped_empty clock, by simp⟩, Nat.le_refl _, rfl⟩, rfl, fun _ _ => ⟨rfl, rfl⟩⟩, ⟨rfl, rfl, rfl, by simp, fun i _ hi => ?_⟩⟩
 · simp [Builtin.clear_, Go.run_underlying hT, MapKept.run_getObj_map hb, MapKept.run_setObj_map _ hb, Result.andThen]
 · have hlt : b < w.heap.size := by
    rcases Nat.lt_or_ge b w.heap.size with h | h
    · exact h
    · rw [Array.getElem?_eq_none h] at hb; cases hb
   simp [hlt]
 · have hne : b ≠ i := fun e => hi (by rw [e])
   simp [hne]
end
def InC (w : World) (col : Nat → Nat) (c : Nat) (F : Nat → Prop) : Prop := ∀ b, F b → b < w.heap.size ∧ col b = c
def paintC (w : World) (col : Nat → Nat) (c : Nat) : Nat → Nat := fun b => if b < w.heap.size then col b else c
section
variable {w w' : World} {col : Nat → Nat} {c d : Nat} {F F' G : Nat → Prop}
theorem InC.turn (h : InC w col c F) (hT : Turn F F' w w') (hF : ∀ b, F' b → b < w'.heap.size) : InC w' (paintC w col c) c F' := fun b hb => by
 refine ⟨hF b hb, ?_⟩
 unfold paintC
 split
 · next hl =>
   rcases hT.foot b hb with h1 | h1
   · exact (h b h1).2
   · omega
 · rfl
theorem InC.stay (h : InC w col d G) (hs : w.heap.size ≤ w'.heap.size) : InC w' (paintC w col c) d G := fun b hb => by
 obtain ⟨h1, h2⟩ := h b hb
 refine ⟨Nat.lt_of_lt_of_le h1 hs, ?_⟩
 unfold paintC
 rw [if_pos h1]; exact h2
theorem InC.block (h : InC w col d G) (k : InC w col c F) (hcd : d ≠ c) (hT : Turn F F' w w') {b : Nat} (hb : G b) : w'.heap[b]? = w.heap[b]? :=
 hT.block b (h b hb).1 fun hf => hcd ((h b hb).2.symm.trans (k b hf).2)
end
end Go.Proofs.YtnhchpiafchdgaaGreat
