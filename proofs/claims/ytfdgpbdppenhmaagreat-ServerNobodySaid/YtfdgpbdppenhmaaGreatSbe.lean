/- The document's Name, walked. The document's Set, walked. PropPlays: the pieces. -/
import Derived.Test.YtfdgpbdppenhmaaGreatSbc
import Derived.Test.YtfdgpbdppenhmaaGreatSbd
section
namespace Go.Proofs.YtfdgpbdppenhmaaGreat.Pp
open Go.RowKit Go.Maps
def sgnL : Array UInt8 := #[97, 98, 99, 100, 101, 102, 103, 104, 105, 106, 107, 108, 109, 110, 111, 112, 113, 114, 115, 116, 117, 118, 119, 120, 121, 122, 65, 66, 67, 68, 69, 70, 71, 72, 73, 74, 75, 76, 77, 78, 79, 80, 81, 82, 83, 84, 85, 86, 87, 88, 89, 90, 48, 49, 50, 51, 52, 53, 54, 55, 56, 57, 95]
abbrev sgnB : ByteArray := ⟨#[97, 98, 99, 100, 101, 102, 103, 104, 105, 106, 107, 108, 109, 110, 111, 112, 113, 114, 115, 116, 117, 118, 119, 120, 121, 122, 65, 66, 67, 68, 69, 70, 71, 72, 73, 74, 75, 76, 77, 78, 79, 80, 81, 82, 83, 84, 85, 86, 87, 88, 89, 90, 48, 49, 50, 51, 52, 53, 54, 55, 56, 57, 95]⟩
def sgn (j : Nat) : Int := ((sgnL[j]?.getD 0).toNat : Int)
def anyB (x : Int) (m : Nat) : Bool := (List.range m).any fun j => sgn j == x
theorem any_all (x : Nat) (hx : x < 256) : anyB (x : Int) 63 = inN (x : Int) := by
  have h : ∀ y : Fin 256, anyB (y.val : Int) 63 = inN (y.val : Int) := by decide +kernel
  exact h ⟨x, hx⟩
theorem any_succ (x : Int) (m : Nat) : anyB x (m + 1) = (anyB x m || (sgn m == x)) := by
  unfold anyB
  rw [List.range_succ, List.any_append]
  simp
theorem sgn_at {j : Nat} (hj : j < sgnB.size) : sgn j = ((sgnB[j]'hj).toNat : Int) := by
  have h : j < sgnL.size := hj
  unfold sgn
  rw [Array.getElem?_eq_getElem h]
  rfl
set_option maxRecDepth 100000 in
set_option maxHeartbeats 4000000 in
theorem rname_c (s : ByteArray) (w : World) (hs : s.size ≤ 9223372036854775807) : Calls Tryz.prog 133 #[.string s] w fun e w' => e = .returned (.bool (nameB s)) ∧ Below w.heap.size w w' := by
  obtain ⟨n, hn⟩ : ∃ n, n = s.size := ⟨_, rfl⟩
  have HN := Lib.hid hn
  have HS := Lib.hid hs
  clear hn hs
  go_enter Tryz.func133, Tryz.ntmps133
  go_wp2_with fail
  go_loopw [3] (fun z wr => ∃ k q : Nat, k ≤ s.size ∧ z = .int .i64 k ∧ wr = w.drewN q ∧ Asd (∀ j, j < k → inN (byt s j) = true)) (fun z _ => s.size - (intOf z).toNat)
  case atStart => exact ⟨0, 0, Nat.zero_le _, rfl, rfl, fun j hj => absurd hj (Nat.not_lt_zero _)⟩
  case round =>
    obtain ⟨k, q, hk, rfl, rfl, hA⟩ := hrel
    have HA := Lib.hid (show ∀ j, j < k → inN (byt s j) = true from hA)
    have hk0 : (0 : Int) ≤ (k : Int) := by omega
    clear hA
    by_cases hlt : k < s.size
    · have hk1 : (k : Int) < (s.size : Int) := by omega
      obtain ⟨x, hx⟩ : ∃ x, x = (s[k]'hlt).toNat := ⟨_, rfl⟩
      have HX := Lib.hid hx
      have HLT := Lib.hid hlt
      clear hx
      go_wp2_with fail
      go_loopw [4, 5] (fun f z wr => ∃ m r : Nat, m ≤ 63 ∧ z = .int .i64 m ∧ f = .bool (anyB (x : Int) m) ∧ wr = w.drewN r) (fun _ z _ => 63 - (intOf z).toNat)
      case atStart => exact ⟨0, q, by omega, rfl, rfl, rfl⟩
      case round =>
        obtain ⟨m, r, hm, rfl, rfl, rfl⟩ := hrel
        have hm0 : (0 : Int) ≤ (m : Int) := by omega
        by_cases hm3 : m < 63
        · have hm1 : (m : Int) < 63 := by omega
          cases hf : anyB (x : Int) m with
          | true =>
            go_wp2_with fail
            go_quiet (fail)
            go_wp2_with fail
            go_roundw
            case rel => exact ⟨m + 1, _, by omega, by go_num, by rw [any_succ, hf]; rfl, rfl⟩
            case measure => simp [intOf]; omega
          | false =>
            have hsz : m < sgnB.size := hm3
            go_wp2_with fail
            go_quiet (fail)
            go_wp2_with fail
            go_roundw
            case rel => exact ⟨m + 1, _, by omega, by go_num, by rw [any_succ, hf, sgn_at hsz, HX.out]; rfl, rfl⟩
            case measure => simp [intOf]; omega
        · obtain rfl : m = 63 := by omega
          have HIN := Lib.hid (show inN (byt s k) = anyB (x : Int) 63 by
            rw [any_all x (by rw [HX.out]; exact UInt8.toNat_lt _), HX.out, byt_at HLT.out])
          cases hf : anyB (x : Int) 63 with
          | true =>
            have HF := Lib.hid hf
            have hs9 : (k : Int) + 1 ≤ 9223372036854775807 := by have := HS.out; have := HLT.out; omega
            have hwr : wrap64 ((k : Int) + 1) = (k : Int) + 1 := by unfold wrap64; omega
            go_wp2_with fail
            go_roundw
            case rel => exact ⟨k + 1, _, by omega, by go_num, rfl, fun j hj => by
              rcases Nat.lt_or_ge j k with h | h
              · exact HA.out j h
              · obtain rfl : j = k := by omega
                rw [HIN.out, HF.out]⟩
            case measure => simp [intOf]; omega
          | false =>
            have HR := Lib.hid (show nameB s = false from decide_eq_false (fun h => by
              have := h.2 k HLT.out
              rw [HIN.out, hf] at this
              cases this))
            go_wp2_with fail
            go_ret
            exact ⟨ret_bool HR.out.symm, below_drewN (Below.refl _ _) _⟩
    · obtain rfl : k = s.size := by omega
      by_cases h1 : 1 ≤ s.size
      · by_cases h2 : s.size ≤ 32
        · have g1 : (1 : Int) ≤ (s.size : Int) := by omega
          have g2 : (s.size : Int) ≤ 32 := by omega
          have HR := Lib.hid (show nameB s = true from decide_eq_true ⟨⟨h1, h2⟩, HA.out⟩)
          go_wp2_with fail
          go_ret
          exact ⟨ret_bool HR.out.symm, below_drewN (Below.refl _ _) _⟩
        · have g1 : (1 : Int) ≤ (s.size : Int) := by omega
          have g2 : ¬ (s.size : Int) ≤ 32 := by omega
          have HR := Lib.hid (show nameB s = false from decide_eq_false (fun h => h2 h.1.2))
          go_wp2_with fail
          go_ret
          exact ⟨ret_bool HR.out.symm, below_drewN (Below.refl _ _) _⟩
      · have g1 : ¬ (1 : Int) ≤ (s.size : Int) := by omega
        have HR := Lib.hid (show nameB s = false from decide_eq_false (fun h => h1 h.1.1))
        go_wp2_with fail
        go_ret
        exact ⟨ret_bool HR.out.symm, below_drewN (Below.refl _ _) _⟩
end Go.Proofs.YtfdgpbdppenhmaaGreat.Pp
end
section
namespace Go.Proofs.YtfdgpbdppenhmaaGreat.Pp
open Go.RowKit Go.Shelf Go.Maps
theorem one_flatH (l : List Hd) : ∀ q ∈ l.flatMap encH, q.oneCell' = true := fun q hq => by
  obtain ⟨v, -, hv⟩ := List.mem_flatMap.1 hq
  exact oneCell_encH v q hv
theorem flat_set (p : Pr) : ∀ (R : List Hd) (k : Nat) (h : Hd), R[k]? = some h → (((R.flatMap encH).set (k * 4 + 1) (.string p.name)).set (k * 4 + 2) (.string p.typ)).set (k * 4 + 3) (.string p.data) = (R.set k ⟨h.win, p⟩).flatMap encH
  | [], k, h, hx => by simp at hx
  | x :: t, 0, h, hx => by
    simp only [List.getElem?_cons_zero, Option.some.injEq] at hx
    subst hx
    rfl
  | x :: t, k + 1, h, hx => by
    have ih := flat_set p t k h (by simpa using hx)
    rw [List.flatMap_cons, List.set_append_right _ _ (by rw [encH_len]; omega), List.set_append_right _ _ (by rw [encH_len]; omega), List.set_append_right _ _ (by rw [encH_len]; omega), encH_len,
      show (k + 1) * 4 + 1 - 4 = k * 4 + 1 by omega, show (k + 1) * 4 + 2 - 4 = k * 4 + 2 by omega, show (k + 1) * 4 + 3 - 4 = k * 4 + 3 by omega, ih, List.set_cons_succ, List.flatMap_cons]
theorem OH.stored {w : World} {B g n cap k : Nat} {R : List Hd} {h : Hd} (hO : OH w B (.slice (some ⟨g, 0, none⟩) n cap) R) (hn : n = R.length) (hk : R[k]? = some h) (p : Pr) :
    OH (((w.setCell ⟨g, k * 4 + 1, none⟩ (.string p.name)).setCell ⟨g, k * 4 + 1 + 1, none⟩ (.string p.typ)).setCell ⟨g, k * 4 + 1 + 2, none⟩ (.string p.data)) B (.slice (some ⟨g, 0, none⟩) n cap) (R.set k ⟨h.win, p⟩) ∧
    w.grownBy (((w.setCell ⟨g, k * 4 + 1, none⟩ (.string p.name)).setCell ⟨g, k * 4 + 1 + 1, none⟩ (.string p.typ)).setCell ⟨g, k * 4 + 1 + 2, none⟩ (.string p.data)) (some g) := by
  subst hn
  obtain ⟨h1, g1⟩ := World.ownsRow.stored hO (k * 4 + 1) (.string p.name)
  obtain ⟨h2, g2⟩ := World.ownsRow.stored h1 (k * 4 + 2) (.string p.typ)
  obtain ⟨h3, g3⟩ := World.ownsRow.stored h2 (k * 4 + 3) (.string p.data)
  refine ⟨?_, only_trans (only_trans g1 g2) g3⟩
  show World.ownsRow _ B 120 4 _ (R.set k ⟨h.win, p⟩).length _
  rw [List.length_set, ← flat_set p R k h hk]
  exact h3
set_option maxRecDepth 100000 in
set_option maxHeartbeats 4000000 in
theorem rset_badname {w : World} {B : Nat} {v : Value} {L : List Hd} (h : OH w B v L) (hL : L.length ≤ 1048576) (i : Int) (p : Pr) (z1 : p.name.size ≤ 9223372036854775807) (z2 : p.typ.size ≤ 9223372036854775807) (h1 : nameB p.name = false) :
    Calls Tryz.prog 116 #[v, .int .i64 i, prV p] w fun e w' => ∃ v', e = .returned (.tuple #[v', .int .i64 70]) ∧ OH w' B v' (L) ∧ Below w.heap.size w w' := by
  obtain ⟨bt, h2⟩ : ∃ bt, nameB p.typ = bt := ⟨_, rfl⟩
  obtain ⟨pa, c, rfl⟩ := OwK.slice h
  obtain ⟨n, hn⟩ : ∃ n, n = L.length := ⟨_, rfl⟩
  rw [← hn] at h ⊢
  obtain ⟨wb, hwb⟩ : ∃ wb, wb = w.alloc (.cells #[.string p.name, .string p.typ, .string p.data] 35) := ⟨_, rfl⟩
  have hbel : Below w.heap.size w wb := by rw [hwb]; exact (Below.refl _ _).alloc (Nat.le_refl _) _
  have hbx : Blk wb w.heap.size 35 #[.string p.name, .string p.typ, .string p.data] := by rw [hwb]; exact Blk.new w _ _
  have HN1 := Lib.hid (fun W => (show Calls Tryz.prog 133 #[.string p.name] W fun e w' => e = .returned (.bool false) ∧ Below W.heap.size W w' from h1 ▸ rname_c p.name W z1))
  have HN2 := Lib.hid (fun W => (show Calls Tryz.prog 133 #[.string p.typ] W fun e w' => e = .returned (.bool bt) ∧ Below W.heap.size W w' from h2 ▸ rname_c p.typ W z2))
  have HX := Lib.hid hbx
  have HB := Lib.hid hbel
  have HW := Lib.hid hwb
  have HO := Lib.hid (fun W (hW : Below wb.heap.size wb W) => (h.below hbel).below hW)
  have HN := Lib.hid hn
  have HLL := Lib.hid hL
  obtain ⟨⟨x0, x1, x2⟩, -⟩ := hbx.c3
  clear h hn h1 h2 hbel hbx z1 z2 hL
  go_enter Tryz.func116, Tryz.ntmps116
  go_upto_region 1 with fail
  rw [← HW.out]
  clear hwb
  go_wp2_with (go_at_call 133; ((with_reducible refine (HN1.out _).mono ?_); rintro e w2 ⟨rfl, hb2⟩); have HB2 := Lib.hid hb2; clear hb2; clear x0 x1 x2; obtain ⟨⟨x0, x1, x2⟩, -⟩ := (HX.out.next HB2.out).c3)
  refine bodyPost_ret (v := .tuple #[.slice pa n c, .int .i64 70]) (by simp [results, Tryz.results116, go_sem]) rfl ?_
  exact ⟨.slice pa n c, rfl, HO.out _ HB2.out, HB2.out.on HB.out HB.out.size⟩
set_option maxRecDepth 100000 in
set_option maxHeartbeats 4000000 in
theorem rset_badtype {w : World} {B : Nat} {v : Value} {L : List Hd} (h : OH w B v L) (hL : L.length ≤ 1048576) (i : Int) (p : Pr) (z1 : p.name.size ≤ 9223372036854775807) (z2 : p.typ.size ≤ 9223372036854775807) (h1 : nameB p.name = true) (h2 : nameB p.typ = false) :
    Calls Tryz.prog 116 #[v, .int .i64 i, prV p] w fun e w' => ∃ v', e = .returned (.tuple #[v', .int .i64 70]) ∧ OH w' B v' (L) ∧ Below w.heap.size w w' := by
  obtain ⟨pa, c, rfl⟩ := OwK.slice h
  obtain ⟨n, hn⟩ : ∃ n, n = L.length := ⟨_, rfl⟩
  rw [← hn] at h ⊢
  obtain ⟨wb, hwb⟩ : ∃ wb, wb = w.alloc (.cells #[.string p.name, .string p.typ, .string p.data] 35) := ⟨_, rfl⟩
  have hbel : Below w.heap.size w wb := by rw [hwb]; exact (Below.refl _ _).alloc (Nat.le_refl _) _
  have hbx : Blk wb w.heap.size 35 #[.string p.name, .string p.typ, .string p.data] := by rw [hwb]; exact Blk.new w _ _
  have HN1 := Lib.hid (fun W => (show Calls Tryz.prog 133 #[.string p.name] W fun e w' => e = .returned (.bool true) ∧ Below W.heap.size W w' from h1 ▸ rname_c p.name W z1))
  have HN2 := Lib.hid (fun W => (show Calls Tryz.prog 133 #[.string p.typ] W fun e w' => e = .returned (.bool false) ∧ Below W.heap.size W w' from h2 ▸ rname_c p.typ W z2))
  have HX := Lib.hid hbx
  have HB := Lib.hid hbel
  have HW := Lib.hid hwb
  have HO := Lib.hid (fun W (hW : Below wb.heap.size wb W) => (h.below hbel).below hW)
  have HN := Lib.hid hn
  have HLL := Lib.hid hL
  obtain ⟨⟨x0, x1, x2⟩, -⟩ := hbx.c3
  clear h hn h1 h2 hbel hbx z1 z2 hL
  go_enter Tryz.func116, Tryz.ntmps116
  go_upto_region 1 with fail
  rw [← HW.out]
  clear hwb
  go_wp2_with (first
    | (go_at_call 133; ((with_reducible refine (HN1.out _).mono ?_); rintro e w2 ⟨rfl, hb2⟩); have HB2 := Lib.hid hb2; clear hb2; clear x0 x1 x2; obtain ⟨⟨x0, x1, x2⟩, -⟩ := (HX.out.next HB2.out).c3)
    | (go_at_call 133; ((with_reducible refine (HN2.out _).mono ?_); rintro e w3 ⟨rfl, hb3⟩); have HB3 := Lib.hid (hb3.on HB2.out HB2.out.size); clear hb3; clear x0 x1 x2; obtain ⟨⟨x0, x1, x2⟩, -⟩ := (HX.out.next HB3.out).c3))
  refine bodyPost_ret (v := .tuple #[.slice pa n c, .int .i64 70]) (by simp [results, Tryz.results116, go_sem]) rfl ?_
  exact ⟨.slice pa n c, rfl, HO.out _ HB3.out, HB3.out.on HB.out HB.out.size⟩
set_option maxRecDepth 100000 in
set_option maxHeartbeats 4000000 in
theorem rset_long {w : World} {B : Nat} {v : Value} {L : List Hd} (h : OH w B v L) (hL : L.length ≤ 1048576) (i : Int) (p : Pr) (z1 : p.name.size ≤ 9223372036854775807) (z2 : p.typ.size ≤ 9223372036854775807) (h1 : nameB p.name = true) (h2 : nameB p.typ = true) (h3 : 256 < p.data.size) :
    Calls Tryz.prog 116 #[v, .int .i64 i, prV p] w fun e w' => ∃ v', e = .returned (.tuple #[v', .int .i64 71]) ∧ OH w' B v' (L) ∧ Below w.heap.size w w' := by
  have h4 : (256 : Int) < (p.data.size : Int) := by omega
  obtain ⟨pa, c, rfl⟩ := OwK.slice h
  obtain ⟨n, hn⟩ : ∃ n, n = L.length := ⟨_, rfl⟩
  rw [← hn] at h ⊢
  obtain ⟨wb, hwb⟩ : ∃ wb, wb = w.alloc (.cells #[.string p.name, .string p.typ, .string p.data] 35) := ⟨_, rfl⟩
  have hbel : Below w.heap.size w wb := by rw [hwb]; exact (Below.refl _ _).alloc (Nat.le_refl _) _
  have hbx : Blk wb w.heap.size 35 #[.string p.name, .string p.typ, .string p.data] := by rw [hwb]; exact Blk.new w _ _
  have HN1 := Lib.hid (fun W => (show Calls Tryz.prog 133 #[.string p.name] W fun e w' => e = .returned (.bool true) ∧ Below W.heap.size W w' from h1 ▸ rname_c p.name W z1))
  have HN2 := Lib.hid (fun W => (show Calls Tryz.prog 133 #[.string p.typ] W fun e w' => e = .returned (.bool true) ∧ Below W.heap.size W w' from h2 ▸ rname_c p.typ W z2))
  have HX := Lib.hid hbx
  have HB := Lib.hid hbel
  have HW := Lib.hid hwb
  have HO := Lib.hid (fun W (hW : Below wb.heap.size wb W) => (h.below hbel).below hW)
  have HN := Lib.hid hn
  have HLL := Lib.hid hL
  obtain ⟨⟨x0, x1, x2⟩, -⟩ := hbx.c3
  clear h hn h1 h2 h3 hbel hbx z1 z2 hL
  go_enter Tryz.func116, Tryz.ntmps116
  go_upto_region 1 with fail
  rw [← HW.out]
  clear hwb
  go_wp2_with (first
    | (go_at_call 133; ((with_reducible refine (HN1.out _).mono ?_); rintro e w2 ⟨rfl, hb2⟩); have HB2 := Lib.hid hb2; clear hb2; clear x0 x1 x2; obtain ⟨⟨x0, x1, x2⟩, -⟩ := (HX.out.next HB2.out).c3)
    | (go_at_call 133; ((with_reducible refine (HN2.out _).mono ?_); rintro e w3 ⟨rfl, hb3⟩); have HB3 := Lib.hid (hb3.on HB2.out HB2.out.size); clear hb3; clear x0 x1 x2; obtain ⟨⟨x0, x1, x2⟩, -⟩ := (HX.out.next HB3.out).c3))
  refine bodyPost_ret (v := .tuple #[.slice pa n c, .int .i64 71]) (by simp [results, Tryz.results116, go_sem]) rfl ?_
  exact ⟨.slice pa n c, rfl, HO.out _ HB3.out, HB3.out.on HB.out HB.out.size⟩
set_option maxRecDepth 100000 in
set_option maxHeartbeats 4000000 in
theorem rset_has {w : World} {B : Nat} {v : Value} {L : List Hd} (h : OH w B v L) (hL : L.length ≤ 1048576) (i : Int) (p : Pr) (z1 : p.name.size ≤ 9223372036854775807) (z2 : p.typ.size ≤ 9223372036854775807) (h1 : nameB p.name = true) (h2 : nameB p.typ = true) (h3 : p.data.size ≤ 256) {k : Nat} {x : Hd} (hp : placeI L i p.name = (k : Int)) (hk : L[k]? = some x) :
    Calls Tryz.prog 116 #[v, .int .i64 i, prV p] w fun e w' => ∃ v', e = .returned (.tuple #[v', .int .i64 0]) ∧ OH w' w.heap.size v' (L.set k ⟨x.win, p⟩) ∧ Below w.heap.size w w' := by
  obtain ⟨i0, hi0, hz0, hz1, hz2⟩ := info_parts heldInfo
  have h4 : ¬ (256 : Int) < (p.data.size : Int) := by omega
  obtain ⟨pa, c, rfl⟩ := OwK.slice h
  obtain ⟨n, hn⟩ : ∃ n, n = L.length := ⟨_, rfl⟩
  rw [← hn] at h ⊢
  obtain ⟨wb, hwb⟩ : ∃ wb, wb = w.alloc (.cells #[.string p.name, .string p.typ, .string p.data] 35) := ⟨_, rfl⟩
  have hbel : Below w.heap.size w wb := by rw [hwb]; exact (Below.refl _ _).alloc (Nat.le_refl _) _
  have hbx : Blk wb w.heap.size 35 #[.string p.name, .string p.typ, .string p.data] := by rw [hwb]; exact Blk.new w _ _
  have HN1 := Lib.hid (fun W => (show Calls Tryz.prog 133 #[.string p.name] W fun e w' => e = .returned (.bool true) ∧ Below W.heap.size W w' from h1 ▸ rname_c p.name W z1))
  have HN2 := Lib.hid (fun W => (show Calls Tryz.prog 133 #[.string p.typ] W fun e w' => e = .returned (.bool true) ∧ Below W.heap.size W w' from h2 ▸ rname_c p.typ W z2))
  have HX := Lib.hid hbx
  have HB := Lib.hid hbel
  have HW := Lib.hid hwb
  have HO := Lib.hid (fun W (hW : Below wb.heap.size wb W) => (h.below hbel).below hW)
  have HN := Lib.hid hn
  have HLL := Lib.hid hL
  obtain ⟨⟨x0, x1, x2⟩, -⟩ := hbx.c3
  have HPL := Lib.hid (fun W (hW : Below wb.heap.size wb W) => (show Calls Tryz.prog 65 #[.slice pa n c, .int .i64 i, .string p.name] W fun e w' => e = .returned (.int .i64 (k : Int)) ∧ W = w' from hp ▸ place_c (OH.rd ((h.below hbel).below hW)) hL i p.name))
  have HK := Lib.hid hk
  have hk0 : (0 : Int) ≤ (k : Int) := by omega
  have hkn : (k : Int) < (n : Int) := by rw [hn]; have := (List.getElem?_eq_some_iff.1 hk).1; omega
  clear hp hk
  clear h hn h1 h2 h3 hbel hbx z1 z2 hL
  go_enter Tryz.func116, Tryz.ntmps116
  go_upto_region 1 with fail
  rw [← HW.out]
  clear hwb
  go_upto_region 5 with (first
    | (go_at_call 133; ((with_reducible refine (HN1.out _).mono ?_); rintro e w2 ⟨rfl, hb2⟩); have HB2 := Lib.hid hb2; clear hb2; clear x0 x1 x2; obtain ⟨⟨x0, x1, x2⟩, -⟩ := (HX.out.next HB2.out).c3)
    | (go_at_call 133; ((with_reducible refine (HN2.out _).mono ?_); rintro e w3 ⟨rfl, hb3⟩); have HB3 := Lib.hid (hb3.on HB2.out HB2.out.size); clear hb3; clear x0 x1 x2; obtain ⟨⟨x0, x1, x2⟩, -⟩ := (HX.out.next HB3.out).c3))
  go_upto_region 6 with (go_at_call 65; ((with_reducible refine (HPL.out _ HB3.out).mono ?_); rintro e w4 ⟨rfl, rfl⟩))
  have hmd : (w3.alloc (.cells #[] 120)).ownsRow wb.heap.size 120 4 (.slice (some ⟨w3.heap.size, 0, none⟩) 0 0) 0 [] := World.ownsRow_made w3 #[] 0 HB3.out.size (by decide) rfl
  have HMD := Lib.hid hmd
  have HOW := Lib.hid (HO.out _ (HB3.out.alloc HB3.out.size (.cells #[] 120)))
  have HB4 := Lib.hid (HB3.out.alloc HB3.out.size (.cells #[] 120))
  clear hmd
  go_upto_region 7 with (at_builtin; refine list_app rfl (.tmp 31) (.tmp 32) 55 rfl wb.heap.size 120 i0 (.agg #[.int .i64 0, .string ByteArray.empty, .string ByteArray.empty, .string ByteArray.empty]) 4 56 Tryz.underlying55 hi0 hz0 hz1 hz2 rfl (by decide) _ _ _ rfl HMD.out B _ _ _ rfl HOW.out (one_flatH _) (by unfold maxLen; have := HLL.out; omega) (by have := HLL.out; omega) HB4.out.size ?_; intro v5 w5 ho5 hg5; have HO5 := Lib.hid (show OH w5 wb.heap.size v5 L from by have hh := ho5; rw [Nat.zero_add, List.nil_append] at hh; exact hh); have HB5 := Lib.hid (below_only HB4.out hg5 HB4.out.size (fun k hk => (World.ownsRow.lt HMD.out k hk).1)); clear ho5 hg5)
  clear x0 x1 x2
  obtain ⟨⟨x0, x1, x2⟩, -⟩ := (HX.out.next HB5.out).c3
  obtain ⟨g, cap, hv5, hg5, -, hcl, hfr⟩ := OwK.form encH_len HO5.out (fun e => by have := HK.out; rw [e] at this; cases this)
  subst hv5
  rw [← HN.out] at HO5
  rw [← HN.out]
  obtain ⟨hst, hgr⟩ := OH.stored HO5.out HN.out HK.out p
  have HST := Lib.hid hst
  have HBF := Lib.hid (below_only HB5.out hgr HB5.out.size (fun q e => by injection e with e; omega))
  have f1 := hfr (k * 4 + 1)
  have f2 := hfr (k * 4 + 1 + 1)
  have f3 := hfr (k * 4 + 1 + 2)
  have e1 := hcl k x 1 _ HK.out rfl
  have e2 : w5.cell? ⟨g, k * 4 + 1 + 1, none⟩ = some (.string x.p.typ) := hcl k x 2 _ HK.out rfl
  have e3 : w5.cell? ⟨g, k * 4 + 1 + 2, none⟩ = some (.string x.p.data) := hcl k x 3 _ HK.out rfl
  clear hst hgr hfr hg5 hcl
  go_wp2_with fail
  refine bodyPost_ret (v := .tuple #[.slice (some ⟨g, 0, none⟩) n cap, .int .i64 0]) (by simp [results, Tryz.results116, go_sem]) rfl ?_
  exact ⟨_, rfl, OwK.less HST.out HB.out.size, HBF.out.on HB.out HB.out.size⟩
set_option maxRecDepth 100000 in
set_option maxHeartbeats 4000000 in
theorem rset_full {w : World} {B : Nat} {v : Value} {L : List Hd} (h : OH w B v L) (hL : L.length ≤ 1048576) (i : Int) (p : Pr) (z1 : p.name.size ≤ 9223372036854775807) (z2 : p.typ.size ≤ 9223372036854775807) (h1 : nameB p.name = true) (h2 : nameB p.typ = true) (h3 : p.data.size ≤ 256) (hp : placeI L i p.name = -1) (hf : 32 ≤ (listR L i).length) :
    Calls Tryz.prog 116 #[v, .int .i64 i, prV p] w fun e w' => ∃ v', e = .returned (.tuple #[v', .int .i64 2]) ∧ OH w' B v' (L) ∧ Below w.heap.size w w' := by
  obtain ⟨i0, hi0, hz0, hz1, hz2⟩ := info_parts heldInfo
  have h4 : ¬ (256 : Int) < (p.data.size : Int) := by omega
  obtain ⟨pa, c, rfl⟩ := OwK.slice h
  obtain ⟨n, hn⟩ : ∃ n, n = L.length := ⟨_, rfl⟩
  rw [← hn] at h ⊢
  obtain ⟨wb, hwb⟩ : ∃ wb, wb = w.alloc (.cells #[.string p.name, .string p.typ, .string p.data] 35) := ⟨_, rfl⟩
  have hbel : Below w.heap.size w wb := by rw [hwb]; exact (Below.refl _ _).alloc (Nat.le_refl _) _
  have hbx : Blk wb w.heap.size 35 #[.string p.name, .string p.typ, .string p.data] := by rw [hwb]; exact Blk.new w _ _
  have HN1 := Lib.hid (fun W => (show Calls Tryz.prog 133 #[.string p.name] W fun e w' => e = .returned (.bool true) ∧ Below W.heap.size W w' from h1 ▸ rname_c p.name W z1))
  have HN2 := Lib.hid (fun W => (show Calls Tryz.prog 133 #[.string p.typ] W fun e w' => e = .returned (.bool true) ∧ Below W.heap.size W w' from h2 ▸ rname_c p.typ W z2))
  have HX := Lib.hid hbx
  have HB := Lib.hid hbel
  have HW := Lib.hid hwb
  have HO := Lib.hid (fun W (hW : Below wb.heap.size wb W) => (h.below hbel).below hW)
  have HN := Lib.hid hn
  have HLL := Lib.hid hL
  obtain ⟨⟨x0, x1, x2⟩, -⟩ := hbx.c3
  have HPL := Lib.hid (fun W (hW : Below wb.heap.size wb W) => (show Calls Tryz.prog 65 #[.slice pa n c, .int .i64 i, .string p.name] W fun e w' => e = .returned (.int .i64 (-1)) ∧ W = w' from hp ▸ place_c (OH.rd ((h.below hbel).below hW)) hL i p.name))
  have HLI := Lib.hid (fun W (hW : Below wb.heap.size wb W) => rlist_c (OH.rd ((h.below hbel).below hW)) hL i)
  obtain ⟨m, hm⟩ : ∃ m, m = (listR L i).length := ⟨_, rfl⟩
  rw [← hm] at hf
  have HM := Lib.hid hm
  have hm1 : (32 : Int) ≤ (m : Int) := by omega
  clear hp hf hm
  clear h hn h1 h2 h3 hbel hbx z1 z2 hL
  go_enter Tryz.func116, Tryz.ntmps116
  go_upto_region 1 with fail
  rw [← HW.out]
  clear hwb
  go_upto_region 5 with (first
    | (go_at_call 133; ((with_reducible refine (HN1.out _).mono ?_); rintro e w2 ⟨rfl, hb2⟩); have HB2 := Lib.hid hb2; clear hb2; clear x0 x1 x2; obtain ⟨⟨x0, x1, x2⟩, -⟩ := (HX.out.next HB2.out).c3)
    | (go_at_call 133; ((with_reducible refine (HN2.out _).mono ?_); rintro e w3 ⟨rfl, hb3⟩); have HB3 := Lib.hid (hb3.on HB2.out HB2.out.size); clear hb3; clear x0 x1 x2; obtain ⟨⟨x0, x1, x2⟩, -⟩ := (HX.out.next HB3.out).c3))
  go_upto_region 6 with (go_at_call 65; ((with_reducible refine (HPL.out _ HB3.out).mono ?_); rintro e w4 ⟨rfl, rfl⟩))
  have hmd : (w3.alloc (.cells #[] 120)).ownsRow wb.heap.size 120 4 (.slice (some ⟨w3.heap.size, 0, none⟩) 0 0) 0 [] := World.ownsRow_made w3 #[] 0 HB3.out.size (by decide) rfl
  have HMD := Lib.hid hmd
  have HOW := Lib.hid (HO.out _ (HB3.out.alloc HB3.out.size (.cells #[] 120)))
  have HB4 := Lib.hid (HB3.out.alloc HB3.out.size (.cells #[] 120))
  clear hmd
  go_upto_region 7 with (at_builtin; refine list_app rfl (.tmp 31) (.tmp 32) 55 rfl wb.heap.size 120 i0 (.agg #[.int .i64 0, .string ByteArray.empty, .string ByteArray.empty, .string ByteArray.empty]) 4 56 Tryz.underlying55 hi0 hz0 hz1 hz2 rfl (by decide) _ _ _ rfl HMD.out B _ _ _ rfl HOW.out (one_flatH _) (by unfold maxLen; have := HLL.out; omega) (by have := HLL.out; omega) HB4.out.size ?_; intro v5 w5 ho5 hg5; have HO5 := Lib.hid (show OH w5 wb.heap.size v5 L from by have hh := ho5; rw [Nat.zero_add, List.nil_append] at hh; exact hh); have HB5 := Lib.hid (below_only HB4.out hg5 HB4.out.size (fun k hk => (World.ownsRow.lt HMD.out k hk).1)); clear ho5 hg5)
  clear x0 x1 x2
  obtain ⟨⟨x0, x1, x2⟩, -⟩ := (HX.out.next HB5.out).c3
  go_wp2_with (go_at_call 134; ((with_reducible refine (HLI.out _ HB5.out).mono ?_); rintro e w6 ⟨v6, rfl, hl6, hb6⟩); obtain ⟨p6, c6, rfl⟩ := OwK.slice hl6; rw [← HM.out]; have HB6 := Lib.hid (hb6.on HB5.out HB5.out.size); clear hb6 hl6)
  refine bodyPost_ret (v := .tuple #[.slice pa n c, .int .i64 2]) (by simp [results, Tryz.results116, go_sem]) rfl ?_
  exact ⟨.slice pa n c, rfl, HO.out _ HB6.out, HB6.out.on HB.out HB.out.size⟩
set_option maxRecDepth 100000 in
set_option maxHeartbeats 4000000 in
theorem rset_new {w : World} {B : Nat} {v : Value} {L : List Hd} (h : OH w B v L) (hL : L.length ≤ 1048576) (i : Int) (p : Pr) (z1 : p.name.size ≤ 9223372036854775807) (z2 : p.typ.size ≤ 9223372036854775807) (h1 : nameB p.name = true) (h2 : nameB p.typ = true) (h3 : p.data.size ≤ 256) (hp : placeI L i p.name = -1) (hf : (listR L i).length < 32) :
    Calls Tryz.prog 116 #[v, .int .i64 i, prV p] w fun e w' => ∃ v', e = .returned (.tuple #[v', .int .i64 0]) ∧ OH w' w.heap.size v' (L ++ [⟨i, p⟩]) ∧ Below w.heap.size w w' := by
  obtain ⟨i0, hi0, hz0, hz1, hz2⟩ := info_parts heldInfo
  have h4 : ¬ (256 : Int) < (p.data.size : Int) := by omega
  obtain ⟨pa, c, rfl⟩ := OwK.slice h
  obtain ⟨n, hn⟩ : ∃ n, n = L.length := ⟨_, rfl⟩
  rw [← hn] at h ⊢
  obtain ⟨wb, hwb⟩ : ∃ wb, wb = w.alloc (.cells #[.string p.name, .string p.typ, .string p.data] 35) := ⟨_, rfl⟩
  have hbel : Below w.heap.size w wb := by rw [hwb]; exact (Below.refl _ _).alloc (Nat.le_refl _) _
  have hbx : Blk wb w.heap.size 35 #[.string p.name, .string p.typ, .string p.data] := by rw [hwb]; exact Blk.new w _ _
  have HN1 := Lib.hid (fun W => (show Calls Tryz.prog 133 #[.string p.name] W fun e w' => e = .returned (.bool true) ∧ Below W.heap.size W w' from h1 ▸ rname_c p.name W z1))
  have HN2 := Lib.hid (fun W => (show Calls Tryz.prog 133 #[.string p.typ] W fun e w' => e = .returned (.bool true) ∧ Below W.heap.size W w' from h2 ▸ rname_c p.typ W z2))
  have HX := Lib.hid hbx
  have HB := Lib.hid hbel
  have HW := Lib.hid hwb
  have HO := Lib.hid (fun W (hW : Below wb.heap.size wb W) => (h.below hbel).below hW)
  have HN := Lib.hid hn
  have HLL := Lib.hid hL
  obtain ⟨⟨x0, x1, x2⟩, -⟩ := hbx.c3
  have HPL := Lib.hid (fun W (hW : Below wb.heap.size wb W) => (show Calls Tryz.prog 65 #[.slice pa n c, .int .i64 i, .string p.name] W fun e w' => e = .returned (.int .i64 (-1)) ∧ W = w' from hp ▸ place_c (OH.rd ((h.below hbel).below hW)) hL i p.name))
  have HLI := Lib.hid (fun W (hW : Below wb.heap.size wb W) => rlist_c (OH.rd ((h.below hbel).below hW)) hL i)
  obtain ⟨m, hm⟩ : ∃ m, m = (listR L i).length := ⟨_, rfl⟩
  rw [← hm] at hf
  have HM := Lib.hid hm
  have hm1 : ¬ (32 : Int) ≤ (m : Int) := by omega
  clear hp hf hm
  clear h hn h1 h2 h3 hbel hbx z1 z2 hL
  go_enter Tryz.func116, Tryz.ntmps116
  go_upto_region 1 with fail
  rw [← HW.out]
  clear hwb
  go_upto_region 5 with (first
    | (go_at_call 133; ((with_reducible refine (HN1.out _).mono ?_); rintro e w2 ⟨rfl, hb2⟩); have HB2 := Lib.hid hb2; clear hb2; clear x0 x1 x2; obtain ⟨⟨x0, x1, x2⟩, -⟩ := (HX.out.next HB2.out).c3)
    | (go_at_call 133; ((with_reducible refine (HN2.out _).mono ?_); rintro e w3 ⟨rfl, hb3⟩); have HB3 := Lib.hid (hb3.on HB2.out HB2.out.size); clear hb3; clear x0 x1 x2; obtain ⟨⟨x0, x1, x2⟩, -⟩ := (HX.out.next HB3.out).c3))
  go_upto_region 6 with (go_at_call 65; ((with_reducible refine (HPL.out _ HB3.out).mono ?_); rintro e w4 ⟨rfl, rfl⟩))
  have hmd : (w3.alloc (.cells #[] 120)).ownsRow wb.heap.size 120 4 (.slice (some ⟨w3.heap.size, 0, none⟩) 0 0) 0 [] := World.ownsRow_made w3 #[] 0 HB3.out.size (by decide) rfl
  have HMD := Lib.hid hmd
  have HOW := Lib.hid (HO.out _ (HB3.out.alloc HB3.out.size (.cells #[] 120)))
  have HB4 := Lib.hid (HB3.out.alloc HB3.out.size (.cells #[] 120))
  clear hmd
  go_upto_region 7 with (at_builtin; refine list_app rfl (.tmp 31) (.tmp 32) 55 rfl wb.heap.size 120 i0 (.agg #[.int .i64 0, .string ByteArray.empty, .string ByteArray.empty, .string ByteArray.empty]) 4 56 Tryz.underlying55 hi0 hz0 hz1 hz2 rfl (by decide) _ _ _ rfl HMD.out B _ _ _ rfl HOW.out (one_flatH _) (by unfold maxLen; have := HLL.out; omega) (by have := HLL.out; omega) HB4.out.size ?_; intro v5 w5 ho5 hg5; have HO5 := Lib.hid (show OH w5 wb.heap.size v5 L from by have hh := ho5; rw [Nat.zero_add, List.nil_append] at hh; exact hh); have HB5 := Lib.hid (below_only HB4.out hg5 HB4.out.size (fun k hk => (World.ownsRow.lt HMD.out k hk).1)); clear ho5 hg5)
  clear x0 x1 x2
  obtain ⟨⟨x0, x1, x2⟩, -⟩ := (HX.out.next HB5.out).c3
  go_upto_region 12 with (go_at_call 134; ((with_reducible refine (HLI.out _ HB5.out).mono ?_); rintro e w6 ⟨v6, rfl, hl6, hb6⟩); obtain ⟨p6, c6, rfl⟩ := OwK.slice hl6; rw [← HM.out]; have HB6 := Lib.hid (hb6.on HB5.out HB5.out.size); have HB56 := Lib.hid hb6; clear hb6 hl6; have HO6 := Lib.hid (HO5.out.below HB56.out); clear x0 x1 x2; obtain ⟨⟨x0, x1, x2⟩, -⟩ := (HX.out.next HB6.out).c3)
  go_wp2_with (at_builtin; refine wpList_append_own_at _ rfl (.tmp 48) (.tmp 52) 55 rfl wb.heap.size 120 i0 (.agg #[.int .i64 0, .string ByteArray.empty, .string ByteArray.empty, .string ByteArray.empty]) 4 56 Tryz.underlying55 hi0 hz0 hz1 hz2 rfl (by decide) _ _ _ rfl (World.ownsRow.alloc HO6.out _) ⟨_, 0, none⟩ 1 1 (encH ⟨i, p⟩) rfl rfl (cell_list_at _ _ (encH ⟨i, p⟩) _ rfl) (oneCell_encH _) (by unfold maxLen; have := HLL.out; omega) (by have := HLL.out; omega) (by have := HB6.out.size; simp; omega) ?_; intro v7 w7 ho7 hg7 _ _; have HP := Lib.hid ((show GhS wb w6 v5 L from ⟨HO6.out, HB6.out⟩).put (u := ⟨i, p⟩) ho7 hg7); clear ho7 hg7)
  refine bodyPost_ret (v := .tuple #[v7, .int .i64 0]) (by simp [results, Tryz.results116, go_sem]) rfl ?_
  exact ⟨_, rfl, OwK.less HP.out.1 HB.out.size, HP.out.2.on HB.out HB.out.size⟩
end Go.Proofs.YtfdgpbdppenhmaaGreat.Pp
end
section
namespace Go.Proofs.YtfdgpbdppenhmaaGreat.Pp
open Go.RowKit Go.Shelf Go.Maps
theorem OwK.keep {α : Type} {enc : α → List Value} {T : TypeId} {k : Nat} {w w' : World} {B : Nat} {v : Value} {xs : List α} (h : OwK enc T k w B v xs) (hk : Keep w w') : OwK enc T k w' B v xs := by
  obtain ⟨h1, h2⟩ := h
  refine ⟨h1, ?_⟩
  rcases h2 with h2 | ⟨g, cap, cur, a, b, c, d⟩
  · exact .inl h2
  · exact .inr ⟨g, cap, cur, a, b, hk g T cur c, d⟩
section
variable {w : World} {B : Nat} {v : Value} {R : List Hd} {ms : Int → ByteArray → Option Pr} {ns : Int → Nat}
theorem rset_c (h : OH w B v R) (hB : B ≤ w.heap.size) (hI : Inv R ms ns) (hL : R.length ≤ 1048576) (i : Int) (p : Pr) (z1 : p.name.size ≤ 9223372036854775807) (z2 : p.typ.size ≤ 9223372036854775807) :
    Calls Tryz.prog 116 #[v, .int .i64 i, prV p] w fun e w' => ∃ v', e = .returned (.tuple #[v', .int .i64 (setE p (ms i) (ns i))]) ∧ OH w' B v' (setR R ms ns i p) ∧ Below w.heap.size w w' := by
  have hpl := hI.place i p.name
  have hcn : (listR R i).length = ns i := by rw [listR_len, hI.cnt i]
  unfold setR
  cases b1 : nameB p.name with
  | false =>
    have he : setE p (ms i) (ns i) = 70 := by unfold setE; rw [b1]; simp
    rw [he]
    exact rset_badname h hL i p z1 z2 b1
  | true =>
    cases b2 : nameB p.typ with
    | false =>
      have he : setE p (ms i) (ns i) = 70 := by unfold setE; rw [b1, b2]; simp
      rw [he]
      exact rset_badtype h hL i p z1 z2 b1 b2
    | true =>
      by_cases b3 : 256 < p.data.size
      · have he : setE p (ms i) (ns i) = 71 := by unfold setE; rw [if_pos ⟨b1, b2⟩, if_pos b3]
        rw [he]
        exact rset_long h hL i p z1 z2 b1 b2 b3
      · cases hs : ms i p.name with
        | some q =>
          have he : setE p (ms i) (ns i) = 0 := by unfold setE; rw [if_pos ⟨b1, b2⟩, if_neg b3, if_neg (by rw [hs]; simp)]
          have hf := hI.found hs
          have hpk : placeI R i p.name = (placeN R i p.name : Int) := by unfold placeI; rw [if_pos (List.getElem?_eq_some_iff.1 hf).1]
          rw [he, if_pos rfl, if_pos (by rfl)]
          exact (rset_has h hL i p z1 z2 b1 b2 (by omega) hpk hf).mono fun e w' ⟨v', h1, h2, h3⟩ => ⟨v', h1, h2.less hB, h3⟩
        | none =>
          have hpk : placeI R i p.name = -1 := by
            unfold placeI
            rw [hs] at hpl
            have h1 := of_decide_eq_false hpl
            unfold placeI at h1
            split
            · next hx => rw [if_pos hx] at h1; omega
            · rfl
          by_cases b4 : 32 ≤ ns i
          · have he : setE p (ms i) (ns i) = 2 := by unfold setE; rw [if_pos ⟨b1, b2⟩, if_neg b3, if_pos ⟨by rw [hs]; rfl, b4⟩]
            rw [he]
            exact rset_full h hL i p z1 z2 b1 b2 (by omega) hpk (by omega)
          · have he : setE p (ms i) (ns i) = 0 := by unfold setE; rw [if_pos ⟨b1, b2⟩, if_neg b3, if_neg (fun hx => b4 hx.2)]
            rw [he, if_pos rfl, if_neg (by simp)]
            exact (rset_new h hL i p z1 z2 b1 b2 (by omega) hpk (by omega)).mono fun e w' ⟨v', h1, h2, h3⟩ => ⟨v', h1, h2.less hB, h3⟩
theorem setR_len (R : List Hd) (ms : Int → ByteArray → Option Pr) (ns : Int → Nat) (i : Int) (p : Pr) : (setR R ms ns i p).length ≤ R.length + 1 := by
  unfold setR
  split
  · split
    · rw [List.length_set]; omega
    · rw [List.length_append]; simp
  · omega
end
theorem Tb.big {n0 k t : Nat} {w0 w : World} {ms : Int → ByteArray → Option Pr} {ns : Int → Nat} (H : Tb n0 w0 w t ms ns k) (i : Int) (s : ByteArray) (p : Pr) (h : ms i s = some p) : s.size ≤ maxLen := by
  obtain ⟨bm, nb, cnt, -, -, -, h3, -⟩ := H
  obtain ⟨a, b, -⟩ := h3 i s p h
  have := nameB_size b
  rw [a] at this
  unfold maxLen; omega
end Go.Proofs.YtfdgpbdppenhmaaGreat.Pp
end
