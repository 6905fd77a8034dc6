/- Area and Bounds of the reference; few. -/
import Derived.Test.YtfabknabkcfpjaaRjH
namespace Go.Proofs.Ytfabknabkcfpjaa
open Go.RowKit Go.Shelf
set_option maxHeartbeats 4000000 in
theorem rarea_c2 (v : Value) (la : List Rc) (w : World) (ha : RdK encR 4 w v la) (hla : la.length ≤ 4398046511104) :
    Calls Try.prog 17 #[v] w fun e w' => ∃ k L, Told rlU la [] k L ∧ e = .returned (.tuple #[.int .i64 (areaL L), .int .i64 k]) ∧ Below w.heap.size w w' := by
  have HC := Lib.hid (rset_c 0 rlU (.inl ⟨rfl, rfl⟩) v (.slice none 0 0) la [] w ha (RdK.nil _ _) hla (by simp))
  clear ha
  go_enter Try.func17, Try.ntmps17
  go_wp2_with fail
  refine HC.out.mono ?_
  rintro e1 w1 ⟨u, k, L, rfl, hT, hO, hb⟩
  have HT := Lib.hid hT
  have P0 : Arst w u L w1 := ⟨hO, hb⟩
  have hLn := hT.len
  obtain ⟨p, c, rfl⟩ := hO.slice
  obtain ⟨n, hn⟩ : ∃ n, n = L.length := ⟨_, rfl⟩
  rw [← hn] at hLn P0 ⊢
  have HN := Lib.hid hn
  clear hT hO hb HC hn
  go_wp2_with fail
  go_loopw [6, 7] (fun a z wr => ∃ j : Nat, j ≤ n ∧ z = .int .i64 j ∧ a = .int .i64 (areaL (L.take j)) ∧ Arst w (.slice p n c) L wr) (fun _ z _ => n - (intOf z).toNat)
  case atStart => exact ⟨0, Nat.zero_le _, rfl, rfl, P0⟩
  case round =>
    obtain ⟨j, hj, rfl, rfl, P1⟩ := hrel
    clear P0
    have hA := areaL_le L j
    by_cases hlt : j < n
    · obtain ⟨r, hr⟩ : ∃ r, L[j]? = some r := ⟨_, List.getElem?_eq_getElem (by rw [← HN.out]; exact hlt)⟩
      obtain ⟨p0, c0, hv, hcell⟩ := P1.1
      simp only [Value.slice.injEq] at hv
      obtain ⟨rfl, -, rfl⟩ := hv
      obtain ⟨b, o, rfl, hb1, hb2⟩ := hcell j r hr
      obtain ⟨r0, r1, r2, r3⟩ := RdK.rect (w := wr) hb2
      have HS := Lib.hid (areaL_snoc hr)
      have hR := area_le (r := r)
      generalize areaL (L.take j) = acc at *
      clear hcell hb2 hr
      have hi0 : (0 : Int) ≤ (j : Int) := by omega
      have hi1 : (j : Int) < (n : Int) := by omega
      go_wp2_with fail
      refine (rarea_c r.x r.y r.w r.h _).mono ?_
      rintro e w2 ⟨rfl, hb⟩
      have P3 := P1.next hb
      generalize areaI r.x r.y r.w r.h = ar at *
      go_wp2_with fail
      go_roundw
      case rel => exact ⟨j + 1, by omega, by go_num, by rw [HS.out], P3⟩
      case measure => simp [intOf]; omega
    · obtain rfl : j = n := by omega
      have HS : areaL (L.take j) = areaL L := by rw [HN.out, List.take_length]
      rw [HS] at hA ⊢
      go_wp2_with fail
      refine bodyPost_ret (v := .tuple #[.int .i64 (areaL L), .int .i64 k]) (by simp [results, Try.results17, go_sem]) rfl ?_
      exact ⟨k, L, HT.out, rfl, P1.2⟩
end Go.Proofs.Ytfabknabkcfpjaa
