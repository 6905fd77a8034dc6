/- The document's list of properties: read; place. -/
import Derived.Test.YtfflgkbemfichaaDoorPrI
namespace Go.Proofs.YtfflgkbemfichaaDoor
open Go.RowKit Go.Maps
structure Hd where
  win : Int
  p : Pr
abbrev Hd.cells (h : Hd) : List Value := [.int .i64 h.win, .string h.p.name, .string h.p.typ, .string h.p.data]
/-- A row of held properties, read. -/
def RdH (w : World) (v : Value) (L : List Hd) : Prop :=
  ∃ p c, v = .slice p L.length c ∧ ∀ (j : Nat) (h : Hd), L[j]? = some h → ∃ b o, p = some ⟨b, o, none⟩ ∧ b < w.heap.size ∧ ∀ (i : Nat) (u : Value), h.cells[i]? = some u → w.cell? ⟨b, o + j * 4 + i, none⟩ = some u
theorem RdH.next {w w' : World} {v : Value} {L : List Hd} (h : RdH w v L) (hb : Below w.heap.size w w') : RdH w' v L := by
  obtain ⟨p, c, h1, h2⟩ := h
  refine ⟨p, c, h1, fun j x hx => ?_⟩
  obtain ⟨b, o, e, hlt, hc⟩ := h2 j x hx
  exact ⟨b, o, e, Nat.lt_of_lt_of_le hlt hb.size, fun i u hu => (hb.cell (p := ⟨b, o + j * 4 + i, none⟩) hlt).trans (hc i u hu)⟩
theorem RdH.nil (w : World) : RdH w (.slice none 0 0) [] := ⟨none, 0, rfl, fun j h hj => by cases hj⟩
def isP (i : Int) (s : ByteArray) (h : Hd) : Bool := decide (h.win = i ∧ h.p.name = s)
def placeN (L : List Hd) (i : Int) (s : ByteArray) : Nat := L.findIdx (isP i s)
def placeI (L : List Hd) (i : Int) (s : ByteArray) : Int := if placeN L i s < L.length then (placeN L i s : Int) else -1
theorem placeN_at {L : List Hd} {i : Int} {s : ByteArray} {k : Nat} {h : Hd} (hk : L[k]? = some h) (hy : isP i s h = true) (hn : ∀ j x, j < k → L[j]? = some x → isP i s x = false) : placeN L i s = k := by
  have hl := (List.getElem?_eq_some_iff.1 hk).1
  have he := (List.getElem?_eq_some_iff.1 hk).2
  unfold placeN
  rw [List.findIdx_eq hl]
  exact ⟨by rw [he]; exact hy, fun j hj => by
    have h2 := hn j (L[j]'(by omega)) hj (List.getElem?_eq_getElem (by omega))
    simpa using h2⟩
theorem placeN_no {L : List Hd} {i : Int} {s : ByteArray} (hn : ∀ j x, j < L.length → L[j]? = some x → isP i s x = false) : placeN L i s = L.length := by
  unfold placeN
  exact List.findIdx_eq_length.2 fun x hx => by
    obtain ⟨j, hj, he⟩ := List.getElem_of_mem hx
    exact hn j x hj (by rw [List.getElem?_eq_getElem hj, he])
theorem tl_ne {a b : ByteArray} (h : ¬ a = b) : ¬ a.toList = b.toList := fun e => h (by rw [ByteArray.toList_eq, ByteArray.toList_eq] at e; exact bytes_eq e)
section
variable {w : World} {v : Value} {L : List Hd}
set_option maxRecDepth 100000 in
set_option maxHeartbeats 2000000 in
theorem place_c (h : RdH w v L) (hl : L.length ≤ 1048576) (i : Int) (s : ByteArray) : Calls Tryd.prog 32 #[v, .int .i64 i, .string s] w fun e w' => e = .returned (.int .i64 (placeI L i s)) ∧ w = w' := by
  obtain ⟨p, c, rfl, hc⟩ := h
  have HC := Lib.hid hc
  obtain ⟨n, hn⟩ : ∃ n, n = L.length := ⟨_, rfl⟩
  rw [← hn] at hl ⊢
  have HN := Lib.hid hn
  clear hc hn
  go_enter Tryd.func32, Tryd.ntmps32
  go_wp2_with fail
  go_loopw [7] (fun z wr => ∃ k : Nat, k ≤ n ∧ z = .int .i64 k ∧ wr = w ∧ Asd (∀ j x, j < k → L[j]? = some x → isP i s x = false)) (fun z _ => n - (intOf z).toNat)
  case atStart => exact ⟨0, Nat.zero_le _, rfl, rfl, fun j x hj => absurd hj (Nat.not_lt_zero _)⟩
  case round =>
    obtain ⟨k, hk, rfl, rfl, hA⟩ := hrel
    have HA := Lib.hid (show ∀ j x, j < k → L[j]? = some x → isP i s x = false from hA)
    have hk0 : (0 : Int) ≤ (k : Int) := by omega
    clear hA
    by_cases hlt : k < n
    · have hk1 : (k : Int) < (n : Int) := by omega
      obtain ⟨x, hx⟩ : ∃ x, L[k]? = some x := ⟨_, List.getElem?_eq_getElem (by rw [← HN.out]; exact hlt)⟩
      obtain ⟨b, o, rfl, hb, hcl⟩ := HC.out k x hx
      obtain ⟨xw, xn, xt, xd⟩ := x
      have c0 := hcl 0 _ rfl
      have c1 := hcl 1 _ rfl
      have HXX := Lib.hid hx
      simp only [Nat.add_zero] at c0
      clear hcl hx hb
      by_cases hw : xw = i
      · subst hw
        by_cases hs : xn = s
        · have HR := Lib.hid (show placeI L xw s = (k : Int) from by
            have hp := placeN_at HXX.out (show isP xw s ⟨xw, xn, xt, xd⟩ = true by simp [isP, hs]) HA.out
            unfold placeI
            rw [hp, if_pos (by rw [← HN.out]; exact hlt)])
          subst hs
          go_wp2_with fail
          go_ret
          exact ⟨by rw [HR.out]; rfl, rfl⟩
        · have hs' := tl_ne hs
          have hs2 : (xn.toList == s.toList) = false := by simpa using hs'
          have HNO := Lib.hid (show isP xw s ⟨xw, xn, xt, xd⟩ = false by simp [isP, hs])
          go_wp2_with fail
          go_roundw
          case rel => exact ⟨k + 1, by omega, by go_num, trivial, fun j x hj hx => by
            rcases Nat.lt_or_ge j k with hjk | hjk
            · exact HA.out j x hjk hx
            · obtain rfl : j = k := by omega
              rw [HXX.out] at hx; injection hx with hx; rw [← hx]; exact HNO.out⟩
          case measure => simp [intOf]; omega
      · have HNO := Lib.hid (show isP i s ⟨xw, xn, xt, xd⟩ = false by simp [isP, hw])
        go_wp2_with fail
        go_roundw
        case rel => exact ⟨k + 1, by omega, by go_num, trivial, fun j x hj hx => by
          rcases Nat.lt_or_ge j k with hjk | hjk
          · exact HA.out j x hjk hx
          · obtain rfl : j = k := by omega
            rw [HXX.out] at hx; injection hx with hx; rw [← hx]; exact HNO.out⟩
        case measure => simp [intOf]; omega
    · obtain rfl : k = n := by omega
      have HR := Lib.hid (show placeI L i s = -1 from by
        have hp := placeN_no (L := L) (i := i) (s := s) (by rw [← HN.out]; exact HA.out)
        unfold placeI
        rw [hp, if_neg (Nat.lt_irrefl _)])
      go_wp2_with fail
      go_ret
      exact ⟨by rw [HR.out]; rfl, rfl⟩
end
end Go.Proofs.YtfflgkbemfichaaDoor
