/- The document's Get; are two rows of properties the same? -/
import Derived.Test.YtfflgkbemfichaaDoorPsB
import Derived.Test.YtfflgkbemfichaaDoorPrL
namespace Go.Proofs.YtfflgkbemfichaaDoor
open Go.RowKit Go.Shelf Go.Maps
def getL (L : List Hd) (i : Int) (s : ByteArray) : Option Pr := L[placeN L i s]?.map Hd.p
theorem pr_eq (p q : Pr) : (p.name = q.name ∧ p.typ = q.typ ∧ p.data = q.data) ↔ p = q := by
  obtain ⟨a, b, c⟩ := p
  obtain ⟨a', b', c'⟩ := q
  simp only [Pr.mk.injEq]
attribute [local go_sem ↓] neq_prop
section
variable {w : World} {v : Value} {L : List Hd}
set_option maxRecDepth 100000 in
set_option maxHeartbeats 4000000 in
theorem rget_c (h : RdH w v L) (hl : L.length ≤ 1048576) (i : Int) (s : ByteArray) :
    Calls Tryd.prog 17 #[v, .int .i64 i, .string s] w fun e w' => e = .returned (.tuple #[prV ((getL L i s).getD noP), .bool (getL L i s).isSome]) ∧ Below w.heap.size w w' := by
  obtain ⟨wb, hwb⟩ : ∃ wb, wb = w.alloc (.cells #[.string ⟨#[]⟩, .string ⟨#[]⟩, .string ⟨#[]⟩] 27) := ⟨_, rfl⟩
  have hbel : Below w.heap.size w wb := by rw [hwb]; exact (Below.refl _ _).alloc (Nat.le_refl _) _
  have hbx : Blk wb w.heap.size 27 #[.string ⟨#[]⟩, .string ⟨#[]⟩, .string ⟨#[]⟩] := by rw [hwb]; exact Blk.new w _ _
  have hpl := place_c (h.next hbel) hl i s
  obtain ⟨pi, hpi⟩ : ∃ pi, pi = placeI L i s := ⟨_, rfl⟩
  rw [← hpi] at hpl
  have HPL := Lib.hid hpl
  obtain ⟨⟨z0, z1, z2⟩, ⟨f0, f1, f2⟩⟩ := hbx.c3
  obtain ⟨p, c, rfl, hc⟩ := h.next hbel
  have HB := Lib.hid hbel
  have HW := Lib.hid hwb
  obtain ⟨n, hn⟩ : ∃ n, n = L.length := ⟨_, rfl⟩
  rw [← hn] at HPL ⊢
  by_cases hk : placeN L i s < L.length
  · obtain ⟨k, hkk⟩ : ∃ k, k = placeN L i s := ⟨_, rfl⟩
    obtain ⟨x, hx⟩ : ∃ x, L[k]? = some x := ⟨_, List.getElem?_eq_getElem (by rw [hkk]; exact hk)⟩
    have hg : getL L i s = some x.p := by unfold getL; rw [← hkk, hx]; rfl
    have hpk : pi = (k : Int) := by rw [hpi]; unfold placeI; rw [if_pos hk, hkk]
    subst hpk
    obtain ⟨b, o, rfl, hb, hcl⟩ := hc k x hx
    obtain ⟨xw, xn, xt, xd⟩ := x
    have c1 := hcl 1 _ rfl
    have c2 := hcl 2 _ rfl
    have c3 := hcl 3 _ rfl
    have hk0 : (0 : Int) ≤ (k : Int) := by omega
    have hk1 : (k : Int) < (n : Int) := by rw [hn, hkk]; omega
    have hk2 : ¬ (k : Int) < 0 := by omega
    have hkn : k < n := by omega
    rw [hg]
    show Calls Tryd.prog 17 #[.slice (some ⟨b, o, none⟩) n c, .int .i64 i, .string s] w fun e w' => e = .returned (.tuple #[.agg #[.string xn, .string xt, .string xd], .bool true]) ∧ Below w.heap.size w w'
    clear hpi hkk hx hg hc hcl hb hk hn hbel hbx hpl hl h
    go_enter Tryd.func17, Tryd.ntmps17
    go_upto_region 1 with fail
    rw [← HW.out]
    clear hwb
    go_wp2_with (go_at_call 32; ((with_reducible refine (HPL.out).mono ?_); rintro e w1 ⟨rfl, rfl⟩))
    refine bodyPost_ret (v := .tuple #[.agg #[.string xn, .string xt, .string xd], .bool true]) (by simp [results, Tryd.results17, go_sem, z0, z1, z2]) rfl ?_
    exact ⟨rfl, ((HB.out.setCell (Nat.le_refl _) _).setCell (Nat.le_refl _) _).setCell (Nat.le_refl _) _⟩
  · have hg : getL L i s = none := by unfold getL; rw [List.getElem?_eq_none (by omega)]; rfl
    have hpk : pi = -1 := by rw [hpi]; unfold placeI; rw [if_neg hk]
    subst hpk
    rw [hg]
    show Calls Tryd.prog 17 #[.slice p n c, .int .i64 i, .string s] w fun e w' => e = .returned (.tuple #[.agg #[.string ⟨#[]⟩, .string ⟨#[]⟩, .string ⟨#[]⟩], .bool false]) ∧ Below w.heap.size w w'
    clear hpi hg hc hk hn hbel hbx hpl hl h
    go_enter Tryd.func17, Tryd.ntmps17
    go_upto_region 1 with fail
    rw [← HW.out]
    clear hwb
    go_wp2_with (go_at_call 32; ((with_reducible refine (HPL.out).mono ?_); rintro e w1 ⟨rfl, rfl⟩))
    refine bodyPost_ret (v := .tuple #[.agg #[.string ⟨#[]⟩, .string ⟨#[]⟩, .string ⟨#[]⟩], .bool false]) (by simp [results, Tryd.results17, go_sem, z0, z1, z2]) rfl ?_
    exact ⟨rfl, ((HB.out.setCell (Nat.le_refl _) _).setCell (Nat.le_refl _) _).setCell (Nat.le_refl _) _⟩
end
/-- A row of properties, read. -/
abbrev RdP (w : World) (v : Value) (l : List Pr) : Prop := RdK encP 3 w v l
set_option maxRecDepth 100000 in
set_option maxHeartbeats 4000000 in
theorem props_c (va vb : Value) (a b : List Pr) (w : World) (ha : RdP w va a) (hb : RdP w vb b) (hla : a.length ≤ 1048576) (hlb : b.length ≤ 1048576) :
    Calls Tryd.prog 18 #[va, vb] w fun e w' => (∃ q, e = .returned (.bool q) ∧ (q = true ↔ a = b)) ∧ Below w.heap.size w w' := by
  obtain ⟨p, c, rfl, ha⟩ := ha
  obtain ⟨p', c', rfl, hb⟩ := hb
  have HA := Lib.hid ha
  have HB := Lib.hid hb
  obtain ⟨n, hn⟩ : ∃ n, n = a.length := ⟨_, rfl⟩
  obtain ⟨n', hn'⟩ : ∃ n', n' = b.length := ⟨_, rfl⟩
  rw [← hn] at hla ⊢
  rw [← hn'] at hlb ⊢
  have HN := Lib.hid hn
  have HN' := Lib.hid hn'
  clear ha hb hn hn'
  by_cases hnn : n = n'
  · subst hnn
    go_enter Tryd.func18, Tryd.ntmps18
    go_wp2_with fail
    go_loopw [5] (fun v wr => ∃ k q : Nat, k ≤ n ∧ v = .int .i64 k ∧ wr = w.drewN q ∧ Asd (∀ j, j < k → a[j]? = b[j]?)) (fun v _ => n - (intOf v).toNat)
    case atStart => exact ⟨0, 0, Nat.zero_le _, rfl, rfl, fun j hj => absurd hj (Nat.not_lt_zero _)⟩
    case round =>
      obtain ⟨k, q, hk, rfl, rfl, hA⟩ := hrel
      have HS := Lib.hid (show ∀ j, j < k → a[j]? = b[j]? from hA)
      clear hA
      by_cases hlt : k < n
      · obtain ⟨u, hu⟩ : ∃ u, a[k]? = some u := ⟨_, List.getElem?_eq_getElem (by rw [← HN.out]; exact hlt)⟩
        obtain ⟨u', hu'⟩ : ∃ u, b[k]? = some u := ⟨_, List.getElem?_eq_getElem (by rw [← HN'.out]; exact hlt)⟩
        obtain ⟨g, o, rfl, -, h1⟩ := HA.out k u hu
        obtain ⟨g', o', rfl, -, h2⟩ := HB.out k u' hu'
        have HU := Lib.hid (And.intro hu hu')
        clear hu hu'
        have r0 := h1 0 _ rfl
        have r1 := h1 1 _ rfl
        have r2 := h1 2 _ rfl
        have s0 := h2 0 _ rfl
        have s1 := h2 1 _ rfl
        have s2 := h2 2 _ rfl
        simp only [Nat.add_zero] at r0 s0
        clear h1 h2
        have hi0 : (0 : Int) ≤ (k : Int) := by omega
        have hi1 : (k : Int) < (n : Int) := by omega
        by_cases he : u.name = u'.name ∧ u.typ = u'.typ ∧ u.data = u'.data
        · have HE := Lib.hid ((pr_eq u u').1 he)
          obtain ⟨d1, d2, d3⟩ := he
          go_wp2_with fail
          go_quiet (fail)
          go_wp2_with fail
          go_roundw
          case rel => exact ⟨k + 1, _, by omega, by go_num, rfl, fun j hj => by
            rcases Nat.lt_or_ge j k with h | h
            · exact HS.out j h
            · obtain rfl : j = k := by omega
              rw [HU.out.1, HU.out.2, HE.out]⟩
          case measure => simp [intOf]; omega
        · have hd : (!decide (u.name = u'.name)) = true ∨ (!decide (u.typ = u'.typ)) = true ∨ (!decide (u.data = u'.data)) = true := by
            by_cases e1 : u.name = u'.name
            · by_cases e2 : u.typ = u'.typ
              · exact .inr (.inr (by simpa using fun e3 => he ⟨e1, e2, e3⟩))
              · exact .inr (.inl (by simpa using e2))
            · exact .inl (by simpa using e1)
          have HR := Lib.hid (show ¬ a = b from fun e => by
            have := HU.out
            rw [e] at this
            have h5 := this.1.symm.trans this.2
            exact he ((pr_eq u u').2 (Option.some.inj h5)))
          clear he
          go_wp2_with fail
          go_quiet (fail)
          go_wp2_with fail
          go_ret
          exact ⟨⟨false, rfl, fun h => (by cases h), fun h => absurd h HR.out⟩, below_drewN (below_drewN (Below.refl _ _) _) _⟩
          have hx := ‹(!decide (u.name = u'.name)) = false ∧ (!decide (u.typ = u'.typ)) = false ∧ (!decide (u.data = u'.data)) = false›
          exfalso
          rcases hd with h | h | h
          · rw [hx.1] at h; cases h
          · rw [hx.2.1] at h; cases h
          · rw [hx.2.2] at h; cases h
      · obtain rfl : k = n := by omega
        have HR := Lib.hid (show a = b from list_same (by rw [← HN.out, ← HN'.out]) (fun j hj => HS.out j (by rw [HN.out]; exact hj)))
        go_wp2_with fail
        go_ret
        exact ⟨⟨true, rfl, fun _ => HR.out, fun _ => rfl⟩, below_drewN (Below.refl _ _) _⟩
  · have HR := Lib.hid (show ¬ a = b from fun e => by
      apply hnn
      rw [HN.out, HN'.out, e])
    have hne : ((n : Int) == (n' : Int)) = false := by simp; omega
    have hne2 : ((n : Int) != (n' : Int)) = true := by simp [bne, hne]
    clear hnn
    go_enter Tryd.func18, Tryd.ntmps18
    go_wp2_with fail
    go_ret
    exact ⟨⟨false, rfl, fun h => (by cases h), fun h => absurd h HR.out⟩, Below.refl _ _⟩
end Go.Proofs.YtfflgkbemfichaaDoor
