/- The document's Has. -/
import Derived.Test.YtjeabkcbaielhaaCpO
namespace Go.Proofs.Ytjeabkcbaielhaa.Co
open Go.RowKit Go.Shelf
theorem RZ.client {w : World} {Z : Nat → Prop} : ∀ {l : List Con} {vs : List Value} {j : Nat} {y : Con}, RZ w Z l vs → l[j]? = some y → vs[j * 5 + 2]? = some (.int .i64 y.a.c) := by
  intro l
  induction l with
  | nil => intro vs j y _ h; simp at h
  | cons x r ih =>
    intro vs j y ⟨sv, rest, h1, _, h4⟩ h
    cases j with
    | zero => simp at h; subst h; rw [h1]; rfl
    | succ j =>
      have := ih h4 (by simpa using h)
      rw [h1, List.getElem?_append_right (by rw [enc_len]; omega), enc_len, show (j + 1) * 5 + 2 - 5 = j * 5 + 2 by omega]
      exact this
def hasB (x : Con) (c : Int) : Bool := (all x).any fun y => y.a.c == c
set_option maxHeartbeats 1000000 in
theorem Has_c (Z : Nat → Prop) (x : Con) (sv : Value) (c : Int) (w : World) (hK : KV w Z x.ks sv) (hd : (all x).length ≤ 1000000) (hZ : ∀ b, Z b → b < w.heap.size) :
    Calls Try.prog 52 #[conV x.a sv, .int .i64 c] w fun e w' => e = .returned (.bool (hasB x c)) ∧ Below w.heap.size w w' := by
  obtain ⟨p, cap, rfl, hl⟩ := hK.slice
  obtain ⟨m, hm⟩ : ∃ m, m = x.ks.length := ⟨_, rfl⟩
  rw [← hm] at hK ⊢
  obtain ⟨r, hr⟩ : ∃ r, r = hasB x c := ⟨_, rfl⟩
  rw [← hr]
  obtain ⟨R, hR⟩ : ∃ R, R = fun (e : Ending) (w' : World) => e = .returned (.bool r) ∧ Below w.heap.size w w' := ⟨_, rfl⟩
  have hRe : ∀ e w', R e w' ↔ (e = .returned (.bool r) ∧ Below w.heap.size w w') := by rw [hR]; exact fun _ _ => Iff.rfl
  rw [← hR]
  have HR := Lib.hid hRe
  have hb0 := (Below.refl w.heap.size w).alloc (Nat.le_refl _) (.cells #[.int .i64 x.a.k, .int .i64 x.a.w, .int .i64 x.a.c, .int .i64 x.a.s, .slice p m cap] 24)
  have HI := Lib.hid (All_c Z x (.slice p m cap) _ (hK.next hb0) hd (fun b h => Nat.lt_of_lt_of_le (hZ b h) hb0.size))
  have HB := Lib.hid hb0
  obtain ⟨l, hl2⟩ : ∃ l, l = all x := ⟨_, rfl⟩
  have HRR : Hid (r = l.any fun y => y.a.c == c) := by rw [hr, hl2]; rfl
  rw [← hl2] at HI hd
  clear hm hr hR hRe hb0 hK hZ hl hl2
  show Calls Try.prog 52 #[.agg #[.int .i64 x.a.k, .int .i64 x.a.w, .int .i64 x.a.c, .int .i64 x.a.s, .slice p m cap], .int .i64 c] w R
  go_enter Try.func52, Try.ntmps52
  go_wp2_with fail
  refine HI.out.mono ?_
  rintro e w1 ⟨hb, v, rfl, hrow⟩
  obtain ⟨pv, cv, rfl⟩ := hrow.slice
  have HB1 := Lib.hid (HB.out.trans (hb.mono HB.out.size))
  have HRO := Lib.hid hrow
  obtain ⟨n, hn⟩ : ∃ n, n = l.length := ⟨_, rfl⟩
  rw [← hn] at hd ⊢
  have HN := Lib.hid hn
  clear hb hrow HI hn
  go_wp2_with fail
  go_loopw [6] (fun z wr => ∃ i : Nat, i ≤ n ∧ z = .int .i64 i ∧ Asd (wr = w1) ∧ Asd ((l.take i).any (fun y => y.a.c == c) = false)) (fun z _ => n - (intOf z).toNat)
  case atStart => exact ⟨0, Nat.zero_le _, rfl, rfl, rfl⟩
  case round =>
    obtain ⟨k, hk, rfl, hwr, hs0⟩ := hrel
    have hwr : wr = w1 := hwr
    subst hwr
    have HSo := Lib.hid (show (l.take k).any (fun y => y.a.c == c) = false from hs0)
    clear hs0
    by_cases hlt : k < n
    · obtain ⟨y, hy⟩ : ∃ y, l[k]? = some y := ⟨_, List.getElem?_eq_getElem (by rw [← HN.out]; exact hlt)⟩
      obtain ⟨vs, ho, hz, -⟩ := HRO.out
      obtain ⟨g, cg, hgv, hg1, hg2⟩ := ho.form (by have := HN.out; omega)
      rw [← HN.out] at hgv
      injection hgv with e1 e2 e3
      subst e1
      have hc := ho.cells (g := g) rfl (k * 5 + 2) _ (hz.client hy)
      have hc : wr.cell? ⟨g, k * 5 + 2, none⟩ = some (.int .i64 y.a.c) := by simpa [Addr.add] using hc
      have hsn : (l.take (k + 1)).any (fun y => y.a.c == c) = (y.a.c == c) := by
        obtain ⟨h1, h2⟩ := List.getElem?_eq_some_iff.1 hy
        rw [List.take_succ_eq_append_getElem h1, List.any_append, HSo.out, h2]; simp
      have HSN := Lib.hid hsn
      have HY := Lib.hid hy
      clear ho hz hg1 hg2 hsn hy
      by_cases hyc : y.a.c = c
      · have hye : (y.a.c == c) = true := by simpa using hyc
        have HT : Hid (r = true) := by
          rw [HRR.out, List.any_eq_true]
          exact ⟨y, List.mem_of_getElem? HY.out, hye⟩
        clear hyc
        go_wp2_with fail
        refine (HR.out _ _).2 ⟨?_, HB1.out⟩
        rw [HT.out]
      · have hye : (y.a.c == c) = false := by simpa using hyc
        clear hyc
        go_wp2_with fail
        refine ⟨⟨k + 1, by omega, by go_num, trivial, ?_⟩, by simp [intOf]; omega⟩
        show (l.take (k + 1)).any (fun y => y.a.c == c) = false
        rw [HSN.out]
        exact hye
    · have HT : Hid (r = false) := by
        have h := HSo.out
        rw [List.take_of_length_le (by have := HN.out; omega)] at h
        exact HRR.out.trans h
      go_wp2_with fail
      refine (HR.out _ _).2 ⟨?_, HB1.out⟩
      rw [HT.out]
end Go.Proofs.Ytjeabkcbaielhaa.Co
