/- The document's Check. -/
import Derived.Test.YtjeabkcbaielhaaCpP
import Derived.Test.YtjeabkcbaielhaaCoH
namespace Go.Proofs.Ytjeabkcbaielhaa.Co
open Go.RowKit Go.Shelf
/-- The client at a place. -/
def ctA (l : List Con) (j : Nat) : Int := ((l[j]?).map fun y => y.a.c).getD 0
theorem ctA_of {l : List Con} {j : Nat} (h : j < l.length) : ctA l j = (l.map fun y => y.a.c)[j]'(by simpa using h) := by simp [ctA, h]
theorem nodup_ct (l : List Con) : (l.map fun y => y.a.c).Nodup ↔ ∀ a b, a < b → b < l.length → ctA l a ≠ ctA l b := by
  unfold List.Nodup
  rw [List.pairwise_iff_getElem]
  constructor
  · intro h a b hab hb
    rw [ctA_of (by omega), ctA_of hb]
    exact h a b (by simp; omega) (by simpa using hb) hab
  · intro h a b ha hb hab
    have := h a b hab (by simpa using hb)
    rwa [ctA_of (by simpa using ha), ctA_of (by simpa using hb)] at this
theorem checkI_bad {x : Con} (h : shape x 0 = false ∨ ¬ ((all x).map fun y => y.a.c).Nodup ∨ 128 < (all x).length) : checkI x = 110 := by
  unfold checkI treeB
  rw [show clients x = (all x).map fun y => y.a.c from rfl]
  rcases h with h | h | h
  · simp [h]
  · simp [h]
  · rw [decide_eq_false (p := (all x).length ≤ 128) (by omega)]; simp
theorem checkI_good {x : Con} (h : shape x 0 = true) (h2 : ((all x).map fun y => y.a.c).Nodup) (h3 : (all x).length ≤ 128) : checkI x = 0 := by
  unfold checkI treeB
  rw [show clients x = (all x).map fun y => y.a.c from rfl]
  simp [h, h2, h3]
/-- The clients of a row, as they lie. -/
def CL (l : List Con) (pv : Option Addr) (w : World) : Prop := ∀ j, j < l.length → ∃ g, pv = some ⟨g, 0, none⟩ ∧ w.cell? ⟨g, j * 5 + 2, none⟩ = some (.int .i64 (ctA l j))
theorem RowR.cl {Z : Nat → Prop} {B : Nat} {l : List Con} {p : Option Addr} {c : Nat} {w : World} (h : RowR Z B l (.slice p l.length c) w) : CL l p w := fun j hj => by
  obtain ⟨vs, ho, hz, -⟩ := h
  obtain ⟨g, cg, hgv, hg1, hg2⟩ := ho.form (by omega)
  injection hgv with e1 e2 e3
  subst e1
  obtain ⟨y, hy⟩ : ∃ y, l[j]? = some y := ⟨_, List.getElem?_eq_getElem hj⟩
  have hc := ho.cells (g := g) rfl (j * 5 + 2) _ (hz.client hy)
  refine ⟨g, rfl, ?_⟩
  rw [show ctA l j = y.a.c by unfold ctA; rw [hy]; rfl]
  simpa [Addr.add] using hc
set_option maxHeartbeats 1000000 in
theorem CheckR_c (Z : Nat → Prop) (x : Con) (sv : Value) (w : World) (hK : KV w Z x.ks sv) (hd : (all x).length ≤ 1000000) (hZ : ∀ b, Z b → b < w.heap.size) :
    Calls Try.prog 20 #[conV x.a sv] w fun e w' => e = .returned (.int .i64 (checkI x)) ∧ Below w.heap.size w w' := by
  obtain ⟨p, cap, rfl, hl⟩ := hK.slice
  obtain ⟨m, hm⟩ : ∃ m, m = x.ks.length := ⟨_, rfl⟩
  rw [← hm] at hK ⊢
  obtain ⟨r, hr⟩ : ∃ r, r = checkI x := ⟨_, rfl⟩
  rw [← hr]
  obtain ⟨R, hR⟩ : ∃ R, R = fun (e : Ending) (w' : World) => e = .returned (.int .i64 r) ∧ Below w.heap.size w w' := ⟨_, rfl⟩
  have hRe : ∀ e w', R e w' ↔ (e = .returned (.int .i64 r) ∧ Below w.heap.size w w') := by rw [hR]; exact fun _ _ => Iff.rfl
  rw [← hR]
  have HR := Lib.hid hRe
  obtain ⟨wB, hwB⟩ : ∃ wB, wB = w.alloc (.cells #[.int .i64 x.a.k, .int .i64 x.a.w, .int .i64 x.a.c, .int .i64 x.a.s, .slice p m cap] 24) := ⟨_, rfl⟩
  have hb0 : Below w.heap.size w wB := by rw [hwB]; exact (Below.refl w.heap.size w).alloc (Nat.le_refl _) _
  have hq0 : Blk wB w.heap.size 24 #[.int .i64 x.a.k, .int .i64 x.a.w, .int .i64 x.a.c, .int .i64 x.a.s, .slice p m cap] := by rw [hwB]; exact Blk.new _ _ _
  have HS : Hid (Calls Try.prog 59 #[conV x.a (.slice p m cap), .int .i64 0] wB fun e w' => e = .returned (.bool (shape x 0)) ∧ Below wB.heap.size wB w') := shape_c Z x (.slice p m cap) 0 wB (hK.next hb0) (by omega)
  have HI := Lib.hid (fun (w1 : World) (h : Below wB.heap.size wB w1) => All_c Z x (.slice p m cap) w1 ((hK.next hb0).next h) hd (fun b hb => Nat.lt_of_lt_of_le (Nat.lt_of_lt_of_le (hZ b hb) hb0.size) h.size))
  have HB := Lib.hid hb0
  have HQ := Lib.hid hq0
  have HWB := Lib.hid hwB
  cases hsh : shape x 0
  · have HT : Hid (r = 110) := by rw [hr]; exact checkI_bad (.inl hsh)
    rw [hsh] at HS
    clear hm hr hR hRe hb0 hK hZ hl hd hsh hwB hq0 HI
    show Calls Try.prog 20 #[.agg #[.int .i64 x.a.k, .int .i64 x.a.w, .int .i64 x.a.c, .int .i64 x.a.s, .slice p m cap]] w R
    go_enter Try.func20, Try.ntmps20
    go_wp2_with fail
    rw [← HWB.out]
    refine HS.out.mono ?_
    rintro e w1 ⟨rfl, hb⟩
    have HB1 := Lib.hid (HB.out.trans (hb.mono HB.out.size))
    clear hb
    go_wp2_with fail
    refine (HR.out _ _).2 ⟨?_, HB1.out⟩
    rw [HT.out]; rfl
  · rw [hsh] at HS
    obtain ⟨l, hl2⟩ : ∃ l, l = all x := ⟨_, rfl⟩
    have HBAD : Hid ((¬ (∀ a b, a < b → b < l.length → ctA l a ≠ ctA l b) ∨ 128 < l.length) → r = 110) := fun h => by
      rw [hr]; exact checkI_bad (.inr (by rw [← hl2, nodup_ct]; exact h))
    have HGOOD : Hid ((∀ a b, a < b → b < l.length → ctA l a ≠ ctA l b) → l.length ≤ 128 → r = 0) := fun h h2 => by
      rw [hr]; exact checkI_good hsh (by rw [← hl2, nodup_ct]; exact h) (by rw [← hl2]; exact h2)
    rw [← hl2] at HI hd
    clear hm hr hR hRe hb0 hK hZ hl hsh hwB hq0 hl2
    show Calls Try.prog 20 #[.agg #[.int .i64 x.a.k, .int .i64 x.a.w, .int .i64 x.a.c, .int .i64 x.a.s, .slice p m cap]] w R
    go_enter Try.func20, Try.ntmps20
    go_wp2_with fail
    rw [← HWB.out]
    refine HS.out.mono ?_
    rintro e w1 ⟨rfl, hb⟩
    have HB1 := Lib.hid (HB.out.trans (hb.mono HB.out.size))
    have HI1 := Lib.hid (HI.out w1 hb)
    have hq1 := HQ.out.next hb
    obtain ⟨q0, q1, q2, q3, q4⟩ := (show w1.cell? ⟨w.heap.size, 0, none⟩ = _ ∧ w1.cell? ⟨w.heap.size, 1, none⟩ = _ ∧ w1.cell? ⟨w.heap.size, 2, none⟩ = _ ∧ w1.cell? ⟨w.heap.size, 3, none⟩ = _ ∧ w1.cell? ⟨w.heap.size, 4, none⟩ = _ from ⟨hq1.at_ (i := 0) rfl, hq1.at_ (i := 1) rfl, hq1.at_ (i := 2) rfl, hq1.at_ (i := 3) rfl, hq1.at_ (i := 4) rfl⟩)
    clear hb hq1
    go_wp2_with fail
    refine HI1.out.mono ?_
    rintro e w2 ⟨hb, v, rfl, hrow⟩
    obtain ⟨pv, cv, rfl⟩ := hrow.slice
    have HB2 := Lib.hid (HB1.out.trans (hb.mono HB1.out.size))
    have hcl : CL l pv w2 := hrow.cl
    obtain ⟨n, hn⟩ : ∃ n, n = l.length := ⟨_, rfl⟩
    rw [← hn] at hd ⊢
    have HN := Lib.hid hn
    clear hb hrow HI HI1 hn q0 q1 q2 q3 q4
    go_wp2_with fail
    go_loopw [4] (fun z wr => ∃ i : Nat, i ≤ n ∧ z = .int .i64 i ∧ Below w.heap.size w wr ∧ CL l pv wr ∧ Asd (∀ a b, a < b → b < i → ctA l a ≠ ctA l b)) (fun z _ => n - (intOf z).toNat)
    case atStart => exact ⟨0, Nat.zero_le _, rfl, HB2.out, hcl, fun a b _ h => absurd h (Nat.not_lt_zero _)⟩
    case round =>
      clear hcl HB2
      obtain ⟨k, hk, rfl, hW, hcl, hs0⟩ := hrel
      have HSo := Lib.hid (show ∀ a b, a < b → b < k → ctA l a ≠ ctA l b from hs0)
      have HB2 := Lib.hid hW
      clear hs0 hW
      by_cases hlt : k < n
      · go_wp2_with fail
        go_loopw [5] (fun z wq => ∃ j : Nat, j ≤ k ∧ z = .int .i64 j ∧ Below w.heap.size w wq ∧ CL l pv wq ∧ Asd (∀ q, q < j → ctA l q ≠ ctA l k)) (fun z _ => k - (intOf z).toNat)
        case atStart => exact ⟨0, Nat.zero_le _, rfl, HB2.out, hcl, fun q h => absurd h (Nat.not_lt_zero _)⟩
        case round =>
          clear hcl HB2
          obtain ⟨j, hj, rfl, hW, hcl, hs1⟩ := hrel
          have HS1 := Lib.hid (show ∀ q, q < j → ctA l q ≠ ctA l k from hs1)
          have HB2 := Lib.hid hW
          have HCL := Lib.hid hcl
          clear hs1 hW
          by_cases hjk : j < k
          · obtain ⟨g, rfl, ck⟩ := hcl k (by have := HN.out; omega)
            obtain ⟨g', e, cj⟩ := hcl j (by have := HN.out; omega)
            injection e with e
            injection e with e
            subst e
            clear hcl
            have hjn : j < n := by omega
            by_cases hc : ctA l k = ctA l j
            · have hce : (ctA l k == ctA l j) = true := by simpa using hc
              have HZ0 : Hid (r = 110) := HBAD.out (.inl fun h => h j k hjk (by have := HN.out; omega) hc.symm)
              clear hc
              go_wp2_with fail
              go_quiet (fail)
              go_wp2_with fail
              refine (HR.out _ _).2 ⟨?_, below_drewN HB2.out _⟩
              rw [HZ0.out]; rfl
            · have hce : (ctA l k == ctA l j) = false := by simpa using hc
              have HNE := Lib.hid hc
              clear hc
              go_wp2_with fail
              go_quiet (fail)
              go_wp2_with fail
              refine ⟨⟨j + 1, by omega, by go_num, below_drewN HB2.out _, fun i hi => HCL.out i hi, ?_⟩, by simp [intOf]; omega⟩
              show ∀ q, q < j + 1 → ctA l q ≠ ctA l k
              intro q hq e
              by_cases hqj : q = j
              · subst hqj; exact HNE.out e.symm
              · exact HS1.out q (by omega) e
          · clear hcl
            go_wp2_with fail
            refine ⟨⟨k + 1, by omega, by go_num, HB2.out, HCL.out, ?_⟩, by simp [intOf]; omega⟩
            show ∀ a b, a < b → b < k + 1 → ctA l a ≠ ctA l b
            intro a b h1 h2
            by_cases hbk : b = k
            · subst hbk; exact HS1.out a (by omega)
            · exact HSo.out a b h1 (by omega)
      · have HT : Hid (∀ a b, a < b → b < l.length → ctA l a ≠ ctA l b) := fun a b h1 h2 => HSo.out a b h1 (by have := HN.out; omega)
        by_cases h128 : n ≤ 128
        · have HZ0 : Hid (r = 0) := HGOOD.out HT.out (by have := HN.out; omega)
          go_wp2_with fail
          refine (HR.out _ _).2 ⟨?_, HB2.out⟩
          rw [HZ0.out]; rfl
        · have HZ0 : Hid (r = 110) := HBAD.out (.inr (by have := HN.out; omega))
          go_wp2_with fail
          refine (HR.out _ _).2 ⟨?_, HB2.out⟩
          rw [HZ0.out]; rfl
end Go.Proofs.Ytjeabkcbaielhaa.Co
