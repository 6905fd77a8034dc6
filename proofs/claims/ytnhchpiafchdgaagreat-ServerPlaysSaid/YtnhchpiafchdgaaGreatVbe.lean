/- Texts SuW. -/
import Derived.Test.YtnhchpiafchdgaaGreatVbd
import Derived.Test.YtnhchpiafchdgaaGreatTaa
namespace Go.Proofs.YtnhchpiafchdgaaGreat
open Go.RowKit Go.Shelf Go.Maps
theorem ints8_same (va vb : Value) (ks : List Int) (w : World) (ha : RdI w va ks) (hb : RdI w vb ks) (hl : ks.length ≤ 1048576) : Calls Tryz.prog 25 #[va, vb] w fun e w' => e = .returned (.bool true) ∧ Below w.heap.size w w' := by
 have h := ints_c va vb ks ks w ha hb hl hl
 rw [show decide (ks = ks) = true by simp] at h
 exact h
theorem IsA8.wide {w : World} {B B' : Nat} {v : Value} {ts : List A8} (h : IsA8 B w v ts) (hB : B ≤ B') : IsA8 B' w v ts := by
 obtain ⟨p, c, h1, h2, h3⟩ := h
 refine ⟨p, c, h1, h2, fun j t hu => ?_⟩
 obtain ⟨b, o, h4, h5, h6⟩ := h3 j t hu
 exact ⟨b, o, h4, Nat.lt_of_lt_of_le h5 hB, h6⟩
section
variable {X : Xs} {k : Nat} {R : RT} {L : List Win}
def KeptI (i : Int) (L L' : List Win) : Prop := ∀ v ∈ L, inL L' v.id ∧ (v.id ≠ i → v ∈ L')
theorem KeptI.same (i : Int) (L : List Win) : KeptI i L L := fun v hv => ⟨⟨v, hv, rfl⟩, fun _ => hv⟩
def KeptO (X : Xs) (a : Int) (L' : List Win) : Prop := ∀ v ∈ X.L, inL L' v.id ∧ (ownM v.id X.M ≠ a → v ∈ L')
theorem KeptO.same (X : Xs) (a : Int) : KeptO X a X.L := fun v hv => ⟨⟨v, hv, rfl⟩, fun _ => hv⟩
end
end Go.Proofs.YtnhchpiafchdgaaGreat
