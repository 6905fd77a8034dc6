/- Texts SuW. -/
import Derived.Test.YtnhchpiafchdgaaGreatTbd
import Derived.Test.YtnhchpiafchdgaaGreatTaa
namespace Go.Proofs.YtnhchpiafchdgaaGreat
open Go.RowKit Go.Shelf Go.Maps
theorem ints8_same (va vb : Value) (ks : List Int) (w : World) (ha : RdI w va ks) (hb : RdI w vb ks) (hl : ks.length ≤ 1048576) : Calls Tryz.prog 25 #[va, vb] w fun e w' => e = .returned (.bool true) ∧ Below w.heap.size w w' := by
 have h := ints_c va vb ks ks w ha hb hl hl
 rw [show decide (ks = ks) = true by simp] at h
 exact h
theorem IsA8.wide {w : World} {B B' : Nat} {v : Value} {ts : List A8} (h : IsA8 B w v ts) (hB : B ≤ B') : IsA8 B' w v ts := by
 obtain ⟨p, c, h1, h2, h3⟩ := h
 refine ⟨p, c, h1, h2, fun j t hu => ?_⟩
 obtain ⟨b, o, h4, h5, h6⟩ := h3 j t hu
 exact ⟨b, o, h4, Nat.lt_of_lt_of_le h5 hB, h6⟩
section
variable {X : Xs} {k : Nat} {R : RT} {L : List Win}
theorem win_mem (hS : Good R L) {v : Win} (hv : v ∈ L) : winL R L v.id = v ∧ thereL R L v.id = true := by
 have h0 : v.id ≠ 0 := by have := (hS.pos v hv).1; omega
 have h1 : getR R L v.id = some v := by unfold getR; rw [if_neg h0]; exact hS.find hv
 unfold winL thereL ndL
 rw [h1]
 exact ⟨rfl, rfl⟩
theorem mem_put {f : Win → Win} {i : Int} {v : Win} (hv : v ∈ L) (hn : v.id ≠ i) : v ∈ putW f i L := by
 unfold putW
 split
 · exact hv
 · next j hj =>
   split
   · exact hv
   · next u hu =>
     obtain ⟨u', h1, h2, _⟩ := placeN_get L j hj
     rw [hu] at h1
     injection h1 with h1
     subst h1
     obtain ⟨m, hm⟩ := List.getElem?_of_mem hv
     have hne : j ≠ m := by
      rintro rfl
      rw [hu] at hm
      injection hm with hm
      subst hm
      exact hn h2
     exact List.mem_of_getElem? ((List.getElem?_set_ne hne).trans hm)
def KeptI (i : Int) (L L' : List Win) : Prop := ∀ v ∈ L, inL L' v.id ∧ (v.id ≠ i → v ∈ L')
theorem KeptI.same (i : Int) (L : List Win) : KeptI i L L := fun v hv => ⟨⟨v, hv, rfl⟩, fun _ => hv⟩
theorem kept_map (on : Bool) (i : Int) (L : List Win) : KeptI i L (tMap on i L).1 := fun v hv => ⟨(inL_map on i L v.id).2 ⟨v, hv, rfl⟩, fun hn => by
 unfold tMap
 split
 · exact hv
 · exact mem_put hv hn⟩
theorem kept_conf (i x y a e : Int) (L : List Win) : KeptI i L (tConf i x y a e L).1 := fun v hv => ⟨(inL_conf i x y a e L v.id).2 ⟨v, hv, rfl⟩, fun hn => by
 unfold tConf
 split
 · exact hv
 · split
   · exact hv
   · exact mem_put hv hn⟩
theorem kept_raise (i : Int) (L : List Win) : KeptI i L (tRaise i L).1 := fun v hv => ⟨(inL_raise i L v.id).2 ⟨v, hv, rfl⟩, fun hn => by
 unfold tRaise
 split
 · exact hv
 · dsimp only
   split
   · exact hv
   · exact List.mem_append_left _ (drop_mem.2 ⟨hv, hn⟩)⟩
theorem kept_lower (i : Int) (L : List Win) : KeptI i L (tLower i L).1 := fun v hv => ⟨(inL_lower i L v.id).2 ⟨v, hv, rfl⟩, fun hn => by
 unfold tLower
 split
 · exact hv
 · dsimp only
   split
   · exact hv
   · exact List.mem_cons_of_mem _ (drop_mem.2 ⟨hv, hn⟩)⟩
theorem tell_L (X : Xs) (e : Ev) : (X.tell e).L = X.L := by unfold Xs.tell; split <;> rfl
theorem look_L (X : Xs) : X.look.L = X.L := by unfold Xs.look; split <;> rfl
theorem kept_own (X : Xs) (a : Int) (q : Rq) (h2 : q.kind ≠ 2) : KeptI q.win X.L (X.own a q).2.L := by
 unfold Xs.own
 rw [if_neg h2]
 split
 · dsimp only
   split
   · rw [tell_L]
     split <;> exact KeptI.same _ _
   · split <;> exact KeptI.same _ _
 · split
   · exact kept_map _ _ _
   · split
     · split
       · rw [tell_L]; exact KeptI.same _ _
       · split
         · split
           · exact KeptI.same _ _
           · rw [tell_L]; exact KeptI.same _ _
         · exact KeptI.same _ _
     · split
       · exact kept_map _ _ _
       · split
         · exact kept_conf _ _ _ _ _ _
         · split
           · exact kept_raise _ _
           · exact kept_lower _ _
def KeptO (X : Xs) (a : Int) (L' : List Win) : Prop := ∀ v ∈ X.L, inL L' v.id ∧ (ownM v.id X.M ≠ a → v ∈ L')
theorem KeptO.same (X : Xs) (a : Int) : KeptO X a X.L := fun v hv => ⟨⟨v, hv, rfl⟩, fun _ => hv⟩
theorem kept_do (X : Xs) {a : Int} (h1 : 1 ≤ a) (q : Rq) (h2 : q.kind ≠ 2) : KeptO X a (X.do a q).2.2.L := by
 unfold Xs.do
 split
 · exact KeptO.same X a
 · split
   · unfold Xs.create
     split
     · exact KeptO.same X a
     · dsimp only
       split
       · unfold tCreate
         dsimp only
         split
         · exact KeptO.same X a
         · split
           · exact KeptO.same X a
           · exact fun v hv => ⟨⟨v, List.mem_append_left _ hv, rfl⟩, fun _ => List.mem_append_left _ hv⟩
       · exact KeptO.same X a
   · dsimp only
     rw [look_L]
     unfold Xs.other
     split
     · unfold Xs.manage
       rw [if_pos (by omega)]
       exact KeptO.same X a
     · unfold Xs.change
       split
       · exact KeptO.same X a
       · split
         · exact KeptO.same X a
         · split
           · exact KeptO.same X a
           · next ho =>
             have hoa : ownM q.win X.M = a := by
              by_cases e : ownM q.win X.M = a
              · exact e
              · exact absurd ⟨by omega, e⟩ ho
             intro v hv
             obtain ⟨h3, h4⟩ := kept_own X a q h2 v hv
             exact ⟨h3, fun hn => h4 fun e => hn (by rw [e, hoa])⟩
theorem own_pure (h : V X k) (hk : k + 1 ≤ 1000) {a : Int} (ha : I64 a) (h1 : 1 ≤ a) (q : Rq) (hi : I64 q.win) (ho : I64 q.other) (h2 : q.kind ≠ 2) {v : Win} (hv : v ∈ X.L) :
  thereL (X.do a q).2.2.R (X.do a q).2.2.L v.id = true ∧ (ownM v.id X.M ≠ a → winL (X.do a q).2.2.R (X.do a q).2.2.L v.id = v) := by
 have hV := h.done hk ha q hi ho
 obtain ⟨h3, h4⟩ := kept_do X h1 q h2 v hv
 exact ⟨(there_iff _ _ _).2 (.inr h3), fun hn => (win_mem hV.s.toGood (h4 hn)).1⟩
end
end Go.Proofs.YtnhchpiafchdgaaGreat
