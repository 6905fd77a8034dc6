/- Texts SwD. -/
import Derived.Test.YtnhchpiafchdgaaGreatTbf
import Derived.Test.YtnhchpiafchdgaaGreatTaa
namespace Go.Proofs.YtnhchpiafchdgaaGreat
open Go.RowKit Go.Shelf Go.Maps
section
variable {X : Xs} {k : Nat} {id : Int}
def evA (id : Int) : Ev := ⟨1, id, 0, 0, 0, 0, noText⟩
def evB (id : Int) : Ev := ⟨2, id, 1, 2, 3, 4, noText⟩
def evJ (id : Int) : Nat → List Ev
 | 0 => []
 | 1 => [evA id]
 | _ => [evA id, evB id]
def Xs.at (X : Xs) (id : Int) (j : Nat) : Xs := { X with E := evJ id j }
def rqA (kind id : Int) : Rq := ⟨kind, id, 0, 1, 2, 3, 4, ⟨noText, noText, noText⟩⟩
theorem V.at (h : V X k) (id : Int) (j : Nat) : V (X.at id j) k := by
 refine ⟨⟨h.s, h.up, h.same, h.own, ?_, h.h, h.hl, h.f64⟩, h.foc⟩
 show (evJ id j).length ≤ 4096
 match j with
 | 0 => simp [evJ]
 | 1 => simp [evJ]
 | j + 2 => simp [evJ]
theorem look_same (h : V X k) : X.look = X := by
 unfold Xs.look
 rw [if_neg]
 rintro ⟨h1, h2⟩
 rcases h.foc with h3 | h3
 · exact h1 h3
 · rw [h3] at h2
   cases h2
structure Rt (X : Xs) (id : Int) : Prop where
 g : X.G = true
 v : ∃ v ∈ X.L, v.id = id ∧ v.par = 0
 o : 1 ≤ ownM id X.M
theorem Rt.win (h : Rt X id) (hV : V X k) : (winL X.R X.L id).par = 0 ∧ thereL X.R X.L id = true ∧ id ≠ 0 := by
 obtain ⟨v, hv, rfl, hp⟩ := h.v
 obtain ⟨h1, h2⟩ := win_mem hV.s.toGood hv
 have := (hV.s.pos v hv).1
 exact ⟨by rw [h1]; exact hp, h2, by omega⟩
theorem ask_do (h : Rt X id) (hV : V X k) (kind : Int) (hk : kind = 3 ∨ kind = 5 ∨ kind = 6 ∨ kind = 7) :
  X.do (ownM id X.M) (rqA kind id) = (0, (X.own (ownM id X.M) (rqA kind id)).1, (X.own (ownM id X.M) (rqA kind id)).2.look) := by
 obtain ⟨h1, h2, h3⟩ := h.win hV
 have h4 := h.o
 have hw : X.wrong (ownM id X.M) (rqA kind id).kind = false := by
  unfold Xs.wrong rqA
  simp only [Bool.or_eq_false_iff, decide_eq_false_iff_not, Bool.and_eq_false_iff]
  refine ⟨⟨⟨by omega, .inl (by omega)⟩, ?_⟩, ?_⟩
  · omega
  · omega
 have hk1 : ¬ (rqA kind id).kind = 1 := by unfold rqA; dsimp only; omega
 unfold Xs.do
 rw [hw, if_neg (by decide), if_neg hk1]
 have hm : isManage (rqA kind id).kind = false := by
  unfold isManage rqA
  rcases hk with rfl | rfl | rfl | rfl <;> rfl
 unfold Xs.other
 rw [hm, if_neg (by decide)]
 unfold Xs.change
 rw [if_neg (show ¬ thereL X.R X.L (rqA kind id).win = false by show ¬ thereL X.R X.L id = false; rw [h2]; decide), if_neg (show ¬ (rqA kind id).win = 0 from h3), if_neg (show ¬ (ownM id X.M ≠ 0 ∧ ownM (rqA kind id).win X.M ≠ ownM id X.M) from fun h => h.2 rfl)]
theorem ask_asks (h : Rt X id) (hV : V X k) : X.asks (ownM id X.M) id = true := by
 obtain ⟨h1, h2, h3⟩ := h.win hV
 have h4 := h.o
 unfold Xs.asks
 rw [h1, h.g]
 simp
 omega
theorem ask_map (h : Rt X id) (hV : V X k) (he : X.E = []) : X.do (ownM id X.M) (rqA 3 id) = (0, 0, X.at id 1) := by
 have hl := look_same (hV.at id 1)
 rw [ask_do h hV 3 (.inl rfl)]
 have e : X.own (ownM id X.M) (rqA 3 id) = (0, X.at id 1) := by
  unfold Xs.own
  rw [if_neg (show ¬ (rqA 3 id).kind = 2 by show ¬ (3 : Int) = 2; decide), if_neg (show ¬ (rqA 3 id).kind = 10 by show ¬ (3 : Int) = 10; decide), if_neg (show ¬ (rqA 3 id).kind = 4 by show ¬ (3 : Int) = 4; decide), if_pos (show X.asks (ownM id X.M) (rqA 3 id).win = true from ask_asks h hV), if_pos (show (rqA 3 id).kind = 3 from rfl)]
  unfold Xs.tell
  rw [if_pos ⟨h.g, by rw [he]; decide⟩, he]
  rfl
 rw [e, hl]
theorem ask_move (h : Rt X id) (hV : V X k) (he : X.E = [evA id]) : X.do (ownM id X.M) (rqA 5 id) = (0, 0, X.at id 2) := by
 have hl := look_same (hV.at id 2)
 rw [ask_do h hV 5 (.inr (.inl rfl))]
 have e : X.own (ownM id X.M) (rqA 5 id) = (0, X.at id 2) := by
  unfold Xs.own
  rw [if_neg (show ¬ (rqA 5 id).kind = 2 by show ¬ (5 : Int) = 2; decide), if_neg (show ¬ (rqA 5 id).kind = 10 by show ¬ (5 : Int) = 10; decide), if_neg (show ¬ (rqA 5 id).kind = 4 by show ¬ (5 : Int) = 4; decide), if_pos (show X.asks (ownM id X.M) (rqA 5 id).win = true from ask_asks h hV), if_neg (show ¬ (rqA 5 id).kind = 3 by show ¬ (5 : Int) = 3; decide), if_pos (show (rqA 5 id).kind = 5 from rfl), if_neg (show ¬ rightB (rqA 5 id).x (rqA 5 id).y (rqA 5 id).a (rqA 5 id).e = false by show ¬ rightB 1 2 3 4 = false; decide)]
  unfold Xs.tell
  rw [if_pos ⟨h.g, by rw [he]; show 1 < 4096; decide⟩, he]
  rfl
 rw [e, hl]
theorem ask_no (h : Rt X id) (hV : V X k) {kind : Int} (hk : kind = 6 ∨ kind = 7) : X.do (ownM id X.M) (rqA kind id) = (0, 80, X) := by
 have hl := look_same hV
 rw [ask_do h hV kind (by rcases hk with rfl | rfl <;> simp)]
 have e : X.own (ownM id X.M) (rqA kind id) = (80, X) := by
  unfold Xs.own
  rcases hk with rfl | rfl
  · rw [if_neg (show ¬ (rqA 6 id).kind = 2 by show ¬ (6 : Int) = 2; decide), if_neg (show ¬ (rqA 6 id).kind = 10 by show ¬ (6 : Int) = 10; decide), if_neg (show ¬ (rqA 6 id).kind = 4 by show ¬ (6 : Int) = 4; decide), if_pos (show X.asks (ownM id X.M) (rqA 6 id).win = true from ask_asks h hV), if_neg (show ¬ (rqA 6 id).kind = 3 by show ¬ (6 : Int) = 3; decide), if_neg (show ¬ (rqA 6 id).kind = 5 by show ¬ (6 : Int) = 5; decide)]
  · rw [if_neg (show ¬ (rqA 7 id).kind = 2 by show ¬ (7 : Int) = 2; decide), if_neg (show ¬ (rqA 7 id).kind = 10 by show ¬ (7 : Int) = 10; decide), if_neg (show ¬ (rqA 7 id).kind = 4 by show ¬ (7 : Int) = 4; decide), if_pos (show X.asks (ownM id X.M) (rqA 7 id).win = true from ask_asks h hV), if_neg (show ¬ (rqA 7 id).kind = 3 by show ¬ (7 : Int) = 3; decide), if_neg (show ¬ (rqA 7 id).kind = 5 by show ¬ (7 : Int) = 5; decide)]
 rw [e, hl]
theorem Rt.at (h : Rt X id) (j : Nat) : Rt (X.at id j) id := ⟨h.g, h.v, h.o⟩
theorem rt_of (hV : V X k) (hg : X.G = true) {id : Int} (hid : id ∈ kidsL X.L 0) (ho : ¬ ownM id X.M = 0) : Rt X id := by
 have h1 : ∃ v ∈ X.L, v.id = id ∧ v.par = 0 := by
  unfold kidsL at hid
  obtain ⟨v, hv, rfl⟩ := List.mem_map.1 hid
  rw [List.mem_filter] at hv
  exact ⟨v, hv.1, rfl, by simpa using hv.2⟩
 refine ⟨hg, h1, ?_⟩
 obtain ⟨v, hv, rfl, -⟩ := h1
 obtain ⟨m, hf, h3, h4⟩ := mfind_some ((hV.same v.id).1 ⟨v, hv, rfl⟩)
 rw [own_of hf] at ho ⊢
 have := (hV.own m h3).1
 omega
end
end Go.Proofs.YtnhchpiafchdgaaGreat
