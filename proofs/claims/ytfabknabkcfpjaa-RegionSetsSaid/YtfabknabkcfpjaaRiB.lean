/- The chapter's examples, told of the places. No walk. -/
import Derived.Test.YtfabknabkcfpjaaRhT
namespace Go.Proofs.Ytfabknabkcfpjaa
def wkA : List Rc := [⟨0, 0, 2, 2⟩, ⟨2, 0, 2, 2⟩]
def wkB : List Rc := [⟨0, 0, 3, 3⟩]
def wkC : List Rc := [⟨1, 1, 1, 1⟩]
def wkD : List Sd := [⟨0, 1, 0, ⟨0, 0, 3, 3⟩⟩, ⟨1, 1, 1, ⟨1, 1, 1, 1⟩⟩, ⟨2, -1, 1, ⟨1, 1, 1, 1⟩⟩, ⟨3, -1, 0, ⟨0, 0, 3, 3⟩⟩]
theorem wkD_perm : wkD.Perm (sidesK 0 wkB ++ sidesK 1 wkC) := by
  have e : sidesK 0 wkB ++ sidesK 1 wkC = (⟨0, 1, 0, ⟨0, 0, 3, 3⟩⟩ : Sd) :: ([⟨3, -1, 0, ⟨0, 0, 3, 3⟩⟩] ++ [⟨1, 1, 1, ⟨1, 1, 1, 1⟩⟩, ⟨2, -1, 1, ⟨1, 1, 1, 1⟩⟩]) := by kernel_rfl
  rw [e]
  exact List.Perm.cons _ (List.perm_append_comm (l₁ := [(⟨1, 1, 1, ⟨1, 1, 1, 1⟩⟩ : Sd), ⟨2, -1, 1, ⟨1, 1, 1, 1⟩⟩]) (l₂ := [(⟨3, -1, 0, ⟨0, 0, 3, 3⟩⟩ : Sd)]))
theorem ok_wkA : Ok wkA := ⟨by decide, by decide +kernel⟩
theorem ok_wkB : Ok wkB := ⟨by decide, by decide +kernel⟩
theorem ok_wkC : Ok wkC := ⟨by decide, by decide +kernel⟩
theorem told_wk1 {k : Int} {L : List Rc} (h : Told rlU wkA [] k L) : k = 0 ∧ L = [⟨0, 0, 4, 2⟩] := by
  refine h.known ok_wkA Ok.nil ?_ (by decide)
  have hF := cmb_form rlU rfl wkA [] ok_wkA.2 Ok.nil.2 (sidesK 0 wkA ++ sidesK 1 []) [0, 2] (List.Perm.refl _) (by decide +kernel) (by decide) (fun y => by
    have e : cutsL (sidesK 0 wkA ++ sidesK 1 []) = [0, 2, 0, 2, 0, 2, 0, 2] := by decide +kernel
    rw [e]; simp; omega)
  have e : ((cmbF rlU (sidesK 0 wkA ++ sidesK 1 []) [0, 2] ([(0 : Int), 2].length - 1)).rs.map tp) = [(⟨0, 0, 4, 2⟩ : Rc)].map tp := by decide +kernel
  rwa [e] at hF
theorem told_wk2 {k : Int} {L : List Rc} (h : Told rlS wkB wkC k L) : k = 0 ∧ L = [⟨0, 0, 3, 1⟩, ⟨0, 1, 1, 1⟩, ⟨2, 1, 1, 1⟩, ⟨0, 2, 3, 1⟩] := by
  refine h.known ok_wkB ok_wkC ?_ (by decide)
  have hF := cmb_form rlS rfl wkB wkC ok_wkB.2 ok_wkC.2 wkD [0, 1, 2, 3] wkD_perm (by decide +kernel) (by decide) (fun y => by
    have e : cutsL wkD = [0, 3, 1, 2, 1, 2, 0, 3] := by decide +kernel
    rw [e]; simp; omega)
  have e : ((cmbF rlS wkD [0, 1, 2, 3] ([(0 : Int), 1, 2, 3].length - 1)).rs.map tp) = [(⟨0, 0, 3, 1⟩ : Rc), ⟨0, 1, 1, 1⟩, ⟨2, 1, 1, 1⟩, ⟨0, 2, 3, 1⟩].map tp := by decide +kernel
  rwa [e] at hF
end Go.Proofs.Ytfabknabkcfpjaa
