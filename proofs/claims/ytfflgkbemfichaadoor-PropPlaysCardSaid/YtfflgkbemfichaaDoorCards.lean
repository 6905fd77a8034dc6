/-
  DERIVED. GIVEN WITH THE SEED: THE CARDS: each row of YtfflgkbemfichaaDoorRows.lean that lists a variable, with what it lists TIED to the program's text (the seventh form; the later family's looks); each row that meets fmt, with fmt's text TOLD by the authors' own Lean function (tested against real Go, not proved from fmt's source: count such statements apart). THE CARD IS WHAT COUNTS. Prove the row's statement (the work); the ties are given (YtfflgkbemfichaaDoorTie.lean); close each card by the builder's one call (the guide's Derived/Test/ToyasCard.lean, 'card_holds'). Laid BY PROGRAM, IN A SANDBOX (cutbox-door.mjs). By AI agents, Wed Nov 11 2026. No macro, syntax, notation, axiom, sorry.
-/
import Derived.Test.YtfflgkbemfichaaDoorRows
import GoSem.ClaimSeven
namespace Go.Proofs.YtfflgkbemfichaaDoor
namespace Rows

/-- THE TIED CARD OF 'casementlaw07.PropPlays'. -/
def propPlaysCard : Claim7 := { stood := { row := propPlaysRow, standIns := [], harness := (true, "ca59a70a7d38241578fa0deb4638893ce97bf96f24d04f6280168e432df99bc2"), looks := false }, kinds := [], alts := [], laidByText := true, laidKinds := [.data, .pinned], laidTests := true, laidLooks := .later }
def PropPlaysCardSaid : Prop := Claim7.holds Tryd.pinned (.plain (OpenSpec.ofChange propPlaysSpec)) propPlaysCard

/-- THE TIED CARD OF 'casementlaw07.PropNumbers'. -/
def propNumbersCard : Claim7 := { stood := { row := propNumbersRow, standIns := [], harness := (true, "ca59a70a7d38241578fa0deb4638893ce97bf96f24d04f6280168e432df99bc2"), looks := false }, kinds := [], alts := [], laidByText := true, laidKinds := [.data, .pinned], laidTests := true, laidLooks := .later }
def PropNumbersCardSaid : Prop := Claim7.holds Tryd.pinned (.plain (OpenSpec.ofChange propNumbersSpec)) propNumbersCard

/-- THE TIED CARD OF 'casementlaw07.PropWords'. -/
def propWordsCard : Claim7 := { stood := { row := propWordsRow, standIns := [], harness := (true, "ca59a70a7d38241578fa0deb4638893ce97bf96f24d04f6280168e432df99bc2"), looks := false }, kinds := [], alts := [], laidByText := true, laidKinds := [.data, .pinned], laidTests := true, laidLooks := .later }
def PropWordsCardSaid : Prop := Claim7.holds Tryd.pinned (.plain (OpenSpec.ofChange propWordsSpec)) propWordsCard

/-- THE TIED CARD OF 'casementlaw07.PropBack'. -/
def propBackCard : Claim7 := { stood := { row := propBackRow, standIns := [], harness := (true, "ca59a70a7d38241578fa0deb4638893ce97bf96f24d04f6280168e432df99bc2"), looks := false }, kinds := [], alts := [], laidByText := true, laidKinds := [.data, .pinned], laidTests := true, laidLooks := .later }
def PropBackCardSaid : Prop := Claim7.holds Tryd.pinned (.plain (OpenSpec.ofChange propBackSpec)) propBackCard

/-- THE TIED CARD OF 'casementlaw07.PropApart'. -/
def propApartCard : Claim7 := { stood := { row := propApartRow, standIns := [], harness := (true, "ca59a70a7d38241578fa0deb4638893ce97bf96f24d04f6280168e432df99bc2"), looks := false }, kinds := [], alts := [], laidByText := true, laidKinds := [.data, .pinned], laidTests := true, laidLooks := .later }
def PropApartCardSaid : Prop := Claim7.holds Tryd.pinned (.plain (OpenSpec.ofChange propApartSpec)) propApartCard

/-- THE TIED CARD OF 'casementlaw07.PropNobody'. -/
def propNobodyCard : Claim7 := { stood := { row := propNobodyRow, standIns := [], harness := (true, "ca59a70a7d38241578fa0deb4638893ce97bf96f24d04f6280168e432df99bc2"), looks := false }, kinds := [], alts := [], laidByText := true, laidKinds := [.data, .pinned], laidTests := true, laidLooks := .later }
def PropNobodyCardSaid : Prop := Claim7.holds Tryd.pinned (.plain (OpenSpec.ofChange propNobodySpec)) propNobodyCard

/-- THE SECOND FORM's CARD OF 'casementlaw07.PropPlays'. -/
def propPlaysUptoCard : Claim7 := { stood := { row := propPlaysUptoRow, standIns := [], harness := (true, "ca59a70a7d38241578fa0deb4638893ce97bf96f24d04f6280168e432df99bc2"), looks := false }, kinds := [], alts := [], laidByText := true, laidKinds := [.data, .pinned], laidTests := true, laidLooks := .later }
def PropPlaysUptoCardSaid : Prop := Claim7.holds Tryd.pinned (.plain (OpenSpec.upto propPlaysSpec)) propPlaysUptoCard

/-- THE SECOND FORM's CARD OF 'casementlaw07.PropNumbers'. -/
def propNumbersUptoCard : Claim7 := { stood := { row := propNumbersUptoRow, standIns := [], harness := (true, "ca59a70a7d38241578fa0deb4638893ce97bf96f24d04f6280168e432df99bc2"), looks := false }, kinds := [], alts := [], laidByText := true, laidKinds := [.data, .pinned], laidTests := true, laidLooks := .later }
def PropNumbersUptoCardSaid : Prop := Claim7.holds Tryd.pinned (.plain (OpenSpec.upto propNumbersSpec)) propNumbersUptoCard

/-- THE SECOND FORM's CARD OF 'casementlaw07.PropWords'. -/
def propWordsUptoCard : Claim7 := { stood := { row := propWordsUptoRow, standIns := [], harness := (true, "ca59a70a7d38241578fa0deb4638893ce97bf96f24d04f6280168e432df99bc2"), looks := false }, kinds := [], alts := [], laidByText := true, laidKinds := [.data, .pinned], laidTests := true, laidLooks := .later }
def PropWordsUptoCardSaid : Prop := Claim7.holds Tryd.pinned (.plain (OpenSpec.upto propWordsSpec)) propWordsUptoCard

/-- THE SECOND FORM's CARD OF 'casementlaw07.PropBack'. -/
def propBackUptoCard : Claim7 := { stood := { row := propBackUptoRow, standIns := [], harness := (true, "ca59a70a7d38241578fa0deb4638893ce97bf96f24d04f6280168e432df99bc2"), looks := false }, kinds := [], alts := [], laidByText := true, laidKinds := [.data, .pinned], laidTests := true, laidLooks := .later }
def PropBackUptoCardSaid : Prop := Claim7.holds Tryd.pinned (.plain (OpenSpec.upto propBackSpec)) propBackUptoCard

/-- THE SECOND FORM's CARD OF 'casementlaw07.PropApart'. -/
def propApartUptoCard : Claim7 := { stood := { row := propApartUptoRow, standIns := [], harness := (true, "ca59a70a7d38241578fa0deb4638893ce97bf96f24d04f6280168e432df99bc2"), looks := false }, kinds := [], alts := [], laidByText := true, laidKinds := [.data, .pinned], laidTests := true, laidLooks := .later }
def PropApartUptoCardSaid : Prop := Claim7.holds Tryd.pinned (.plain (OpenSpec.upto propApartSpec)) propApartUptoCard

/-- THE SECOND FORM's CARD OF 'casementlaw07.PropNobody'. -/
def propNobodyUptoCard : Claim7 := { stood := { row := propNobodyUptoRow, standIns := [], harness := (true, "ca59a70a7d38241578fa0deb4638893ce97bf96f24d04f6280168e432df99bc2"), looks := false }, kinds := [], alts := [], laidByText := true, laidKinds := [.data, .pinned], laidTests := true, laidLooks := .later }
def PropNobodyUptoCardSaid : Prop := Claim7.holds Tryd.pinned (.plain (OpenSpec.upto propNobodySpec)) propNobodyUptoCard
end Rows
end Go.Proofs.YtfflgkbemfichaaDoor
