/-
  DERIVED. GIVEN WITH THE SEED: THE CARDS: each row of YthppjmhocmppfaaDoorRows.lean that lists a variable, with what it lists TIED to the program's text (the seventh form; the later family's looks); each row that meets fmt, with fmt's text TOLD by the authors' own Lean function (tested against real Go, not proved from fmt's source: count such statements apart). THE CARD IS WHAT COUNTS. Prove the row's statement (the work); the ties are given (YthppjmhocmppfaaDoorTie.lean); close each card by the builder's one call (the guide's Derived/Test/ToyasCard.lean, 'card_holds'). Laid BY PROGRAM, IN A SANDBOX (cutbox-door.mjs). By AI agents, Wed Nov 11 2026. No macro, syntax, notation, axiom, sorry.
-/
import Derived.Test.YthppjmhocmppfaaDoorRows
import GoSem.ClaimSeven
namespace Go.Proofs.YthppjmhocmppfaaDoor
namespace Rows

/-- THE TIED CARD OF 'casementlaw10.AtomsOwners'. -/
def atomsOwnersCard : Claim7 := { stood := { row := atomsOwnersRow, standIns := [], harness := (true, "aa28483e0ec9103425f1025f00da141bb3485fb3f9c3fd1de9e0beb67bf8421e"), looks := false }, kinds := [], alts := [], laidByText := true, laidKinds := [.data, .pinned], laidTests := true, laidLooks := .later }
def AtomsOwnersCardSaid : Prop := Claim7.holds Tryd.pinned (.plain (OpenSpec.ofChange atomsOwnersSpec)) atomsOwnersCard

/-- THE TIED CARD OF 'casementlaw10.AtomsWants'. -/
def atomsWantsCard : Claim7 := { stood := { row := atomsWantsRow, standIns := [], harness := (true, "aa28483e0ec9103425f1025f00da141bb3485fb3f9c3fd1de9e0beb67bf8421e"), looks := false }, kinds := [], alts := [], laidByText := true, laidKinds := [.data, .pinned], laidTests := true, laidLooks := .later }
def AtomsWantsCardSaid : Prop := Claim7.holds Tryd.pinned (.plain (OpenSpec.ofChange atomsWantsSpec)) atomsWantsCard

/-- THE TIED CARD OF 'casementlaw10.AtomsWords'. -/
def atomsWordsCard : Claim7 := { stood := { row := atomsWordsRow, standIns := [], harness := (true, "aa28483e0ec9103425f1025f00da141bb3485fb3f9c3fd1de9e0beb67bf8421e"), looks := false }, kinds := [], alts := [], laidByText := true, laidKinds := [.data, .pinned], laidTests := true, laidLooks := .later }
def AtomsWordsCardSaid : Prop := Claim7.holds Tryd.pinned (.plain (OpenSpec.ofChange atomsWordsSpec)) atomsWordsCard

/-- THE TIED CARD OF 'casementlaw10.AtomsStruts'. -/
def atomsStrutsCard : Claim7 := { stood := { row := atomsStrutsRow, standIns := [], harness := (true, "aa28483e0ec9103425f1025f00da141bb3485fb3f9c3fd1de9e0beb67bf8421e"), looks := false }, kinds := [], alts := [], laidByText := true, laidKinds := [.data, .pinned], laidTests := true, laidLooks := .later }
def AtomsStrutsCardSaid : Prop := Claim7.holds Tryd.pinned (.plain (OpenSpec.ofChange atomsStrutsSpec)) atomsStrutsCard

/-- THE TIED CARD OF 'casementlaw10.AtomsTitles'. -/
def atomsTitlesCard : Claim7 := { stood := { row := atomsTitlesRow, standIns := [], harness := (true, "aa28483e0ec9103425f1025f00da141bb3485fb3f9c3fd1de9e0beb67bf8421e"), looks := false }, kinds := [], alts := [], laidByText := true, laidKinds := [.data, .pinned], laidTests := true, laidLooks := .later }
def AtomsTitlesCardSaid : Prop := Claim7.holds Tryd.pinned (.plain (OpenSpec.ofChange atomsTitlesSpec)) atomsTitlesCard

/-- THE TIED CARD OF 'casementlaw10.AtomsOrder'. -/
def atomsOrderCard : Claim7 := { stood := { row := atomsOrderRow, standIns := [], harness := (true, "aa28483e0ec9103425f1025f00da141bb3485fb3f9c3fd1de9e0beb67bf8421e"), looks := false }, kinds := [], alts := [], laidByText := true, laidKinds := [.data, .pinned], laidTests := true, laidLooks := .later }
def AtomsOrderCardSaid : Prop := Claim7.holds Tryd.pinned (.plain (OpenSpec.ofChange atomsOrderSpec)) atomsOrderCard

/-- THE TIED CARD OF 'casementlaw10.AtomsBack'. -/
def atomsBackCard : Claim7 := { stood := { row := atomsBackRow, standIns := [], harness := (true, "aa28483e0ec9103425f1025f00da141bb3485fb3f9c3fd1de9e0beb67bf8421e"), looks := false }, kinds := [], alts := [], laidByText := true, laidKinds := [.data, .pinned], laidTests := true, laidLooks := .later }
def AtomsBackCardSaid : Prop := Claim7.holds Tryd.pinned (.plain (OpenSpec.ofChange atomsBackSpec)) atomsBackCard

/-- THE SECOND FORM's CARD OF 'casementlaw10.AtomsOwners'. -/
def atomsOwnersUptoCard : Claim7 := { stood := { row := atomsOwnersUptoRow, standIns := [], harness := (true, "aa28483e0ec9103425f1025f00da141bb3485fb3f9c3fd1de9e0beb67bf8421e"), looks := false }, kinds := [], alts := [], laidByText := true, laidKinds := [.data, .pinned], laidTests := true, laidLooks := .later }
def AtomsOwnersUptoCardSaid : Prop := Claim7.holds Tryd.pinned (.plain (OpenSpec.upto atomsOwnersSpec)) atomsOwnersUptoCard

/-- THE SECOND FORM's CARD OF 'casementlaw10.AtomsWants'. -/
def atomsWantsUptoCard : Claim7 := { stood := { row := atomsWantsUptoRow, standIns := [], harness := (true, "aa28483e0ec9103425f1025f00da141bb3485fb3f9c3fd1de9e0beb67bf8421e"), looks := false }, kinds := [], alts := [], laidByText := true, laidKinds := [.data, .pinned], laidTests := true, laidLooks := .later }
def AtomsWantsUptoCardSaid : Prop := Claim7.holds Tryd.pinned (.plain (OpenSpec.upto atomsWantsSpec)) atomsWantsUptoCard

/-- THE SECOND FORM's CARD OF 'casementlaw10.AtomsWords'. -/
def atomsWordsUptoCard : Claim7 := { stood := { row := atomsWordsUptoRow, standIns := [], harness := (true, "aa28483e0ec9103425f1025f00da141bb3485fb3f9c3fd1de9e0beb67bf8421e"), looks := false }, kinds := [], alts := [], laidByText := true, laidKinds := [.data, .pinned], laidTests := true, laidLooks := .later }
def AtomsWordsUptoCardSaid : Prop := Claim7.holds Tryd.pinned (.plain (OpenSpec.upto atomsWordsSpec)) atomsWordsUptoCard

/-- THE SECOND FORM's CARD OF 'casementlaw10.AtomsStruts'. -/
def atomsStrutsUptoCard : Claim7 := { stood := { row := atomsStrutsUptoRow, standIns := [], harness := (true, "aa28483e0ec9103425f1025f00da141bb3485fb3f9c3fd1de9e0beb67bf8421e"), looks := false }, kinds := [], alts := [], laidByText := true, laidKinds := [.data, .pinned], laidTests := true, laidLooks := .later }
def AtomsStrutsUptoCardSaid : Prop := Claim7.holds Tryd.pinned (.plain (OpenSpec.upto atomsStrutsSpec)) atomsStrutsUptoCard

/-- THE SECOND FORM's CARD OF 'casementlaw10.AtomsTitles'. -/
def atomsTitlesUptoCard : Claim7 := { stood := { row := atomsTitlesUptoRow, standIns := [], harness := (true, "aa28483e0ec9103425f1025f00da141bb3485fb3f9c3fd1de9e0beb67bf8421e"), looks := false }, kinds := [], alts := [], laidByText := true, laidKinds := [.data, .pinned], laidTests := true, laidLooks := .later }
def AtomsTitlesUptoCardSaid : Prop := Claim7.holds Tryd.pinned (.plain (OpenSpec.upto atomsTitlesSpec)) atomsTitlesUptoCard

/-- THE SECOND FORM's CARD OF 'casementlaw10.AtomsOrder'. -/
def atomsOrderUptoCard : Claim7 := { stood := { row := atomsOrderUptoRow, standIns := [], harness := (true, "aa28483e0ec9103425f1025f00da141bb3485fb3f9c3fd1de9e0beb67bf8421e"), looks := false }, kinds := [], alts := [], laidByText := true, laidKinds := [.data, .pinned], laidTests := true, laidLooks := .later }
def AtomsOrderUptoCardSaid : Prop := Claim7.holds Tryd.pinned (.plain (OpenSpec.upto atomsOrderSpec)) atomsOrderUptoCard

/-- THE SECOND FORM's CARD OF 'casementlaw10.AtomsBack'. -/
def atomsBackUptoCard : Claim7 := { stood := { row := atomsBackUptoRow, standIns := [], harness := (true, "aa28483e0ec9103425f1025f00da141bb3485fb3f9c3fd1de9e0beb67bf8421e"), looks := false }, kinds := [], alts := [], laidByText := true, laidKinds := [.data, .pinned], laidTests := true, laidLooks := .later }
def AtomsBackUptoCardSaid : Prop := Claim7.holds Tryd.pinned (.plain (OpenSpec.upto atomsBackSpec)) atomsBackUptoCard
end Rows
end Go.Proofs.YthppjmhocmppfaaDoor
