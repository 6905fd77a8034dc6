/-
  NARROWER THAN 'FOR EVERY INPUT', by the rows' own cells (each row's printed sentence says how): AtomsOwners: laid · AtomsWants: laid · AtomsWords: laid · AtomsStruts: laid · AtomsTitles: laid · AtomsOrder: laid · AtomsBack: laid.
  DERIVED. THE GIVEN ROWS OF THIS SEAT. 7 by the template 'for every input the law returns true; each argument reads behind the call as it read before'; 0 by the template 'total and deterministic' (their statements: YthppjmhocmppfaaDoorTotals.lean).
  GIVEN WITH THE SEED: the statements are not yours to turn. If you find one false, say at which input.
  Laid BY PROGRAM, IN A SANDBOX (cutbox-rows.mjs): the forced cells as the released guide's own fill.sh prints them over the translation 9829a851a513be9b… (all of the seat's roots in one cut). By AI agents, Wed Nov 11 2026. No macro, syntax, notation, axiom, sorry.
-/
import Derived.Test.YthppjmhocmppfaaDoorChecked
import GoSem.PinnedTables
import GoSem.Claim
import GoSem.ClaimJoined
import GoSem.ClaimMapViews
import Derived.JoinedTies
import Derived.KernelRfl
namespace Go.Proofs.YthppjmhocmppfaaDoor
/- THE CELL 'sum', in the pinned program and in every row, IS THE sha256 OF THE DUMP (.gsa) THAT YthppjmhocmppfaaDoorProg.lean LOADS. Nothing in Lean hashes anything: it is a label: what it is worth is what the hold of that sum in a sandbox is worth. -/
noncomputable def Tryd.pinned : Pinned := { name := "ythppjmhocmppfaadoor", sum := "9829a851a513be9b0ffa0729d8a35a225f6eac9925f29ebd40f81ce1bbddf268", checked := Tryd.checked }
namespace Rows
def none {H : Type} : Left H := { results := [], args := [] }

/- WHAT THE LISTED PACKAGE-LEVEL VARIABLES READ AS WHEN THE CALL BEGINS. Each datum BY PROGRAM (the guide's laid-datum.mjs) off the statement by which the dump's own 'gosem.cut.vars' lays the variable. In a bare row this is a premise. The card (YthppjmhocmppfaaDoorCards.lean) ties it to the program's text. -/
def laid_unicode_utf8_acceptRanges {H : Type} : DataW H := .agg [.agg [.lit (.int .u8 128), .lit (.int .u8 191)], .agg [.lit (.int .u8 160), .lit (.int .u8 191)], .agg [.lit (.int .u8 128), .lit (.int .u8 159)], .agg [.lit (.int .u8 144), .lit (.int .u8 191)], .agg [.lit (.int .u8 128), .lit (.int .u8 143)], .agg [.lit (.int .u8 0), .lit (.int .u8 0)], .agg [.lit (.int .u8 0), .lit (.int .u8 0)], .agg [.lit (.int .u8 0), .lit (.int .u8 0)], .agg [.lit (.int .u8 0), .lit (.int .u8 0)], .agg [.lit (.int .u8 0), .lit (.int .u8 0)], .agg [.lit (.int .u8 0), .lit (.int .u8 0)], .agg [.lit (.int .u8 0), .lit (.int .u8 0)], .agg [.lit (.int .u8 0), .lit (.int .u8 0)], .agg [.lit (.int .u8 0), .lit (.int .u8 0)], .agg [.lit (.int .u8 0), .lit (.int .u8 0)], .agg [.lit (.int .u8 0), .lit (.int .u8 0)]]
/-- One of Go's own tables, pinned by name: the form's constant. -/
def laid_unicode_utf8_first : DataW Unit := Go.Pinned.utf8First

/-- 'casementlaw10.AtomsOwners': WHATEVER THE INPUT: true; the input reads as it did. -/
def atomsOwnersSpec : ChangeSpec := { name := "atomsOwners", fn := fun _ => fun
  | [d] => { results := [.lit (.bool true)], args := [d] }
  | _ => none }
def atomsOwnersRow : OpenClaim := { program := "ythppjmhocmppfaadoor", sum := "9829a851a513be9b0ffa0729d8a35a225f6eac9925f29ebd40f81ce1bbddf268", func := "casement/casementlaw10.AtomsOwners", spec := "atomsOwners", inPlace := ["internal/bytealg.CountString", "internal/bytealg.IndexByteString", "internal/bytealg.IndexString"], unfollowed := true, recurses := true, named := ["unicode/utf8.first", "unicode/utf8.acceptRanges", "internal/bytealg.MaxLen"], apart := false, laid := [("unicode/utf8.acceptRanges", laid_unicode_utf8_acceptRanges), ("unicode/utf8.first", laid_unicode_utf8_first)] }
def AtomsOwnersSaid : Prop := atomsOwnersRow.holds Tryd.pinned (OpenSpec.ofChange atomsOwnersSpec)

/-- ITS FALSE NEIGHBOUR: 'it returns false'. Refute it at one input. -/
def atomsOwnersWrong : ChangeSpec := { name := "atomsOwners", fn := fun _ => fun
  | [d] => { results := [.lit (.bool false)], args := [d] }
  | _ => none }
def AtomsOwnersWrongFalsely : Prop := atomsOwnersRow.holds Tryd.pinned (OpenSpec.ofChange atomsOwnersWrong)

/-- 'casementlaw10.AtomsWants': WHATEVER THE INPUT: true; the input reads as it did. -/
def atomsWantsSpec : ChangeSpec := { name := "atomsWants", fn := fun _ => fun
  | [d] => { results := [.lit (.bool true)], args := [d] }
  | _ => none }
def atomsWantsRow : OpenClaim := { program := "ythppjmhocmppfaadoor", sum := "9829a851a513be9b0ffa0729d8a35a225f6eac9925f29ebd40f81ce1bbddf268", func := "casement/casementlaw10.AtomsWants", spec := "atomsWants", inPlace := ["internal/bytealg.CountString", "internal/bytealg.IndexByteString", "internal/bytealg.IndexString"], unfollowed := true, recurses := true, named := ["unicode/utf8.first", "unicode/utf8.acceptRanges", "internal/bytealg.MaxLen"], apart := false, laid := [("unicode/utf8.acceptRanges", laid_unicode_utf8_acceptRanges), ("unicode/utf8.first", laid_unicode_utf8_first)] }
def AtomsWantsSaid : Prop := atomsWantsRow.holds Tryd.pinned (OpenSpec.ofChange atomsWantsSpec)

/-- ITS FALSE NEIGHBOUR: 'it returns false'. Refute it at one input. -/
def atomsWantsWrong : ChangeSpec := { name := "atomsWants", fn := fun _ => fun
  | [d] => { results := [.lit (.bool false)], args := [d] }
  | _ => none }
def AtomsWantsWrongFalsely : Prop := atomsWantsRow.holds Tryd.pinned (OpenSpec.ofChange atomsWantsWrong)

/-- 'casementlaw10.AtomsWords': WHATEVER THE INPUT: true; the input reads as it did. -/
def atomsWordsSpec : ChangeSpec := { name := "atomsWords", fn := fun _ => fun
  | [d] => { results := [.lit (.bool true)], args := [d] }
  | _ => none }
def atomsWordsRow : OpenClaim := { program := "ythppjmhocmppfaadoor", sum := "9829a851a513be9b0ffa0729d8a35a225f6eac9925f29ebd40f81ce1bbddf268", func := "casement/casementlaw10.AtomsWords", spec := "atomsWords", inPlace := ["internal/bytealg.CountString", "internal/bytealg.IndexByteString", "internal/bytealg.IndexString"], unfollowed := true, recurses := true, named := ["unicode/utf8.first", "unicode/utf8.acceptRanges", "internal/bytealg.MaxLen"], apart := false, laid := [("unicode/utf8.acceptRanges", laid_unicode_utf8_acceptRanges), ("unicode/utf8.first", laid_unicode_utf8_first)] }
def AtomsWordsSaid : Prop := atomsWordsRow.holds Tryd.pinned (OpenSpec.ofChange atomsWordsSpec)

/-- ITS FALSE NEIGHBOUR: 'it returns false'. Refute it at one input. -/
def atomsWordsWrong : ChangeSpec := { name := "atomsWords", fn := fun _ => fun
  | [d] => { results := [.lit (.bool false)], args := [d] }
  | _ => none }
def AtomsWordsWrongFalsely : Prop := atomsWordsRow.holds Tryd.pinned (OpenSpec.ofChange atomsWordsWrong)

/-- 'casementlaw10.AtomsStruts': WHATEVER THE INPUT: true; the input reads as it did. -/
def atomsStrutsSpec : ChangeSpec := { name := "atomsStruts", fn := fun _ => fun
  | [d] => { results := [.lit (.bool true)], args := [d] }
  | _ => none }
def atomsStrutsRow : OpenClaim := { program := "ythppjmhocmppfaadoor", sum := "9829a851a513be9b0ffa0729d8a35a225f6eac9925f29ebd40f81ce1bbddf268", func := "casement/casementlaw10.AtomsStruts", spec := "atomsStruts", inPlace := ["internal/bytealg.CountString", "internal/bytealg.IndexByteString", "internal/bytealg.IndexString"], unfollowed := true, recurses := true, named := ["unicode/utf8.first", "unicode/utf8.acceptRanges", "internal/bytealg.MaxLen"], apart := false, laid := [("unicode/utf8.acceptRanges", laid_unicode_utf8_acceptRanges), ("unicode/utf8.first", laid_unicode_utf8_first)] }
def AtomsStrutsSaid : Prop := atomsStrutsRow.holds Tryd.pinned (OpenSpec.ofChange atomsStrutsSpec)

/-- ITS FALSE NEIGHBOUR: 'it returns false'. Refute it at one input. -/
def atomsStrutsWrong : ChangeSpec := { name := "atomsStruts", fn := fun _ => fun
  | [d] => { results := [.lit (.bool false)], args := [d] }
  | _ => none }
def AtomsStrutsWrongFalsely : Prop := atomsStrutsRow.holds Tryd.pinned (OpenSpec.ofChange atomsStrutsWrong)

/-- 'casementlaw10.AtomsTitles': WHATEVER THE INPUT: true; the input reads as it did. -/
def atomsTitlesSpec : ChangeSpec := { name := "atomsTitles", fn := fun _ => fun
  | [d] => { results := [.lit (.bool true)], args := [d] }
  | _ => none }
def atomsTitlesRow : OpenClaim := { program := "ythppjmhocmppfaadoor", sum := "9829a851a513be9b0ffa0729d8a35a225f6eac9925f29ebd40f81ce1bbddf268", func := "casement/casementlaw10.AtomsTitles", spec := "atomsTitles", inPlace := ["internal/bytealg.CountString", "internal/bytealg.IndexByteString", "internal/bytealg.IndexString"], unfollowed := true, recurses := true, named := ["unicode/utf8.first", "unicode/utf8.acceptRanges", "internal/bytealg.MaxLen"], apart := false, laid := [("unicode/utf8.acceptRanges", laid_unicode_utf8_acceptRanges), ("unicode/utf8.first", laid_unicode_utf8_first)] }
def AtomsTitlesSaid : Prop := atomsTitlesRow.holds Tryd.pinned (OpenSpec.ofChange atomsTitlesSpec)

/-- ITS FALSE NEIGHBOUR: 'it returns false'. Refute it at one input. -/
def atomsTitlesWrong : ChangeSpec := { name := "atomsTitles", fn := fun _ => fun
  | [d] => { results := [.lit (.bool false)], args := [d] }
  | _ => none }
def AtomsTitlesWrongFalsely : Prop := atomsTitlesRow.holds Tryd.pinned (OpenSpec.ofChange atomsTitlesWrong)

/-- 'casementlaw10.AtomsOrder': WHATEVER THE INPUT: true; the input reads as it did. -/
def atomsOrderSpec : ChangeSpec := { name := "atomsOrder", fn := fun _ => fun
  | [d1, d2, d3] => { results := [.lit (.bool true)], args := [d1, d2, d3] }
  | _ => none }
def atomsOrderRow : OpenClaim := { program := "ythppjmhocmppfaadoor", sum := "9829a851a513be9b0ffa0729d8a35a225f6eac9925f29ebd40f81ce1bbddf268", func := "casement/casementlaw10.AtomsOrder", spec := "atomsOrder", inPlace := ["internal/bytealg.CountString", "internal/bytealg.IndexByteString", "internal/bytealg.IndexString"], unfollowed := true, recurses := true, named := ["unicode/utf8.first", "unicode/utf8.acceptRanges", "internal/bytealg.MaxLen"], apart := false, laid := [("unicode/utf8.acceptRanges", laid_unicode_utf8_acceptRanges), ("unicode/utf8.first", laid_unicode_utf8_first)] }
def AtomsOrderSaid : Prop := atomsOrderRow.holds Tryd.pinned (OpenSpec.ofChange atomsOrderSpec)

/-- ITS FALSE NEIGHBOUR: 'it returns false'. Refute it at one input. -/
def atomsOrderWrong : ChangeSpec := { name := "atomsOrder", fn := fun _ => fun
  | [d1, d2, d3] => { results := [.lit (.bool false)], args := [d1, d2, d3] }
  | _ => none }
def AtomsOrderWrongFalsely : Prop := atomsOrderRow.holds Tryd.pinned (OpenSpec.ofChange atomsOrderWrong)

/-- 'casementlaw10.AtomsBack': WHATEVER THE INPUT: true; the input reads as it did. -/
def atomsBackSpec : ChangeSpec := { name := "atomsBack", fn := fun _ => fun
  | [d1, d2] => { results := [.lit (.bool true)], args := [d1, d2] }
  | _ => none }
def atomsBackRow : OpenClaim := { program := "ythppjmhocmppfaadoor", sum := "9829a851a513be9b0ffa0729d8a35a225f6eac9925f29ebd40f81ce1bbddf268", func := "casement/casementlaw10.AtomsBack", spec := "atomsBack", inPlace := ["internal/bytealg.CountString", "internal/bytealg.IndexByteString", "internal/bytealg.IndexString"], unfollowed := true, recurses := true, named := ["unicode/utf8.first", "unicode/utf8.acceptRanges", "internal/bytealg.MaxLen"], apart := false, laid := [("unicode/utf8.acceptRanges", laid_unicode_utf8_acceptRanges), ("unicode/utf8.first", laid_unicode_utf8_first)] }
def AtomsBackSaid : Prop := atomsBackRow.holds Tryd.pinned (OpenSpec.ofChange atomsBackSpec)

/-- ITS FALSE NEIGHBOUR: 'it returns false'. Refute it at one input. -/
def atomsBackWrong : ChangeSpec := { name := "atomsBack", fn := fun _ => fun
  | [d1, d2] => { results := [.lit (.bool false)], args := [d1, d2] }
  | _ => none }
def AtomsBackWrongFalsely : Prop := atomsBackRow.holds Tryd.pinned (OpenSpec.ofChange atomsBackWrong)

/- THE SECOND FORM. 'bulk': how many values and letters a reading holds, each counted each time it is reached (what is shared counts as often as it is met; a slice's spare places count too). A statement '..UptoSaid' is the law's where the arguments, and the package variables that the reading takes, are together of bulk at most 1048576: NARROWER than '..Said'. Prove '..Said' where nothing that the law and all that it calls make is longer than what came in: it says more and counts as full. Else prove '..UptoSaid'. A law counts once. -/
mutual
def uptoBulk {H : Type} : DataW H → Nat
  | .lit (.string bytes) => bytes.length + 1
  | .lit _ => 1
  | .nil => 1
  | .ptr d => uptoBulk d + 1
  | .slice elems spare => uptoBulkAll elems + uptoBulkAll spare + 1
  | .agg parts => uptoBulkAll parts + 1
  | .iface _ d => uptoBulk d + 1
  | .map entries => uptoBulkEntries entries + 1
  | .held _ => 1
def uptoBulkAll {H : Type} : List (DataW H) → Nat
  | [] => 0
  | d :: r => uptoBulk d + uptoBulkAll r
def uptoBulkEntries {H : Type} : List (Lit × DataW H) → Nat
  | [] => 0
  | x :: r => uptoBulkEntry x + uptoBulkEntries r
def uptoBulkEntry {H : Type} : Lit × DataW H → Nat
  | (.string bytes, d) => bytes.length + uptoBulk d + 1
  | (_, d) => uptoBulk d + 1
 end
def uptoSmall : (H : Type) → List (DataW H) → Bool := fun _ ds => decide (uptoBulkAll ds ≤ 1048576)
def OpenSpec.upto (s : _root_.Go.ChangeSpec) : _root_.Go.OpenSpec := { _root_.Go.OpenSpec.ofChange s with cond := some uptoSmall }

/-- 'casementlaw10.AtomsOwners', WHERE WHAT IT READS IS OF BULK AT MOST 1048576: true; the input reads as it did. -/
def atomsOwnersUptoRow : OpenClaim := { program := "ythppjmhocmppfaadoor", sum := "9829a851a513be9b0ffa0729d8a35a225f6eac9925f29ebd40f81ce1bbddf268", func := "casement/casementlaw10.AtomsOwners", spec := "atomsOwners", inPlace := ["internal/bytealg.CountString", "internal/bytealg.IndexByteString", "internal/bytealg.IndexString"], unfollowed := true, recurses := true, named := ["unicode/utf8.first", "unicode/utf8.acceptRanges", "internal/bytealg.MaxLen"], apart := false, laid := [("unicode/utf8.acceptRanges", laid_unicode_utf8_acceptRanges), ("unicode/utf8.first", laid_unicode_utf8_first)], narrowed := true }
def AtomsOwnersUptoSaid : Prop := atomsOwnersUptoRow.holds Tryd.pinned (OpenSpec.upto atomsOwnersSpec)

/-- 'casementlaw10.AtomsWants', WHERE WHAT IT READS IS OF BULK AT MOST 1048576: true; the input reads as it did. -/
def atomsWantsUptoRow : OpenClaim := { program := "ythppjmhocmppfaadoor", sum := "9829a851a513be9b0ffa0729d8a35a225f6eac9925f29ebd40f81ce1bbddf268", func := "casement/casementlaw10.AtomsWants", spec := "atomsWants", inPlace := ["internal/bytealg.CountString", "internal/bytealg.IndexByteString", "internal/bytealg.IndexString"], unfollowed := true, recurses := true, named := ["unicode/utf8.first", "unicode/utf8.acceptRanges", "internal/bytealg.MaxLen"], apart := false, laid := [("unicode/utf8.acceptRanges", laid_unicode_utf8_acceptRanges), ("unicode/utf8.first", laid_unicode_utf8_first)], narrowed := true }
def AtomsWantsUptoSaid : Prop := atomsWantsUptoRow.holds Tryd.pinned (OpenSpec.upto atomsWantsSpec)

/-- 'casementlaw10.AtomsWords', WHERE WHAT IT READS IS OF BULK AT MOST 1048576: true; the input reads as it did. -/
def atomsWordsUptoRow : OpenClaim := { program := "ythppjmhocmppfaadoor", sum := "9829a851a513be9b0ffa0729d8a35a225f6eac9925f29ebd40f81ce1bbddf268", func := "casement/casementlaw10.AtomsWords", spec := "atomsWords", inPlace := ["internal/bytealg.CountString", "internal/bytealg.IndexByteString", "internal/bytealg.IndexString"], unfollowed := true, recurses := true, named := ["unicode/utf8.first", "unicode/utf8.acceptRanges", "internal/bytealg.MaxLen"], apart := false, laid := [("unicode/utf8.acceptRanges", laid_unicode_utf8_acceptRanges), ("unicode/utf8.first", laid_unicode_utf8_first)], narrowed := true }
def AtomsWordsUptoSaid : Prop := atomsWordsUptoRow.holds Tryd.pinned (OpenSpec.upto atomsWordsSpec)

/-- 'casementlaw10.AtomsStruts', WHERE WHAT IT READS IS OF BULK AT MOST 1048576: true; the input reads as it did. -/
def atomsStrutsUptoRow : OpenClaim := { program := "ythppjmhocmppfaadoor", sum := "9829a851a513be9b0ffa0729d8a35a225f6eac9925f29ebd40f81ce1bbddf268", func := "casement/casementlaw10.AtomsStruts", spec := "atomsStruts", inPlace := ["internal/bytealg.CountString", "internal/bytealg.IndexByteString", "internal/bytealg.IndexString"], unfollowed := true, recurses := true, named := ["unicode/utf8.first", "unicode/utf8.acceptRanges", "internal/bytealg.MaxLen"], apart := false, laid := [("unicode/utf8.acceptRanges", laid_unicode_utf8_acceptRanges), ("unicode/utf8.first", laid_unicode_utf8_first)], narrowed := true }
def AtomsStrutsUptoSaid : Prop := atomsStrutsUptoRow.holds Tryd.pinned (OpenSpec.upto atomsStrutsSpec)

/-- 'casementlaw10.AtomsTitles', WHERE WHAT IT READS IS OF BULK AT MOST 1048576: true; the input reads as it did. -/
def atomsTitlesUptoRow : OpenClaim := { program := "ythppjmhocmppfaadoor", sum := "9829a851a513be9b0ffa0729d8a35a225f6eac9925f29ebd40f81ce1bbddf268", func := "casement/casementlaw10.AtomsTitles", spec := "atomsTitles", inPlace := ["internal/bytealg.CountString", "internal/bytealg.IndexByteString", "internal/bytealg.IndexString"], unfollowed := true, recurses := true, named := ["unicode/utf8.first", "unicode/utf8.acceptRanges", "internal/bytealg.MaxLen"], apart := false, laid := [("unicode/utf8.acceptRanges", laid_unicode_utf8_acceptRanges), ("unicode/utf8.first", laid_unicode_utf8_first)], narrowed := true }
def AtomsTitlesUptoSaid : Prop := atomsTitlesUptoRow.holds Tryd.pinned (OpenSpec.upto atomsTitlesSpec)

/-- 'casementlaw10.AtomsOrder', WHERE WHAT IT READS IS OF BULK AT MOST 1048576: true; the input reads as it did. -/
def atomsOrderUptoRow : OpenClaim := { program := "ythppjmhocmppfaadoor", sum := "9829a851a513be9b0ffa0729d8a35a225f6eac9925f29ebd40f81ce1bbddf268", func := "casement/casementlaw10.AtomsOrder", spec := "atomsOrder", inPlace := ["internal/bytealg.CountString", "internal/bytealg.IndexByteString", "internal/bytealg.IndexString"], unfollowed := true, recurses := true, named := ["unicode/utf8.first", "unicode/utf8.acceptRanges", "internal/bytealg.MaxLen"], apart := false, laid := [("unicode/utf8.acceptRanges", laid_unicode_utf8_acceptRanges), ("unicode/utf8.first", laid_unicode_utf8_first)], narrowed := true }
def AtomsOrderUptoSaid : Prop := atomsOrderUptoRow.holds Tryd.pinned (OpenSpec.upto atomsOrderSpec)

/-- 'casementlaw10.AtomsBack', WHERE WHAT IT READS IS OF BULK AT MOST 1048576: true; the input reads as it did. -/
def atomsBackUptoRow : OpenClaim := { program := "ythppjmhocmppfaadoor", sum := "9829a851a513be9b0ffa0729d8a35a225f6eac9925f29ebd40f81ce1bbddf268", func := "casement/casementlaw10.AtomsBack", spec := "atomsBack", inPlace := ["internal/bytealg.CountString", "internal/bytealg.IndexByteString", "internal/bytealg.IndexString"], unfollowed := true, recurses := true, named := ["unicode/utf8.first", "unicode/utf8.acceptRanges", "internal/bytealg.MaxLen"], apart := false, laid := [("unicode/utf8.acceptRanges", laid_unicode_utf8_acceptRanges), ("unicode/utf8.first", laid_unicode_utf8_first)], narrowed := true }
def AtomsBackUptoSaid : Prop := atomsBackUptoRow.holds Tryd.pinned (OpenSpec.upto atomsBackSpec)

end Rows
end Go.Proofs.YthppjmhocmppfaaDoor
