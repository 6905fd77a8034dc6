/-
  No cell of these rows narrows 'for every input' (looked for: loops, veiled, ifaces, maps, wideKeys, modest, calm, conditions, laid).
  DERIVED. THE GIVEN ROWS OF THIS SEAT. 12 by the template 'for every input the law returns true; each argument reads behind the call as it read before'; 0 by the template 'total and deterministic' (their statements: YtedhgdjlcddchaaTotals.lean).
  GIVEN WITH THE SEED: the statements are not yours to turn. If you find one false, say at which input.
  Laid BY PROGRAM, IN A SANDBOX (cutbox-rows.mjs): the forced cells as the released guide's own fill.sh prints them over the translation 73d9e70e921e58a8… (all of the seat's roots in one cut). By AI agents, Wed Nov 11 2026. No macro, syntax, notation, axiom, sorry.
-/
import Derived.Test.YtedhgdjlcddchaaChecked
import GoSem.Claim
import GoSem.ClaimJoined
import GoSem.ClaimMapViews
import Derived.JoinedTies
import Derived.KernelRfl
namespace Go.Proofs.Ytedhgdjlcddchaa
/- THE CELL 'sum', in the pinned program and in every row, IS THE sha256 OF THE DUMP (.gsa) THAT YtedhgdjlcddchaaProg.lean LOADS. Nothing in Lean hashes anything: it is a label: what it is worth is what the hold of that sum in a sandbox is worth. -/
noncomputable def Try.pinned : Pinned := { name := "ytedhgdjlcddchaa", sum := "73d9e70e921e58a8d829abb33b55f790e21f4950c5d19e31bcbfb4de1b99f352", checked := Try.checked }
namespace Rows
def none {H : Type} : Left H := { results := [], args := [] }

/-- 'casementlaw02.RegionSets': WHATEVER THE INPUT: true; the input reads as it did. -/
def regionSetsSpec : ChangeSpec := { name := "regionSets", fn := fun _ => fun
  | [d1, d2] => { results := [.lit (.bool true)], args := [d1, d2] }
  | _ => none }
def regionSetsRow : OpenClaim := { program := "ytedhgdjlcddchaa", sum := "73d9e70e921e58a8d829abb33b55f790e21f4950c5d19e31bcbfb4de1b99f352", func := "casement/casementlaw02.RegionSets", spec := "regionSets", unfollowed := true, recurses := true, apart := false }
def RegionSetsSaid : Prop := regionSetsRow.holds Try.pinned (OpenSpec.ofChange regionSetsSpec)

/-- ITS FALSE NEIGHBOUR: 'it returns false'. Refute it at one input. -/
def regionSetsWrong : ChangeSpec := { name := "regionSets", fn := fun _ => fun
  | [d1, d2] => { results := [.lit (.bool false)], args := [d1, d2] }
  | _ => none }
def RegionSetsWrongFalsely : Prop := regionSetsRow.holds Try.pinned (OpenSpec.ofChange regionSetsWrong)

/-- 'casementlaw02.RegionTells': WHATEVER THE INPUT: true; the input reads as it did. -/
def regionTellsSpec : ChangeSpec := { name := "regionTells", fn := fun _ => fun
  | [d1, d2] => { results := [.lit (.bool true)], args := [d1, d2] }
  | _ => none }
def regionTellsRow : OpenClaim := { program := "ytedhgdjlcddchaa", sum := "73d9e70e921e58a8d829abb33b55f790e21f4950c5d19e31bcbfb4de1b99f352", func := "casement/casementlaw02.RegionTells", spec := "regionTells", unfollowed := true, recurses := true, apart := false }
def RegionTellsSaid : Prop := regionTellsRow.holds Try.pinned (OpenSpec.ofChange regionTellsSpec)

/-- ITS FALSE NEIGHBOUR: 'it returns false'. Refute it at one input. -/
def regionTellsWrong : ChangeSpec := { name := "regionTells", fn := fun _ => fun
  | [d1, d2] => { results := [.lit (.bool false)], args := [d1, d2] }
  | _ => none }
def RegionTellsWrongFalsely : Prop := regionTellsRow.holds Try.pinned (OpenSpec.ofChange regionTellsWrong)

/-- 'casementlaw02.RegionPoints': WHATEVER THE INPUT: true; the input reads as it did. -/
def regionPointsSpec : ChangeSpec := { name := "regionPoints", fn := fun _ => fun
  | [d1, d2, d3] => { results := [.lit (.bool true)], args := [d1, d2, d3] }
  | _ => none }
def regionPointsRow : OpenClaim := { program := "ytedhgdjlcddchaa", sum := "73d9e70e921e58a8d829abb33b55f790e21f4950c5d19e31bcbfb4de1b99f352", func := "casement/casementlaw02.RegionPoints", spec := "regionPoints", unfollowed := true, recurses := true, apart := false }
def RegionPointsSaid : Prop := regionPointsRow.holds Try.pinned (OpenSpec.ofChange regionPointsSpec)

/-- ITS FALSE NEIGHBOUR: 'it returns false'. Refute it at one input. -/
def regionPointsWrong : ChangeSpec := { name := "regionPoints", fn := fun _ => fun
  | [d1, d2, d3] => { results := [.lit (.bool false)], args := [d1, d2, d3] }
  | _ => none }
def RegionPointsWrongFalsely : Prop := regionPointsRow.holds Try.pinned (OpenSpec.ofChange regionPointsWrong)

/-- 'casementlaw02.RegionOne': WHATEVER THE INPUT: true; the input reads as it did. -/
def regionOneSpec : ChangeSpec := { name := "regionOne", fn := fun _ => fun
  | [d1, d2] => { results := [.lit (.bool true)], args := [d1, d2] }
  | _ => none }
def regionOneRow : OpenClaim := { program := "ytedhgdjlcddchaa", sum := "73d9e70e921e58a8d829abb33b55f790e21f4950c5d19e31bcbfb4de1b99f352", func := "casement/casementlaw02.RegionOne", spec := "regionOne", unfollowed := true, recurses := true, apart := false }
def RegionOneSaid : Prop := regionOneRow.holds Try.pinned (OpenSpec.ofChange regionOneSpec)

/-- ITS FALSE NEIGHBOUR: 'it returns false'. Refute it at one input. -/
def regionOneWrong : ChangeSpec := { name := "regionOne", fn := fun _ => fun
  | [d1, d2] => { results := [.lit (.bool false)], args := [d1, d2] }
  | _ => none }
def RegionOneWrongFalsely : Prop := regionOneRow.holds Try.pinned (OpenSpec.ofChange regionOneWrong)

/-- 'casementlaw02.RegionParts': WHATEVER THE INPUT: true; the input reads as it did. -/
def regionPartsSpec : ChangeSpec := { name := "regionParts", fn := fun _ => fun
  | [d1, d2] => { results := [.lit (.bool true)], args := [d1, d2] }
  | _ => none }
def regionPartsRow : OpenClaim := { program := "ytedhgdjlcddchaa", sum := "73d9e70e921e58a8d829abb33b55f790e21f4950c5d19e31bcbfb4de1b99f352", func := "casement/casementlaw02.RegionParts", spec := "regionParts", unfollowed := true, recurses := true, apart := false }
def RegionPartsSaid : Prop := regionPartsRow.holds Try.pinned (OpenSpec.ofChange regionPartsSpec)

/-- ITS FALSE NEIGHBOUR: 'it returns false'. Refute it at one input. -/
def regionPartsWrong : ChangeSpec := { name := "regionParts", fn := fun _ => fun
  | [d1, d2] => { results := [.lit (.bool false)], args := [d1, d2] }
  | _ => none }
def RegionPartsWrongFalsely : Prop := regionPartsRow.holds Try.pinned (OpenSpec.ofChange regionPartsWrong)

/-- 'casementlaw02.RegionCounts': WHATEVER THE INPUT: true; the input reads as it did. -/
def regionCountsSpec : ChangeSpec := { name := "regionCounts", fn := fun _ => fun
  | [d1, d2] => { results := [.lit (.bool true)], args := [d1, d2] }
  | _ => none }
def regionCountsRow : OpenClaim := { program := "ytedhgdjlcddchaa", sum := "73d9e70e921e58a8d829abb33b55f790e21f4950c5d19e31bcbfb4de1b99f352", func := "casement/casementlaw02.RegionCounts", spec := "regionCounts", unfollowed := true, recurses := true, apart := false }
def RegionCountsSaid : Prop := regionCountsRow.holds Try.pinned (OpenSpec.ofChange regionCountsSpec)

/-- ITS FALSE NEIGHBOUR: 'it returns false'. Refute it at one input. -/
def regionCountsWrong : ChangeSpec := { name := "regionCounts", fn := fun _ => fun
  | [d1, d2] => { results := [.lit (.bool false)], args := [d1, d2] }
  | _ => none }
def RegionCountsWrongFalsely : Prop := regionCountsRow.holds Try.pinned (OpenSpec.ofChange regionCountsWrong)

/-- 'casementlaw05.FontBits': WHATEVER THE INPUT: true; the input reads as it did. -/
def fontBitsSpec : ChangeSpec := { name := "fontBits", fn := fun _ => fun
  | [d1, d2] => { results := [.lit (.bool true)], args := [d1, d2] }
  | _ => none }
def fontBitsRow : OpenClaim := { program := "ytedhgdjlcddchaa", sum := "73d9e70e921e58a8d829abb33b55f790e21f4950c5d19e31bcbfb4de1b99f352", func := "casement/casementlaw05.FontBits", spec := "fontBits", apart := false }
def FontBitsSaid : Prop := fontBitsRow.holds Try.pinned (OpenSpec.ofChange fontBitsSpec)

/-- ITS FALSE NEIGHBOUR: 'it returns false'. Refute it at one input. -/
def fontBitsWrong : ChangeSpec := { name := "fontBits", fn := fun _ => fun
  | [d1, d2] => { results := [.lit (.bool false)], args := [d1, d2] }
  | _ => none }
def FontBitsWrongFalsely : Prop := fontBitsRow.holds Try.pinned (OpenSpec.ofChange fontBitsWrong)

/-- 'casementlaw05.FontFits': WHATEVER THE INPUT: true; the input reads as it did. -/
def fontFitsSpec : ChangeSpec := { name := "fontFits", fn := fun _ => fun
  | [d1, d2] => { results := [.lit (.bool true)], args := [d1, d2] }
  | _ => none }
def fontFitsRow : OpenClaim := { program := "ytedhgdjlcddchaa", sum := "73d9e70e921e58a8d829abb33b55f790e21f4950c5d19e31bcbfb4de1b99f352", func := "casement/casementlaw05.FontFits", spec := "fontFits", apart := false }
def FontFitsSaid : Prop := fontFitsRow.holds Try.pinned (OpenSpec.ofChange fontFitsSpec)

/-- ITS FALSE NEIGHBOUR: 'it returns false'. Refute it at one input. -/
def fontFitsWrong : ChangeSpec := { name := "fontFits", fn := fun _ => fun
  | [d1, d2] => { results := [.lit (.bool false)], args := [d1, d2] }
  | _ => none }
def FontFitsWrongFalsely : Prop := fontFitsRow.holds Try.pinned (OpenSpec.ofChange fontFitsWrong)

/-- 'casementlaw05.FontDraws': WHATEVER THE INPUT: true; the input reads as it did. -/
def fontDrawsSpec : ChangeSpec := { name := "fontDraws", fn := fun _ => fun
  | [d1, d2, d3, d4, d5, d6] => { results := [.lit (.bool true)], args := [d1, d2, d3, d4, d5, d6] }
  | _ => none }
def fontDrawsRow : OpenClaim := { program := "ytedhgdjlcddchaa", sum := "73d9e70e921e58a8d829abb33b55f790e21f4950c5d19e31bcbfb4de1b99f352", func := "casement/casementlaw05.FontDraws", spec := "fontDraws", unfollowed := true, recurses := true, apart := false }
def FontDrawsSaid : Prop := fontDrawsRow.holds Try.pinned (OpenSpec.ofChange fontDrawsSpec)

/-- ITS FALSE NEIGHBOUR: 'it returns false'. Refute it at one input. -/
def fontDrawsWrong : ChangeSpec := { name := "fontDraws", fn := fun _ => fun
  | [d1, d2, d3, d4, d5, d6] => { results := [.lit (.bool false)], args := [d1, d2, d3, d4, d5, d6] }
  | _ => none }
def FontDrawsWrongFalsely : Prop := fontDrawsRow.holds Try.pinned (OpenSpec.ofChange fontDrawsWrong)

/-- 'casementlaw05.FontShort': WHATEVER THE INPUT: true; the input reads as it did. -/
def fontShortSpec : ChangeSpec := { name := "fontShort", fn := fun _ => fun
  | [d1, d2] => { results := [.lit (.bool true)], args := [d1, d2] }
  | _ => none }
def fontShortRow : OpenClaim := { program := "ytedhgdjlcddchaa", sum := "73d9e70e921e58a8d829abb33b55f790e21f4950c5d19e31bcbfb4de1b99f352", func := "casement/casementlaw05.FontShort", spec := "fontShort", apart := false }
def FontShortSaid : Prop := fontShortRow.holds Try.pinned (OpenSpec.ofChange fontShortSpec)

/-- ITS FALSE NEIGHBOUR: 'it returns false'. Refute it at one input. -/
def fontShortWrong : ChangeSpec := { name := "fontShort", fn := fun _ => fun
  | [d1, d2] => { results := [.lit (.bool false)], args := [d1, d2] }
  | _ => none }
def FontShortWrongFalsely : Prop := fontShortRow.holds Try.pinned (OpenSpec.ofChange fontShortWrong)

/-- 'casementlaw05.FontSigns': WHATEVER THE INPUT: true; the input reads as it did. -/
def fontSignsSpec : ChangeSpec := { name := "fontSigns", fn := fun _ => fun
  | [d1, d2, d3] => { results := [.lit (.bool true)], args := [d1, d2, d3] }
  | _ => none }
def fontSignsRow : OpenClaim := { program := "ytedhgdjlcddchaa", sum := "73d9e70e921e58a8d829abb33b55f790e21f4950c5d19e31bcbfb4de1b99f352", func := "casement/casementlaw05.FontSigns", spec := "fontSigns", unfollowed := true, recurses := true, apart := false }
def FontSignsSaid : Prop := fontSignsRow.holds Try.pinned (OpenSpec.ofChange fontSignsSpec)

/-- ITS FALSE NEIGHBOUR: 'it returns false'. Refute it at one input. -/
def fontSignsWrong : ChangeSpec := { name := "fontSigns", fn := fun _ => fun
  | [d1, d2, d3] => { results := [.lit (.bool false)], args := [d1, d2, d3] }
  | _ => none }
def FontSignsWrongFalsely : Prop := fontSignsRow.holds Try.pinned (OpenSpec.ofChange fontSignsWrong)

/-- 'casementlaw05.FontSeen': WHATEVER THE INPUT: true; the input reads as it did. -/
def fontSeenSpec : ChangeSpec := { name := "fontSeen", fn := fun _ => fun
  | [d] => { results := [.lit (.bool true)], args := [d] }
  | _ => none }
def fontSeenRow : OpenClaim := { program := "ytedhgdjlcddchaa", sum := "73d9e70e921e58a8d829abb33b55f790e21f4950c5d19e31bcbfb4de1b99f352", func := "casement/casementlaw05.FontSeen", spec := "fontSeen", apart := false }
def FontSeenSaid : Prop := fontSeenRow.holds Try.pinned (OpenSpec.ofChange fontSeenSpec)

/-- ITS FALSE NEIGHBOUR: 'it returns false'. Refute it at one input. -/
def fontSeenWrong : ChangeSpec := { name := "fontSeen", fn := fun _ => fun
  | [d] => { results := [.lit (.bool false)], args := [d] }
  | _ => none }
def FontSeenWrongFalsely : Prop := fontSeenRow.holds Try.pinned (OpenSpec.ofChange fontSeenWrong)

/- THE SECOND FORM. 'bulk': how many values and letters a reading holds, each counted each time it is reached (what is shared counts as often as it is met; a slice's spare places count too). A statement '..UptoSaid' is the law's where the arguments, and the package variables that the reading takes, are together of bulk at most 1048576: NARROWER than '..Said'. Prove '..Said' where nothing that the law and all that it calls make is longer than what came in: it says more and counts as full. Else prove '..UptoSaid'. A law counts once. -/
mutual
def uptoBulk {H : Type} : DataW H → Nat
  | .lit (.string bytes) => bytes.length + 1
  | .lit _ => 1
  | .nil => 1
  | .ptr d => uptoBulk d + 1
  | .slice elems spare => uptoBulkAll elems + uptoBulkAll spare + 1
  | .agg parts => uptoBulkAll parts + 1
  | .iface _ d => uptoBulk d + 1
  | .map entries => uptoBulkEntries entries + 1
  | .held _ => 1
def uptoBulkAll {H : Type} : List (DataW H) → Nat
  | [] => 0
  | d :: r => uptoBulk d + uptoBulkAll r
def uptoBulkEntries {H : Type} : List (Lit × DataW H) → Nat
  | [] => 0
  | x :: r => uptoBulkEntry x + uptoBulkEntries r
def uptoBulkEntry {H : Type} : Lit × DataW H → Nat
  | (.string bytes, d) => bytes.length + uptoBulk d + 1
  | (_, d) => uptoBulk d + 1
 end
def uptoSmall : (H : Type) → List (DataW H) → Bool := fun _ ds => decide (uptoBulkAll ds ≤ 1048576)
def OpenSpec.upto (s : _root_.Go.ChangeSpec) : _root_.Go.OpenSpec := { _root_.Go.OpenSpec.ofChange s with cond := some uptoSmall }

/-- 'casementlaw02.RegionSets', WHERE WHAT IT READS IS OF BULK AT MOST 1048576: true; the input reads as it did. -/
def regionSetsUptoRow : OpenClaim := { program := "ytedhgdjlcddchaa", sum := "73d9e70e921e58a8d829abb33b55f790e21f4950c5d19e31bcbfb4de1b99f352", func := "casement/casementlaw02.RegionSets", spec := "regionSets", unfollowed := true, recurses := true, apart := false, narrowed := true }
def RegionSetsUptoSaid : Prop := regionSetsUptoRow.holds Try.pinned (OpenSpec.upto regionSetsSpec)

/-- 'casementlaw02.RegionTells', WHERE WHAT IT READS IS OF BULK AT MOST 1048576: true; the input reads as it did. -/
def regionTellsUptoRow : OpenClaim := { program := "ytedhgdjlcddchaa", sum := "73d9e70e921e58a8d829abb33b55f790e21f4950c5d19e31bcbfb4de1b99f352", func := "casement/casementlaw02.RegionTells", spec := "regionTells", unfollowed := true, recurses := true, apart := false, narrowed := true }
def RegionTellsUptoSaid : Prop := regionTellsUptoRow.holds Try.pinned (OpenSpec.upto regionTellsSpec)

/-- 'casementlaw02.RegionPoints', WHERE WHAT IT READS IS OF BULK AT MOST 1048576: true; the input reads as it did. -/
def regionPointsUptoRow : OpenClaim := { program := "ytedhgdjlcddchaa", sum := "73d9e70e921e58a8d829abb33b55f790e21f4950c5d19e31bcbfb4de1b99f352", func := "casement/casementlaw02.RegionPoints", spec := "regionPoints", unfollowed := true, recurses := true, apart := false, narrowed := true }
def RegionPointsUptoSaid : Prop := regionPointsUptoRow.holds Try.pinned (OpenSpec.upto regionPointsSpec)

/-- 'casementlaw02.RegionOne', WHERE WHAT IT READS IS OF BULK AT MOST 1048576: true; the input reads as it did. -/
def regionOneUptoRow : OpenClaim := { program := "ytedhgdjlcddchaa", sum := "73d9e70e921e58a8d829abb33b55f790e21f4950c5d19e31bcbfb4de1b99f352", func := "casement/casementlaw02.RegionOne", spec := "regionOne", unfollowed := true, recurses := true, apart := false, narrowed := true }
def RegionOneUptoSaid : Prop := regionOneUptoRow.holds Try.pinned (OpenSpec.upto regionOneSpec)

/-- 'casementlaw02.RegionParts', WHERE WHAT IT READS IS OF BULK AT MOST 1048576: true; the input reads as it did. -/
def regionPartsUptoRow : OpenClaim := { program := "ytedhgdjlcddchaa", sum := "73d9e70e921e58a8d829abb33b55f790e21f4950c5d19e31bcbfb4de1b99f352", func := "casement/casementlaw02.RegionParts", spec := "regionParts", unfollowed := true, recurses := true, apart := false, narrowed := true }
def RegionPartsUptoSaid : Prop := regionPartsUptoRow.holds Try.pinned (OpenSpec.upto regionPartsSpec)

/-- 'casementlaw02.RegionCounts', WHERE WHAT IT READS IS OF BULK AT MOST 1048576: true; the input reads as it did. -/
def regionCountsUptoRow : OpenClaim := { program := "ytedhgdjlcddchaa", sum := "73d9e70e921e58a8d829abb33b55f790e21f4950c5d19e31bcbfb4de1b99f352", func := "casement/casementlaw02.RegionCounts", spec := "regionCounts", unfollowed := true, recurses := true, apart := false, narrowed := true }
def RegionCountsUptoSaid : Prop := regionCountsUptoRow.holds Try.pinned (OpenSpec.upto regionCountsSpec)

/-- 'casementlaw05.FontBits', WHERE WHAT IT READS IS OF BULK AT MOST 1048576: true; the input reads as it did. -/
def fontBitsUptoRow : OpenClaim := { program := "ytedhgdjlcddchaa", sum := "73d9e70e921e58a8d829abb33b55f790e21f4950c5d19e31bcbfb4de1b99f352", func := "casement/casementlaw05.FontBits", spec := "fontBits", apart := false, narrowed := true }
def FontBitsUptoSaid : Prop := fontBitsUptoRow.holds Try.pinned (OpenSpec.upto fontBitsSpec)

/-- 'casementlaw05.FontFits', WHERE WHAT IT READS IS OF BULK AT MOST 1048576: true; the input reads as it did. -/
def fontFitsUptoRow : OpenClaim := { program := "ytedhgdjlcddchaa", sum := "73d9e70e921e58a8d829abb33b55f790e21f4950c5d19e31bcbfb4de1b99f352", func := "casement/casementlaw05.FontFits", spec := "fontFits", apart := false, narrowed := true }
def FontFitsUptoSaid : Prop := fontFitsUptoRow.holds Try.pinned (OpenSpec.upto fontFitsSpec)

/-- 'casementlaw05.FontDraws', WHERE WHAT IT READS IS OF BULK AT MOST 1048576: true; the input reads as it did. -/
def fontDrawsUptoRow : OpenClaim := { program := "ytedhgdjlcddchaa", sum := "73d9e70e921e58a8d829abb33b55f790e21f4950c5d19e31bcbfb4de1b99f352", func := "casement/casementlaw05.FontDraws", spec := "fontDraws", unfollowed := true, recurses := true, apart := false, narrowed := true }
def FontDrawsUptoSaid : Prop := fontDrawsUptoRow.holds Try.pinned (OpenSpec.upto fontDrawsSpec)

/-- 'casementlaw05.FontShort', WHERE WHAT IT READS IS OF BULK AT MOST 1048576: true; the input reads as it did. -/
def fontShortUptoRow : OpenClaim := { program := "ytedhgdjlcddchaa", sum := "73d9e70e921e58a8d829abb33b55f790e21f4950c5d19e31bcbfb4de1b99f352", func := "casement/casementlaw05.FontShort", spec := "fontShort", apart := false, narrowed := true }
def FontShortUptoSaid : Prop := fontShortUptoRow.holds Try.pinned (OpenSpec.upto fontShortSpec)

/-- 'casementlaw05.FontSigns', WHERE WHAT IT READS IS OF BULK AT MOST 1048576: true; the input reads as it did. -/
def fontSignsUptoRow : OpenClaim := { program := "ytedhgdjlcddchaa", sum := "73d9e70e921e58a8d829abb33b55f790e21f4950c5d19e31bcbfb4de1b99f352", func := "casement/casementlaw05.FontSigns", spec := "fontSigns", unfollowed := true, recurses := true, apart := false, narrowed := true }
def FontSignsUptoSaid : Prop := fontSignsUptoRow.holds Try.pinned (OpenSpec.upto fontSignsSpec)

/-- 'casementlaw05.FontSeen', WHERE WHAT IT READS IS OF BULK AT MOST 1048576: true; the input reads as it did. -/
def fontSeenUptoRow : OpenClaim := { program := "ytedhgdjlcddchaa", sum := "73d9e70e921e58a8d829abb33b55f790e21f4950c5d19e31bcbfb4de1b99f352", func := "casement/casementlaw05.FontSeen", spec := "fontSeen", apart := false, narrowed := true }
def FontSeenUptoSaid : Prop := fontSeenUptoRow.holds Try.pinned (OpenSpec.upto fontSeenSpec)

end Rows
end Go.Proofs.Ytedhgdjlcddchaa
