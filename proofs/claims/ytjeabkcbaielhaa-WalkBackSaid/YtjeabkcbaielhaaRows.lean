/-
  NARROWER THAN 'FOR EVERY INPUT', by the rows' own cells (each row's printed sentence says how): ConsChecks: loops · ConsTells: loops · ConsInserts: loops · ConsRemoves: loops · ConsChanges: loops · ConsGrows: loops · ConsBack: loops · ConsRight: loops · WalkNext: loops · WalkMoves: loops · WalkKeeps: loops · WalkOther: loops · WalkBack: loops · WalkEnds: loops.
  DERIVED. THE GIVEN ROWS OF THIS SEAT. 14 by the template 'for every input the law returns true; each argument reads behind the call as it read before'; 0 by the template 'total and deterministic' (their statements: YtjeabkcbaielhaaTotals.lean).
  GIVEN WITH THE SEED: the statements are not yours to turn. If you find one false, say at which input.
  Laid BY PROGRAM, IN A SANDBOX (cutbox-rows.mjs): the forced cells as the released guide's own fill.sh prints them over the translation 25dddc3245fa215d… (all of the seat's roots in one cut). By AI agents, Wed Nov 11 2026. No macro, syntax, notation, axiom, sorry.
-/
import Derived.Test.YtjeabkcbaielhaaChecked
import GoSem.Claim
import GoSem.ClaimJoined
import GoSem.ClaimMapViews
import Derived.JoinedTies
import Derived.KernelRfl
namespace Go.Proofs.Ytjeabkcbaielhaa
/- THE CELL 'sum', in the pinned program and in every row, IS THE sha256 OF THE DUMP (.gsa) THAT YtjeabkcbaielhaaProg.lean LOADS. Nothing in Lean hashes anything: it is a label: what it is worth is what the hold of that sum in a sandbox is worth. -/
noncomputable def Try.pinned : Pinned := { name := "ytjeabkcbaielhaa", sum := "25dddc3245fa215d61b70a366bb26b5e8281994c99546e8fc53a93fdea0259fc", checked := Try.checked }
namespace Rows
def none {H : Type} : Left H := { results := [], args := [] }

/-- 'casementlaw11.ConsChecks': WHATEVER THE INPUT: true; the input reads as it did. -/
def consChecksSpec : ChangeSpec := { name := "consChecks", fn := fun _ => fun
  | [d1, d2] => { results := [.lit (.bool true)], args := [d1, d2] }
  | _ => none }
def consChecksRow : OpenClaim := { program := "ytjeabkcbaielhaa", sum := "25dddc3245fa215d61b70a366bb26b5e8281994c99546e8fc53a93fdea0259fc", func := "casement/casementlaw11.ConsChecks", spec := "consChecks", inPlace := ["slices.overlaps[casement/api.Con]"], unfollowed := true, recurses := true, loops := true, apart := false }
def ConsChecksSaid : Prop := consChecksRow.holds Try.pinned (OpenSpec.ofChange consChecksSpec)

/-- ITS FALSE NEIGHBOUR: 'it returns false'. Refute it at one input. -/
def consChecksWrong : ChangeSpec := { name := "consChecks", fn := fun _ => fun
  | [d1, d2] => { results := [.lit (.bool false)], args := [d1, d2] }
  | _ => none }
def ConsChecksWrongFalsely : Prop := consChecksRow.holds Try.pinned (OpenSpec.ofChange consChecksWrong)

/-- 'casementlaw11.ConsTells': WHATEVER THE INPUT: true; the input reads as it did. -/
def consTellsSpec : ChangeSpec := { name := "consTells", fn := fun _ => fun
  | [d1, d2] => { results := [.lit (.bool true)], args := [d1, d2] }
  | _ => none }
def consTellsRow : OpenClaim := { program := "ytjeabkcbaielhaa", sum := "25dddc3245fa215d61b70a366bb26b5e8281994c99546e8fc53a93fdea0259fc", func := "casement/casementlaw11.ConsTells", spec := "consTells", inPlace := ["slices.overlaps[casement/api.Con]"], unfollowed := true, recurses := true, loops := true, apart := false }
def ConsTellsSaid : Prop := consTellsRow.holds Try.pinned (OpenSpec.ofChange consTellsSpec)

/-- ITS FALSE NEIGHBOUR: 'it returns false'. Refute it at one input. -/
def consTellsWrong : ChangeSpec := { name := "consTells", fn := fun _ => fun
  | [d1, d2] => { results := [.lit (.bool false)], args := [d1, d2] }
  | _ => none }
def ConsTellsWrongFalsely : Prop := consTellsRow.holds Try.pinned (OpenSpec.ofChange consTellsWrong)

/-- 'casementlaw11.ConsInserts': WHATEVER THE INPUT: true; the input reads as it did. -/
def consInsertsSpec : ChangeSpec := { name := "consInserts", fn := fun _ => fun
  | [d1, d2, d3, d4] => { results := [.lit (.bool true)], args := [d1, d2, d3, d4] }
  | _ => none }
def consInsertsRow : OpenClaim := { program := "ytjeabkcbaielhaa", sum := "25dddc3245fa215d61b70a366bb26b5e8281994c99546e8fc53a93fdea0259fc", func := "casement/casementlaw11.ConsInserts", spec := "consInserts", inPlace := ["slices.overlaps[casement/api.Con]"], unfollowed := true, recurses := true, loops := true, apart := false }
def ConsInsertsSaid : Prop := consInsertsRow.holds Try.pinned (OpenSpec.ofChange consInsertsSpec)

/-- ITS FALSE NEIGHBOUR: 'it returns false'. Refute it at one input. -/
def consInsertsWrong : ChangeSpec := { name := "consInserts", fn := fun _ => fun
  | [d1, d2, d3, d4] => { results := [.lit (.bool false)], args := [d1, d2, d3, d4] }
  | _ => none }
def ConsInsertsWrongFalsely : Prop := consInsertsRow.holds Try.pinned (OpenSpec.ofChange consInsertsWrong)

/-- 'casementlaw11.ConsRemoves': WHATEVER THE INPUT: true; the input reads as it did. -/
def consRemovesSpec : ChangeSpec := { name := "consRemoves", fn := fun _ => fun
  | [d1, d2] => { results := [.lit (.bool true)], args := [d1, d2] }
  | _ => none }
def consRemovesRow : OpenClaim := { program := "ytjeabkcbaielhaa", sum := "25dddc3245fa215d61b70a366bb26b5e8281994c99546e8fc53a93fdea0259fc", func := "casement/casementlaw11.ConsRemoves", spec := "consRemoves", inPlace := ["slices.overlaps[casement/api.Con]"], unfollowed := true, recurses := true, loops := true, apart := false }
def ConsRemovesSaid : Prop := consRemovesRow.holds Try.pinned (OpenSpec.ofChange consRemovesSpec)

/-- ITS FALSE NEIGHBOUR: 'it returns false'. Refute it at one input. -/
def consRemovesWrong : ChangeSpec := { name := "consRemoves", fn := fun _ => fun
  | [d1, d2] => { results := [.lit (.bool false)], args := [d1, d2] }
  | _ => none }
def ConsRemovesWrongFalsely : Prop := consRemovesRow.holds Try.pinned (OpenSpec.ofChange consRemovesWrong)

/-- 'casementlaw11.ConsChanges': WHATEVER THE INPUT: true; the input reads as it did. -/
def consChangesSpec : ChangeSpec := { name := "consChanges", fn := fun _ => fun
  | [d1, d2, d3, d4] => { results := [.lit (.bool true)], args := [d1, d2, d3, d4] }
  | _ => none }
def consChangesRow : OpenClaim := { program := "ytjeabkcbaielhaa", sum := "25dddc3245fa215d61b70a366bb26b5e8281994c99546e8fc53a93fdea0259fc", func := "casement/casementlaw11.ConsChanges", spec := "consChanges", inPlace := ["slices.overlaps[casement/api.Con]"], unfollowed := true, recurses := true, loops := true, apart := false }
def ConsChangesSaid : Prop := consChangesRow.holds Try.pinned (OpenSpec.ofChange consChangesSpec)

/-- ITS FALSE NEIGHBOUR: 'it returns false'. Refute it at one input. -/
def consChangesWrong : ChangeSpec := { name := "consChanges", fn := fun _ => fun
  | [d1, d2, d3, d4] => { results := [.lit (.bool false)], args := [d1, d2, d3, d4] }
  | _ => none }
def ConsChangesWrongFalsely : Prop := consChangesRow.holds Try.pinned (OpenSpec.ofChange consChangesWrong)

/-- 'casementlaw11.ConsGrows': WHATEVER THE INPUT: true; the input reads as it did. -/
def consGrowsSpec : ChangeSpec := { name := "consGrows", fn := fun _ => fun
  | [d1, d2, d3, d4] => { results := [.lit (.bool true)], args := [d1, d2, d3, d4] }
  | _ => none }
def consGrowsRow : OpenClaim := { program := "ytjeabkcbaielhaa", sum := "25dddc3245fa215d61b70a366bb26b5e8281994c99546e8fc53a93fdea0259fc", func := "casement/casementlaw11.ConsGrows", spec := "consGrows", inPlace := ["slices.overlaps[casement/api.Con]"], unfollowed := true, recurses := true, loops := true, apart := false }
def ConsGrowsSaid : Prop := consGrowsRow.holds Try.pinned (OpenSpec.ofChange consGrowsSpec)

/-- ITS FALSE NEIGHBOUR: 'it returns false'. Refute it at one input. -/
def consGrowsWrong : ChangeSpec := { name := "consGrows", fn := fun _ => fun
  | [d1, d2, d3, d4] => { results := [.lit (.bool false)], args := [d1, d2, d3, d4] }
  | _ => none }
def ConsGrowsWrongFalsely : Prop := consGrowsRow.holds Try.pinned (OpenSpec.ofChange consGrowsWrong)

/-- 'casementlaw11.ConsBack': WHATEVER THE INPUT: true; the input reads as it did. -/
def consBackSpec : ChangeSpec := { name := "consBack", fn := fun _ => fun
  | [d1, d2, d3] => { results := [.lit (.bool true)], args := [d1, d2, d3] }
  | _ => none }
def consBackRow : OpenClaim := { program := "ytjeabkcbaielhaa", sum := "25dddc3245fa215d61b70a366bb26b5e8281994c99546e8fc53a93fdea0259fc", func := "casement/casementlaw11.ConsBack", spec := "consBack", inPlace := ["slices.overlaps[casement/api.Con]"], unfollowed := true, recurses := true, loops := true, apart := false }
def ConsBackSaid : Prop := consBackRow.holds Try.pinned (OpenSpec.ofChange consBackSpec)

/-- ITS FALSE NEIGHBOUR: 'it returns false'. Refute it at one input. -/
def consBackWrong : ChangeSpec := { name := "consBack", fn := fun _ => fun
  | [d1, d2, d3] => { results := [.lit (.bool false)], args := [d1, d2, d3] }
  | _ => none }
def ConsBackWrongFalsely : Prop := consBackRow.holds Try.pinned (OpenSpec.ofChange consBackWrong)

/-- 'casementlaw11.ConsRight': WHATEVER THE INPUT: true; the input reads as it did. -/
def consRightSpec : ChangeSpec := { name := "consRight", fn := fun _ => fun
  | [d1, d2, d3, d4, d5] => { results := [.lit (.bool true)], args := [d1, d2, d3, d4, d5] }
  | _ => none }
def consRightRow : OpenClaim := { program := "ytjeabkcbaielhaa", sum := "25dddc3245fa215d61b70a366bb26b5e8281994c99546e8fc53a93fdea0259fc", func := "casement/casementlaw11.ConsRight", spec := "consRight", inPlace := ["slices.overlaps[casement/api.Con]"], unfollowed := true, recurses := true, loops := true, apart := false }
def ConsRightSaid : Prop := consRightRow.holds Try.pinned (OpenSpec.ofChange consRightSpec)

/-- ITS FALSE NEIGHBOUR: 'it returns false'. Refute it at one input. -/
def consRightWrong : ChangeSpec := { name := "consRight", fn := fun _ => fun
  | [d1, d2, d3, d4, d5] => { results := [.lit (.bool false)], args := [d1, d2, d3, d4, d5] }
  | _ => none }
def ConsRightWrongFalsely : Prop := consRightRow.holds Try.pinned (OpenSpec.ofChange consRightWrong)

/-- 'casementlaw12.WalkNext': WHATEVER THE INPUT: true; the input reads as it did. -/
def walkNextSpec : ChangeSpec := { name := "walkNext", fn := fun _ => fun
  | [d1, d2, d3] => { results := [.lit (.bool true)], args := [d1, d2, d3] }
  | _ => none }
def walkNextRow : OpenClaim := { program := "ytjeabkcbaielhaa", sum := "25dddc3245fa215d61b70a366bb26b5e8281994c99546e8fc53a93fdea0259fc", func := "casement/casementlaw12.WalkNext", spec := "walkNext", inPlace := ["slices.overlaps[casement/api.Con]"], unfollowed := true, recurses := true, loops := true, apart := false }
def WalkNextSaid : Prop := walkNextRow.holds Try.pinned (OpenSpec.ofChange walkNextSpec)

/-- ITS FALSE NEIGHBOUR: 'it returns false'. Refute it at one input. -/
def walkNextWrong : ChangeSpec := { name := "walkNext", fn := fun _ => fun
  | [d1, d2, d3] => { results := [.lit (.bool false)], args := [d1, d2, d3] }
  | _ => none }
def WalkNextWrongFalsely : Prop := walkNextRow.holds Try.pinned (OpenSpec.ofChange walkNextWrong)

/-- 'casementlaw12.WalkMoves': WHATEVER THE INPUT: true; the input reads as it did. -/
def walkMovesSpec : ChangeSpec := { name := "walkMoves", fn := fun _ => fun
  | [d1, d2, d3] => { results := [.lit (.bool true)], args := [d1, d2, d3] }
  | _ => none }
def walkMovesRow : OpenClaim := { program := "ytjeabkcbaielhaa", sum := "25dddc3245fa215d61b70a366bb26b5e8281994c99546e8fc53a93fdea0259fc", func := "casement/casementlaw12.WalkMoves", spec := "walkMoves", inPlace := ["slices.overlaps[casement/api.Con]"], unfollowed := true, recurses := true, loops := true, apart := false }
def WalkMovesSaid : Prop := walkMovesRow.holds Try.pinned (OpenSpec.ofChange walkMovesSpec)

/-- ITS FALSE NEIGHBOUR: 'it returns false'. Refute it at one input. -/
def walkMovesWrong : ChangeSpec := { name := "walkMoves", fn := fun _ => fun
  | [d1, d2, d3] => { results := [.lit (.bool false)], args := [d1, d2, d3] }
  | _ => none }
def WalkMovesWrongFalsely : Prop := walkMovesRow.holds Try.pinned (OpenSpec.ofChange walkMovesWrong)

/-- 'casementlaw12.WalkKeeps': WHATEVER THE INPUT: true; the input reads as it did. -/
def walkKeepsSpec : ChangeSpec := { name := "walkKeeps", fn := fun _ => fun
  | [d1, d2, d3] => { results := [.lit (.bool true)], args := [d1, d2, d3] }
  | _ => none }
def walkKeepsRow : OpenClaim := { program := "ytjeabkcbaielhaa", sum := "25dddc3245fa215d61b70a366bb26b5e8281994c99546e8fc53a93fdea0259fc", func := "casement/casementlaw12.WalkKeeps", spec := "walkKeeps", inPlace := ["slices.overlaps[casement/api.Con]"], unfollowed := true, recurses := true, loops := true, apart := false }
def WalkKeepsSaid : Prop := walkKeepsRow.holds Try.pinned (OpenSpec.ofChange walkKeepsSpec)

/-- ITS FALSE NEIGHBOUR: 'it returns false'. Refute it at one input. -/
def walkKeepsWrong : ChangeSpec := { name := "walkKeeps", fn := fun _ => fun
  | [d1, d2, d3] => { results := [.lit (.bool false)], args := [d1, d2, d3] }
  | _ => none }
def WalkKeepsWrongFalsely : Prop := walkKeepsRow.holds Try.pinned (OpenSpec.ofChange walkKeepsWrong)

/-- 'casementlaw12.WalkOther': WHATEVER THE INPUT: true; the input reads as it did. -/
def walkOtherSpec : ChangeSpec := { name := "walkOther", fn := fun _ => fun
  | [d1, d2, d3] => { results := [.lit (.bool true)], args := [d1, d2, d3] }
  | _ => none }
def walkOtherRow : OpenClaim := { program := "ytjeabkcbaielhaa", sum := "25dddc3245fa215d61b70a366bb26b5e8281994c99546e8fc53a93fdea0259fc", func := "casement/casementlaw12.WalkOther", spec := "walkOther", inPlace := ["slices.overlaps[casement/api.Con]"], unfollowed := true, recurses := true, loops := true, apart := false }
def WalkOtherSaid : Prop := walkOtherRow.holds Try.pinned (OpenSpec.ofChange walkOtherSpec)

/-- ITS FALSE NEIGHBOUR: 'it returns false'. Refute it at one input. -/
def walkOtherWrong : ChangeSpec := { name := "walkOther", fn := fun _ => fun
  | [d1, d2, d3] => { results := [.lit (.bool false)], args := [d1, d2, d3] }
  | _ => none }
def WalkOtherWrongFalsely : Prop := walkOtherRow.holds Try.pinned (OpenSpec.ofChange walkOtherWrong)

/-- 'casementlaw12.WalkBack': WHATEVER THE INPUT: true; the input reads as it did. -/
def walkBackSpec : ChangeSpec := { name := "walkBack", fn := fun _ => fun
  | [d1, d2, d3] => { results := [.lit (.bool true)], args := [d1, d2, d3] }
  | _ => none }
def walkBackRow : OpenClaim := { program := "ytjeabkcbaielhaa", sum := "25dddc3245fa215d61b70a366bb26b5e8281994c99546e8fc53a93fdea0259fc", func := "casement/casementlaw12.WalkBack", spec := "walkBack", inPlace := ["slices.overlaps[casement/api.Con]"], unfollowed := true, recurses := true, loops := true, apart := false }
def WalkBackSaid : Prop := walkBackRow.holds Try.pinned (OpenSpec.ofChange walkBackSpec)

/-- ITS FALSE NEIGHBOUR: 'it returns false'. Refute it at one input. -/
def walkBackWrong : ChangeSpec := { name := "walkBack", fn := fun _ => fun
  | [d1, d2, d3] => { results := [.lit (.bool false)], args := [d1, d2, d3] }
  | _ => none }
def WalkBackWrongFalsely : Prop := walkBackRow.holds Try.pinned (OpenSpec.ofChange walkBackWrong)

/-- 'casementlaw12.WalkEnds': WHATEVER THE INPUT: true; the input reads as it did. -/
def walkEndsSpec : ChangeSpec := { name := "walkEnds", fn := fun _ => fun
  | [d1, d2, d3] => { results := [.lit (.bool true)], args := [d1, d2, d3] }
  | _ => none }
def walkEndsRow : OpenClaim := { program := "ytjeabkcbaielhaa", sum := "25dddc3245fa215d61b70a366bb26b5e8281994c99546e8fc53a93fdea0259fc", func := "casement/casementlaw12.WalkEnds", spec := "walkEnds", inPlace := ["slices.overlaps[casement/api.Con]"], unfollowed := true, recurses := true, loops := true, apart := false }
def WalkEndsSaid : Prop := walkEndsRow.holds Try.pinned (OpenSpec.ofChange walkEndsSpec)

/-- ITS FALSE NEIGHBOUR: 'it returns false'. Refute it at one input. -/
def walkEndsWrong : ChangeSpec := { name := "walkEnds", fn := fun _ => fun
  | [d1, d2, d3] => { results := [.lit (.bool false)], args := [d1, d2, d3] }
  | _ => none }
def WalkEndsWrongFalsely : Prop := walkEndsRow.holds Try.pinned (OpenSpec.ofChange walkEndsWrong)

/- THE SECOND FORM. 'bulk': how many values and letters a reading holds, each counted each time it is reached (what is shared counts as often as it is met; a slice's spare places count too). A statement '..UptoSaid' is the law's where the arguments, and the package variables that the reading takes, are together of bulk at most 1048576: NARROWER than '..Said'. Prove '..Said' where nothing that the law and all that it calls make is longer than what came in: it says more and counts as full. Else prove '..UptoSaid'. A law counts once. -/
mutual
def uptoBulk {H : Type} : DataW H → Nat
  | .lit (.string bytes) => bytes.length + 1
  | .lit _ => 1
  | .nil => 1
  | .ptr d => uptoBulk d + 1
  | .slice elems spare => uptoBulkAll elems + uptoBulkAll spare + 1
  | .agg parts => uptoBulkAll parts + 1
  | .iface _ d => uptoBulk d + 1
  | .map entries => uptoBulkEntries entries + 1
  | .held _ => 1
def uptoBulkAll {H : Type} : List (DataW H) → Nat
  | [] => 0
  | d :: r => uptoBulk d + uptoBulkAll r
def uptoBulkEntries {H : Type} : List (Lit × DataW H) → Nat
  | [] => 0
  | x :: r => uptoBulkEntry x + uptoBulkEntries r
def uptoBulkEntry {H : Type} : Lit × DataW H → Nat
  | (.string bytes, d) => bytes.length + uptoBulk d + 1
  | (_, d) => uptoBulk d + 1
 end
def uptoSmall : (H : Type) → List (DataW H) → Bool := fun _ ds => decide (uptoBulkAll ds ≤ 1048576)
def OpenSpec.upto (s : _root_.Go.ChangeSpec) : _root_.Go.OpenSpec := { _root_.Go.OpenSpec.ofChange s with cond := some uptoSmall }

/-- 'casementlaw11.ConsChecks', WHERE WHAT IT READS IS OF BULK AT MOST 1048576: true; the input reads as it did. -/
def consChecksUptoRow : OpenClaim := { program := "ytjeabkcbaielhaa", sum := "25dddc3245fa215d61b70a366bb26b5e8281994c99546e8fc53a93fdea0259fc", func := "casement/casementlaw11.ConsChecks", spec := "consChecks", inPlace := ["slices.overlaps[casement/api.Con]"], unfollowed := true, recurses := true, loops := true, apart := false, narrowed := true }
def ConsChecksUptoSaid : Prop := consChecksUptoRow.holds Try.pinned (OpenSpec.upto consChecksSpec)

/-- 'casementlaw11.ConsTells', WHERE WHAT IT READS IS OF BULK AT MOST 1048576: true; the input reads as it did. -/
def consTellsUptoRow : OpenClaim := { program := "ytjeabkcbaielhaa", sum := "25dddc3245fa215d61b70a366bb26b5e8281994c99546e8fc53a93fdea0259fc", func := "casement/casementlaw11.ConsTells", spec := "consTells", inPlace := ["slices.overlaps[casement/api.Con]"], unfollowed := true, recurses := true, loops := true, apart := false, narrowed := true }
def ConsTellsUptoSaid : Prop := consTellsUptoRow.holds Try.pinned (OpenSpec.upto consTellsSpec)

/-- 'casementlaw11.ConsInserts', WHERE WHAT IT READS IS OF BULK AT MOST 1048576: true; the input reads as it did. -/
def consInsertsUptoRow : OpenClaim := { program := "ytjeabkcbaielhaa", sum := "25dddc3245fa215d61b70a366bb26b5e8281994c99546e8fc53a93fdea0259fc", func := "casement/casementlaw11.ConsInserts", spec := "consInserts", inPlace := ["slices.overlaps[casement/api.Con]"], unfollowed := true, recurses := true, loops := true, apart := false, narrowed := true }
def ConsInsertsUptoSaid : Prop := consInsertsUptoRow.holds Try.pinned (OpenSpec.upto consInsertsSpec)

/-- 'casementlaw11.ConsRemoves', WHERE WHAT IT READS IS OF BULK AT MOST 1048576: true; the input reads as it did. -/
def consRemovesUptoRow : OpenClaim := { program := "ytjeabkcbaielhaa", sum := "25dddc3245fa215d61b70a366bb26b5e8281994c99546e8fc53a93fdea0259fc", func := "casement/casementlaw11.ConsRemoves", spec := "consRemoves", inPlace := ["slices.overlaps[casement/api.Con]"], unfollowed := true, recurses := true, loops := true, apart := false, narrowed := true }
def ConsRemovesUptoSaid : Prop := consRemovesUptoRow.holds Try.pinned (OpenSpec.upto consRemovesSpec)

/-- 'casementlaw11.ConsChanges', WHERE WHAT IT READS IS OF BULK AT MOST 1048576: true; the input reads as it did. -/
def consChangesUptoRow : OpenClaim := { program := "ytjeabkcbaielhaa", sum := "25dddc3245fa215d61b70a366bb26b5e8281994c99546e8fc53a93fdea0259fc", func := "casement/casementlaw11.ConsChanges", spec := "consChanges", inPlace := ["slices.overlaps[casement/api.Con]"], unfollowed := true, recurses := true, loops := true, apart := false, narrowed := true }
def ConsChangesUptoSaid : Prop := consChangesUptoRow.holds Try.pinned (OpenSpec.upto consChangesSpec)

/-- 'casementlaw11.ConsGrows', WHERE WHAT IT READS IS OF BULK AT MOST 1048576: true; the input reads as it did. -/
def consGrowsUptoRow : OpenClaim := { program := "ytjeabkcbaielhaa", sum := "25dddc3245fa215d61b70a366bb26b5e8281994c99546e8fc53a93fdea0259fc", func := "casement/casementlaw11.ConsGrows", spec := "consGrows", inPlace := ["slices.overlaps[casement/api.Con]"], unfollowed := true, recurses := true, loops := true, apart := false, narrowed := true }
def ConsGrowsUptoSaid : Prop := consGrowsUptoRow.holds Try.pinned (OpenSpec.upto consGrowsSpec)

/-- 'casementlaw11.ConsBack', WHERE WHAT IT READS IS OF BULK AT MOST 1048576: true; the input reads as it did. -/
def consBackUptoRow : OpenClaim := { program := "ytjeabkcbaielhaa", sum := "25dddc3245fa215d61b70a366bb26b5e8281994c99546e8fc53a93fdea0259fc", func := "casement/casementlaw11.ConsBack", spec := "consBack", inPlace := ["slices.overlaps[casement/api.Con]"], unfollowed := true, recurses := true, loops := true, apart := false, narrowed := true }
def ConsBackUptoSaid : Prop := consBackUptoRow.holds Try.pinned (OpenSpec.upto consBackSpec)

/-- 'casementlaw11.ConsRight', WHERE WHAT IT READS IS OF BULK AT MOST 1048576: true; the input reads as it did. -/
def consRightUptoRow : OpenClaim := { program := "ytjeabkcbaielhaa", sum := "25dddc3245fa215d61b70a366bb26b5e8281994c99546e8fc53a93fdea0259fc", func := "casement/casementlaw11.ConsRight", spec := "consRight", inPlace := ["slices.overlaps[casement/api.Con]"], unfollowed := true, recurses := true, loops := true, apart := false, narrowed := true }
def ConsRightUptoSaid : Prop := consRightUptoRow.holds Try.pinned (OpenSpec.upto consRightSpec)

/-- 'casementlaw12.WalkNext', WHERE WHAT IT READS IS OF BULK AT MOST 1048576: true; the input reads as it did. -/
def walkNextUptoRow : OpenClaim := { program := "ytjeabkcbaielhaa", sum := "25dddc3245fa215d61b70a366bb26b5e8281994c99546e8fc53a93fdea0259fc", func := "casement/casementlaw12.WalkNext", spec := "walkNext", inPlace := ["slices.overlaps[casement/api.Con]"], unfollowed := true, recurses := true, loops := true, apart := false, narrowed := true }
def WalkNextUptoSaid : Prop := walkNextUptoRow.holds Try.pinned (OpenSpec.upto walkNextSpec)

/-- 'casementlaw12.WalkMoves', WHERE WHAT IT READS IS OF BULK AT MOST 1048576: true; the input reads as it did. -/
def walkMovesUptoRow : OpenClaim := { program := "ytjeabkcbaielhaa", sum := "25dddc3245fa215d61b70a366bb26b5e8281994c99546e8fc53a93fdea0259fc", func := "casement/casementlaw12.WalkMoves", spec := "walkMoves", inPlace := ["slices.overlaps[casement/api.Con]"], unfollowed := true, recurses := true, loops := true, apart := false, narrowed := true }
def WalkMovesUptoSaid : Prop := walkMovesUptoRow.holds Try.pinned (OpenSpec.upto walkMovesSpec)

/-- 'casementlaw12.WalkKeeps', WHERE WHAT IT READS IS OF BULK AT MOST 1048576: true; the input reads as it did. -/
def walkKeepsUptoRow : OpenClaim := { program := "ytjeabkcbaielhaa", sum := "25dddc3245fa215d61b70a366bb26b5e8281994c99546e8fc53a93fdea0259fc", func := "casement/casementlaw12.WalkKeeps", spec := "walkKeeps", inPlace := ["slices.overlaps[casement/api.Con]"], unfollowed := true, recurses := true, loops := true, apart := false, narrowed := true }
def WalkKeepsUptoSaid : Prop := walkKeepsUptoRow.holds Try.pinned (OpenSpec.upto walkKeepsSpec)

/-- 'casementlaw12.WalkOther', WHERE WHAT IT READS IS OF BULK AT MOST 1048576: true; the input reads as it did. -/
def walkOtherUptoRow : OpenClaim := { program := "ytjeabkcbaielhaa", sum := "25dddc3245fa215d61b70a366bb26b5e8281994c99546e8fc53a93fdea0259fc", func := "casement/casementlaw12.WalkOther", spec := "walkOther", inPlace := ["slices.overlaps[casement/api.Con]"], unfollowed := true, recurses := true, loops := true, apart := false, narrowed := true }
def WalkOtherUptoSaid : Prop := walkOtherUptoRow.holds Try.pinned (OpenSpec.upto walkOtherSpec)

/-- 'casementlaw12.WalkBack', WHERE WHAT IT READS IS OF BULK AT MOST 1048576: true; the input reads as it did. -/
def walkBackUptoRow : OpenClaim := { program := "ytjeabkcbaielhaa", sum := "25dddc3245fa215d61b70a366bb26b5e8281994c99546e8fc53a93fdea0259fc", func := "casement/casementlaw12.WalkBack", spec := "walkBack", inPlace := ["slices.overlaps[casement/api.Con]"], unfollowed := true, recurses := true, loops := true, apart := false, narrowed := true }
def WalkBackUptoSaid : Prop := walkBackUptoRow.holds Try.pinned (OpenSpec.upto walkBackSpec)

/-- 'casementlaw12.WalkEnds', WHERE WHAT IT READS IS OF BULK AT MOST 1048576: true; the input reads as it did. -/
def walkEndsUptoRow : OpenClaim := { program := "ytjeabkcbaielhaa", sum := "25dddc3245fa215d61b70a366bb26b5e8281994c99546e8fc53a93fdea0259fc", func := "casement/casementlaw12.WalkEnds", spec := "walkEnds", inPlace := ["slices.overlaps[casement/api.Con]"], unfollowed := true, recurses := true, loops := true, apart := false, narrowed := true }
def WalkEndsUptoSaid : Prop := walkEndsUptoRow.holds Try.pinned (OpenSpec.upto walkEndsSpec)

end Rows
end Go.Proofs.Ytjeabkcbaielhaa
