/-
  No cell of these rows narrows 'for every input' (looked for: loops, veiled, ifaces, maps, wideKeys, modest, calm, conditions, laid).
  DERIVED. THE GIVEN ROWS OF THIS SEAT. 6 by the template 'for every input the law returns true; each argument reads behind the call as it read before'; 0 by the template 'total and deterministic' (their statements: YtphmlfklmleafaaTotals.lean).
  GIVEN WITH THE SEED: the statements are not yours to turn. If you find one false, say at which input.
  Laid BY PROGRAM, IN A SANDBOX (cutbox-rows.mjs): the forced cells as the released guide's own fill.sh prints them over the translation 55876769196bf7b8… (all of the seat's roots in one cut). By AI agents, Wed Nov 11 2026. No macro, syntax, notation, axiom, sorry.
-/
import Derived.Test.YtphmlfklmleafaaChecked
import GoSem.Claim
import GoSem.ClaimJoined
import GoSem.ClaimMapViews
import Derived.JoinedTies
import Derived.KernelRfl
namespace Go.Proofs.Ytphmlfklmleafaa
/- THE CELL 'sum', in the pinned program and in every row, IS THE sha256 OF THE DUMP (.gsa) THAT YtphmlfklmleafaaProg.lean LOADS. Nothing in Lean hashes anything: it is a label: what it is worth is what the hold of that sum in a sandbox is worth. -/
noncomputable def Try.pinned : Pinned := { name := "ytphmlfklmleafaa", sum := "55876769196bf7b8933bf43d946070bf5b8c811f1f1e656a05a1de03fd9b2b25", checked := Try.checked }
namespace Rows
def none {H : Type} : Left H := { results := [], args := [] }

/-- 'casementlaw06.WindowPlays': WHATEVER THE INPUT: true; the input reads as it did. -/
def windowPlaysSpec : ChangeSpec := { name := "windowPlays", fn := fun _ => fun
  | [d1, d2, d3] => { results := [.lit (.bool true)], args := [d1, d2, d3] }
  | _ => none }
def windowPlaysRow : OpenClaim := { program := "ytphmlfklmleafaa", sum := "55876769196bf7b8933bf43d946070bf5b8c811f1f1e656a05a1de03fd9b2b25", func := "casement/casementlaw06.WindowPlays", spec := "windowPlays", inPlace := ["slices.overlaps[int]"], unfollowed := true, recurses := true, apart := false }
def WindowPlaysSaid : Prop := windowPlaysRow.holds Try.pinned (OpenSpec.ofChange windowPlaysSpec)

/-- ITS FALSE NEIGHBOUR: 'it returns false'. Refute it at one input. -/
def windowPlaysWrong : ChangeSpec := { name := "windowPlays", fn := fun _ => fun
  | [d1, d2, d3] => { results := [.lit (.bool false)], args := [d1, d2, d3] }
  | _ => none }
def WindowPlaysWrongFalsely : Prop := windowPlaysRow.holds Try.pinned (OpenSpec.ofChange windowPlaysWrong)

/-- 'casementlaw06.WindowSound': WHATEVER THE INPUT: true; the input reads as it did. -/
def windowSoundSpec : ChangeSpec := { name := "windowSound", fn := fun _ => fun
  | [d] => { results := [.lit (.bool true)], args := [d] }
  | _ => none }
def windowSoundRow : OpenClaim := { program := "ytphmlfklmleafaa", sum := "55876769196bf7b8933bf43d946070bf5b8c811f1f1e656a05a1de03fd9b2b25", func := "casement/casementlaw06.WindowSound", spec := "windowSound", inPlace := ["slices.overlaps[int]"], unfollowed := true, recurses := true, apart := false }
def WindowSoundSaid : Prop := windowSoundRow.holds Try.pinned (OpenSpec.ofChange windowSoundSpec)

/-- ITS FALSE NEIGHBOUR: 'it returns false'. Refute it at one input. -/
def windowSoundWrong : ChangeSpec := { name := "windowSound", fn := fun _ => fun
  | [d] => { results := [.lit (.bool false)], args := [d] }
  | _ => none }
def WindowSoundWrongFalsely : Prop := windowSoundRow.holds Try.pinned (OpenSpec.ofChange windowSoundWrong)

/-- 'casementlaw06.WindowEnds': WHATEVER THE INPUT: true; the input reads as it did. -/
def windowEndsSpec : ChangeSpec := { name := "windowEnds", fn := fun _ => fun
  | [d1, d2] => { results := [.lit (.bool true)], args := [d1, d2] }
  | _ => none }
def windowEndsRow : OpenClaim := { program := "ytphmlfklmleafaa", sum := "55876769196bf7b8933bf43d946070bf5b8c811f1f1e656a05a1de03fd9b2b25", func := "casement/casementlaw06.WindowEnds", spec := "windowEnds", inPlace := ["slices.overlaps[int]"], unfollowed := true, recurses := true, apart := false }
def WindowEndsSaid : Prop := windowEndsRow.holds Try.pinned (OpenSpec.ofChange windowEndsSpec)

/-- ITS FALSE NEIGHBOUR: 'it returns false'. Refute it at one input. -/
def windowEndsWrong : ChangeSpec := { name := "windowEnds", fn := fun _ => fun
  | [d1, d2] => { results := [.lit (.bool false)], args := [d1, d2] }
  | _ => none }
def WindowEndsWrongFalsely : Prop := windowEndsRow.holds Try.pinned (OpenSpec.ofChange windowEndsWrong)

/-- 'casementlaw06.WindowGoes': WHATEVER THE INPUT: true; the input reads as it did. -/
def windowGoesSpec : ChangeSpec := { name := "windowGoes", fn := fun _ => fun
  | [d1, d2, d3, d4] => { results := [.lit (.bool true)], args := [d1, d2, d3, d4] }
  | _ => none }
def windowGoesRow : OpenClaim := { program := "ytphmlfklmleafaa", sum := "55876769196bf7b8933bf43d946070bf5b8c811f1f1e656a05a1de03fd9b2b25", func := "casement/casementlaw06.WindowGoes", spec := "windowGoes", inPlace := ["slices.overlaps[int]"], unfollowed := true, recurses := true, apart := false }
def WindowGoesSaid : Prop := windowGoesRow.holds Try.pinned (OpenSpec.ofChange windowGoesSpec)

/-- ITS FALSE NEIGHBOUR: 'it returns false'. Refute it at one input. -/
def windowGoesWrong : ChangeSpec := { name := "windowGoes", fn := fun _ => fun
  | [d1, d2, d3, d4] => { results := [.lit (.bool false)], args := [d1, d2, d3, d4] }
  | _ => none }
def WindowGoesWrongFalsely : Prop := windowGoesRow.holds Try.pinned (OpenSpec.ofChange windowGoesWrong)

/-- 'casementlaw06.WindowSeen': WHATEVER THE INPUT: true; the input reads as it did. -/
def windowSeenSpec : ChangeSpec := { name := "windowSeen", fn := fun _ => fun
  | [d1, d2] => { results := [.lit (.bool true)], args := [d1, d2] }
  | _ => none }
def windowSeenRow : OpenClaim := { program := "ytphmlfklmleafaa", sum := "55876769196bf7b8933bf43d946070bf5b8c811f1f1e656a05a1de03fd9b2b25", func := "casement/casementlaw06.WindowSeen", spec := "windowSeen", inPlace := ["slices.overlaps[int]"], unfollowed := true, recurses := true, apart := false }
def WindowSeenSaid : Prop := windowSeenRow.holds Try.pinned (OpenSpec.ofChange windowSeenSpec)

/-- ITS FALSE NEIGHBOUR: 'it returns false'. Refute it at one input. -/
def windowSeenWrong : ChangeSpec := { name := "windowSeen", fn := fun _ => fun
  | [d1, d2] => { results := [.lit (.bool false)], args := [d1, d2] }
  | _ => none }
def WindowSeenWrongFalsely : Prop := windowSeenRow.holds Try.pinned (OpenSpec.ofChange windowSeenWrong)

/-- 'casementlaw06.WindowNobody': WHATEVER THE INPUT: true; the input reads as it did. -/
def windowNobodySpec : ChangeSpec := { name := "windowNobody", fn := fun _ => fun
  | [d1, d2] => { results := [.lit (.bool true)], args := [d1, d2] }
  | _ => none }
def windowNobodyRow : OpenClaim := { program := "ytphmlfklmleafaa", sum := "55876769196bf7b8933bf43d946070bf5b8c811f1f1e656a05a1de03fd9b2b25", func := "casement/casementlaw06.WindowNobody", spec := "windowNobody", inPlace := ["slices.overlaps[int]"], unfollowed := true, recurses := true, apart := false }
def WindowNobodySaid : Prop := windowNobodyRow.holds Try.pinned (OpenSpec.ofChange windowNobodySpec)

/-- ITS FALSE NEIGHBOUR: 'it returns false'. Refute it at one input. -/
def windowNobodyWrong : ChangeSpec := { name := "windowNobody", fn := fun _ => fun
  | [d1, d2] => { results := [.lit (.bool false)], args := [d1, d2] }
  | _ => none }
def WindowNobodyWrongFalsely : Prop := windowNobodyRow.holds Try.pinned (OpenSpec.ofChange windowNobodyWrong)

/- THE SECOND FORM. 'bulk': how many values and letters a reading holds, each counted each time it is reached (what is shared counts as often as it is met; a slice's spare places count too). A statement '..UptoSaid' is the law's where the arguments, and the package variables that the reading takes, are together of bulk at most 1048576: NARROWER than '..Said'. Prove '..Said' where nothing that the law and all that it calls make is longer than what came in: it says more and counts as full. Else prove '..UptoSaid'. A law counts once. -/
mutual
def uptoBulk {H : Type} : DataW H → Nat
  | .lit (.string bytes) => bytes.length + 1
  | .lit _ => 1
  | .nil => 1
  | .ptr d => uptoBulk d + 1
  | .slice elems spare => uptoBulkAll elems + uptoBulkAll spare + 1
  | .agg parts => uptoBulkAll parts + 1
  | .iface _ d => uptoBulk d + 1
  | .map entries => uptoBulkEntries entries + 1
  | .held _ => 1
def uptoBulkAll {H : Type} : List (DataW H) → Nat
  | [] => 0
  | d :: r => uptoBulk d + uptoBulkAll r
def uptoBulkEntries {H : Type} : List (Lit × DataW H) → Nat
  | [] => 0
  | x :: r => uptoBulkEntry x + uptoBulkEntries r
def uptoBulkEntry {H : Type} : Lit × DataW H → Nat
  | (.string bytes, d) => bytes.length + uptoBulk d + 1
  | (_, d) => uptoBulk d + 1
 end
def uptoSmall : (H : Type) → List (DataW H) → Bool := fun _ ds => decide (uptoBulkAll ds ≤ 1048576)
def OpenSpec.upto (s : _root_.Go.ChangeSpec) : _root_.Go.OpenSpec := { _root_.Go.OpenSpec.ofChange s with cond := some uptoSmall }

/-- 'casementlaw06.WindowPlays', WHERE WHAT IT READS IS OF BULK AT MOST 1048576: true; the input reads as it did. -/
def windowPlaysUptoRow : OpenClaim := { program := "ytphmlfklmleafaa", sum := "55876769196bf7b8933bf43d946070bf5b8c811f1f1e656a05a1de03fd9b2b25", func := "casement/casementlaw06.WindowPlays", spec := "windowPlays", inPlace := ["slices.overlaps[int]"], unfollowed := true, recurses := true, apart := false, narrowed := true }
def WindowPlaysUptoSaid : Prop := windowPlaysUptoRow.holds Try.pinned (OpenSpec.upto windowPlaysSpec)

/-- 'casementlaw06.WindowSound', WHERE WHAT IT READS IS OF BULK AT MOST 1048576: true; the input reads as it did. -/
def windowSoundUptoRow : OpenClaim := { program := "ytphmlfklmleafaa", sum := "55876769196bf7b8933bf43d946070bf5b8c811f1f1e656a05a1de03fd9b2b25", func := "casement/casementlaw06.WindowSound", spec := "windowSound", inPlace := ["slices.overlaps[int]"], unfollowed := true, recurses := true, apart := false, narrowed := true }
def WindowSoundUptoSaid : Prop := windowSoundUptoRow.holds Try.pinned (OpenSpec.upto windowSoundSpec)

/-- 'casementlaw06.WindowEnds', WHERE WHAT IT READS IS OF BULK AT MOST 1048576: true; the input reads as it did. -/
def windowEndsUptoRow : OpenClaim := { program := "ytphmlfklmleafaa", sum := "55876769196bf7b8933bf43d946070bf5b8c811f1f1e656a05a1de03fd9b2b25", func := "casement/casementlaw06.WindowEnds", spec := "windowEnds", inPlace := ["slices.overlaps[int]"], unfollowed := true, recurses := true, apart := false, narrowed := true }
def WindowEndsUptoSaid : Prop := windowEndsUptoRow.holds Try.pinned (OpenSpec.upto windowEndsSpec)

/-- 'casementlaw06.WindowGoes', WHERE WHAT IT READS IS OF BULK AT MOST 1048576: true; the input reads as it did. -/
def windowGoesUptoRow : OpenClaim := { program := "ytphmlfklmleafaa", sum := "55876769196bf7b8933bf43d946070bf5b8c811f1f1e656a05a1de03fd9b2b25", func := "casement/casementlaw06.WindowGoes", spec := "windowGoes", inPlace := ["slices.overlaps[int]"], unfollowed := true, recurses := true, apart := false, narrowed := true }
def WindowGoesUptoSaid : Prop := windowGoesUptoRow.holds Try.pinned (OpenSpec.upto windowGoesSpec)

/-- 'casementlaw06.WindowSeen', WHERE WHAT IT READS IS OF BULK AT MOST 1048576: true; the input reads as it did. -/
def windowSeenUptoRow : OpenClaim := { program := "ytphmlfklmleafaa", sum := "55876769196bf7b8933bf43d946070bf5b8c811f1f1e656a05a1de03fd9b2b25", func := "casement/casementlaw06.WindowSeen", spec := "windowSeen", inPlace := ["slices.overlaps[int]"], unfollowed := true, recurses := true, apart := false, narrowed := true }
def WindowSeenUptoSaid : Prop := windowSeenUptoRow.holds Try.pinned (OpenSpec.upto windowSeenSpec)

/-- 'casementlaw06.WindowNobody', WHERE WHAT IT READS IS OF BULK AT MOST 1048576: true; the input reads as it did. -/
def windowNobodyUptoRow : OpenClaim := { program := "ytphmlfklmleafaa", sum := "55876769196bf7b8933bf43d946070bf5b8c811f1f1e656a05a1de03fd9b2b25", func := "casement/casementlaw06.WindowNobody", spec := "windowNobody", inPlace := ["slices.overlaps[int]"], unfollowed := true, recurses := true, apart := false, narrowed := true }
def WindowNobodyUptoSaid : Prop := windowNobodyUptoRow.holds Try.pinned (OpenSpec.upto windowNobodySpec)

end Rows
end Go.Proofs.Ytphmlfklmleafaa
