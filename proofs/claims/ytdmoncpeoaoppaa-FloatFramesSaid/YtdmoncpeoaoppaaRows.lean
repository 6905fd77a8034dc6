/-
  No cell of these rows narrows 'for every input' (looked for: loops, veiled, ifaces, maps, wideKeys, modest, calm, conditions, laid).
  DERIVED. THE GIVEN ROWS OF THIS SEAT. 6 by the template 'for every input the law returns true; each argument reads behind the call as it read before'; 0 by the template 'total and deterministic' (their statements: YtdmoncpeoaoppaaTotals.lean).
  GIVEN WITH THE SEED: the statements are not yours to turn. If you find one false, say at which input.
  Laid BY PROGRAM, IN A SANDBOX (cutbox-rows.mjs): the forced cells as the released guide's own fill.sh prints them over the translation c25ec1baa2421be7… (all of the seat's roots in one cut). By AI agents, Wed Nov 11 2026. No macro, syntax, notation, axiom, sorry.
-/
import Derived.Test.YtdmoncpeoaoppaaChecked
import GoSem.Claim
import GoSem.ClaimJoined
import GoSem.ClaimMapViews
import Derived.JoinedTies
import Derived.KernelRfl
namespace Go.Proofs.Ytdmoncpeoaoppaa
/- THE CELL 'sum', in the pinned program and in every row, IS THE sha256 OF THE DUMP (.gsa) THAT YtdmoncpeoaoppaaProg.lean LOADS. Nothing in Lean hashes anything: it is a label: what it is worth is what the hold of that sum in a sandbox is worth. -/
noncomputable def Try.pinned : Pinned := { name := "ytdmoncpeoaoppaa", sum := "c25ec1baa2421be7a4d300fbb647814fb69f5cefccc5d6304af61f6b6f5d9f42", checked := Try.checked }
namespace Rows
def none {H : Type} : Left H := { results := [], args := [] }

/-- 'casementlaw15.FloatStarts': WHATEVER THE INPUT: true; the input reads as it did. -/
def floatStartsSpec : ChangeSpec := { name := "floatStarts", fn := fun _ => fun
  | [d1, d2, d3, d4, d5] => { results := [.lit (.bool true)], args := [d1, d2, d3, d4, d5] }
  | _ => none }
def floatStartsRow : OpenClaim := { program := "ytdmoncpeoaoppaa", sum := "c25ec1baa2421be7a4d300fbb647814fb69f5cefccc5d6304af61f6b6f5d9f42", func := "casement/casementlaw15.FloatStarts", spec := "floatStarts", apart := false }
def FloatStartsSaid : Prop := floatStartsRow.holds Try.pinned (OpenSpec.ofChange floatStartsSpec)

/-- ITS FALSE NEIGHBOUR: 'it returns false'. Refute it at one input. -/
def floatStartsWrong : ChangeSpec := { name := "floatStarts", fn := fun _ => fun
  | [d1, d2, d3, d4, d5] => { results := [.lit (.bool false)], args := [d1, d2, d3, d4, d5] }
  | _ => none }
def FloatStartsWrongFalsely : Prop := floatStartsRow.holds Try.pinned (OpenSpec.ofChange floatStartsWrong)

/-- 'casementlaw15.FloatMoves': WHATEVER THE INPUT: true; the input reads as it did. -/
def floatMovesSpec : ChangeSpec := { name := "floatMoves", fn := fun _ => fun
  | [d1, d2, d3, d4] => { results := [.lit (.bool true)], args := [d1, d2, d3, d4] }
  | _ => none }
def floatMovesRow : OpenClaim := { program := "ytdmoncpeoaoppaa", sum := "c25ec1baa2421be7a4d300fbb647814fb69f5cefccc5d6304af61f6b6f5d9f42", func := "casement/casementlaw15.FloatMoves", spec := "floatMoves", apart := false }
def FloatMovesSaid : Prop := floatMovesRow.holds Try.pinned (OpenSpec.ofChange floatMovesSpec)

/-- ITS FALSE NEIGHBOUR: 'it returns false'. Refute it at one input. -/
def floatMovesWrong : ChangeSpec := { name := "floatMoves", fn := fun _ => fun
  | [d1, d2, d3, d4] => { results := [.lit (.bool false)], args := [d1, d2, d3, d4] }
  | _ => none }
def FloatMovesWrongFalsely : Prop := floatMovesRow.holds Try.pinned (OpenSpec.ofChange floatMovesWrong)

/-- 'casementlaw15.FloatSizes': WHATEVER THE INPUT: true; the input reads as it did. -/
def floatSizesSpec : ChangeSpec := { name := "floatSizes", fn := fun _ => fun
  | [d1, d2, d3, d4] => { results := [.lit (.bool true)], args := [d1, d2, d3, d4] }
  | _ => none }
def floatSizesRow : OpenClaim := { program := "ytdmoncpeoaoppaa", sum := "c25ec1baa2421be7a4d300fbb647814fb69f5cefccc5d6304af61f6b6f5d9f42", func := "casement/casementlaw15.FloatSizes", spec := "floatSizes", apart := false }
def FloatSizesSaid : Prop := floatSizesRow.holds Try.pinned (OpenSpec.ofChange floatSizesSpec)

/-- ITS FALSE NEIGHBOUR: 'it returns false'. Refute it at one input. -/
def floatSizesWrong : ChangeSpec := { name := "floatSizes", fn := fun _ => fun
  | [d1, d2, d3, d4] => { results := [.lit (.bool false)], args := [d1, d2, d3, d4] }
  | _ => none }
def FloatSizesWrongFalsely : Prop := floatSizesRow.holds Try.pinned (OpenSpec.ofChange floatSizesWrong)

/-- 'casementlaw15.FloatFrames': WHATEVER THE INPUT: true; the input reads as it did. -/
def floatFramesSpec : ChangeSpec := { name := "floatFrames", fn := fun _ => fun
  | [d1, d2] => { results := [.lit (.bool true)], args := [d1, d2] }
  | _ => none }
def floatFramesRow : OpenClaim := { program := "ytdmoncpeoaoppaa", sum := "c25ec1baa2421be7a4d300fbb647814fb69f5cefccc5d6304af61f6b6f5d9f42", func := "casement/casementlaw15.FloatFrames", spec := "floatFrames", apart := false }
def FloatFramesSaid : Prop := floatFramesRow.holds Try.pinned (OpenSpec.ofChange floatFramesSpec)

/-- ITS FALSE NEIGHBOUR: 'it returns false'. Refute it at one input. -/
def floatFramesWrong : ChangeSpec := { name := "floatFrames", fn := fun _ => fun
  | [d1, d2] => { results := [.lit (.bool false)], args := [d1, d2] }
  | _ => none }
def FloatFramesWrongFalsely : Prop := floatFramesRow.holds Try.pinned (OpenSpec.ofChange floatFramesWrong)

/-- 'casementlaw15.FloatGood': WHATEVER THE INPUT: true; the input reads as it did. -/
def floatGoodSpec : ChangeSpec := { name := "floatGood", fn := fun _ => fun
  | [d1, d2, d3, d4, d5] => { results := [.lit (.bool true)], args := [d1, d2, d3, d4, d5] }
  | _ => none }
def floatGoodRow : OpenClaim := { program := "ytdmoncpeoaoppaa", sum := "c25ec1baa2421be7a4d300fbb647814fb69f5cefccc5d6304af61f6b6f5d9f42", func := "casement/casementlaw15.FloatGood", spec := "floatGood", apart := false }
def FloatGoodSaid : Prop := floatGoodRow.holds Try.pinned (OpenSpec.ofChange floatGoodSpec)

/-- ITS FALSE NEIGHBOUR: 'it returns false'. Refute it at one input. -/
def floatGoodWrong : ChangeSpec := { name := "floatGood", fn := fun _ => fun
  | [d1, d2, d3, d4, d5] => { results := [.lit (.bool false)], args := [d1, d2, d3, d4, d5] }
  | _ => none }
def FloatGoodWrongFalsely : Prop := floatGoodRow.holds Try.pinned (OpenSpec.ofChange floatGoodWrong)

/-- 'casementlaw15.FloatSeen': WHATEVER THE INPUT: true; the input reads as it did. -/
def floatSeenSpec : ChangeSpec := { name := "floatSeen", fn := fun _ => fun
  | [d1, d2, d3, d4] => { results := [.lit (.bool true)], args := [d1, d2, d3, d4] }
  | _ => none }
def floatSeenRow : OpenClaim := { program := "ytdmoncpeoaoppaa", sum := "c25ec1baa2421be7a4d300fbb647814fb69f5cefccc5d6304af61f6b6f5d9f42", func := "casement/casementlaw15.FloatSeen", spec := "floatSeen", apart := false }
def FloatSeenSaid : Prop := floatSeenRow.holds Try.pinned (OpenSpec.ofChange floatSeenSpec)

/-- ITS FALSE NEIGHBOUR: 'it returns false'. Refute it at one input. -/
def floatSeenWrong : ChangeSpec := { name := "floatSeen", fn := fun _ => fun
  | [d1, d2, d3, d4] => { results := [.lit (.bool false)], args := [d1, d2, d3, d4] }
  | _ => none }
def FloatSeenWrongFalsely : Prop := floatSeenRow.holds Try.pinned (OpenSpec.ofChange floatSeenWrong)

/- THE SECOND FORM. 'bulk': how many values and letters a reading holds, each counted each time it is reached (what is shared counts as often as it is met; a slice's spare places count too). A statement '..UptoSaid' is the law's where the arguments, and the package variables that the reading takes, are together of bulk at most 1048576: NARROWER than '..Said'. Prove '..Said' where nothing that the law and all that it calls make is longer than what came in: it says more and counts as full. Else prove '..UptoSaid'. A law counts once. -/
mutual
def uptoBulk {H : Type} : DataW H → Nat
  | .lit (.string bytes) => bytes.length + 1
  | .lit _ => 1
  | .nil => 1
  | .ptr d => uptoBulk d + 1
  | .slice elems spare => uptoBulkAll elems + uptoBulkAll spare + 1
  | .agg parts => uptoBulkAll parts + 1
  | .iface _ d => uptoBulk d + 1
  | .map entries => uptoBulkEntries entries + 1
  | .held _ => 1
def uptoBulkAll {H : Type} : List (DataW H) → Nat
  | [] => 0
  | d :: r => uptoBulk d + uptoBulkAll r
def uptoBulkEntries {H : Type} : List (Lit × DataW H) → Nat
  | [] => 0
  | x :: r => uptoBulkEntry x + uptoBulkEntries r
def uptoBulkEntry {H : Type} : Lit × DataW H → Nat
  | (.string bytes, d) => bytes.length + uptoBulk d + 1
  | (_, d) => uptoBulk d + 1
 end
def uptoSmall : (H : Type) → List (DataW H) → Bool := fun _ ds => decide (uptoBulkAll ds ≤ 1048576)
def OpenSpec.upto (s : _root_.Go.ChangeSpec) : _root_.Go.OpenSpec := { _root_.Go.OpenSpec.ofChange s with cond := some uptoSmall }

/-- 'casementlaw15.FloatStarts', WHERE WHAT IT READS IS OF BULK AT MOST 1048576: true; the input reads as it did. -/
def floatStartsUptoRow : OpenClaim := { program := "ytdmoncpeoaoppaa", sum := "c25ec1baa2421be7a4d300fbb647814fb69f5cefccc5d6304af61f6b6f5d9f42", func := "casement/casementlaw15.FloatStarts", spec := "floatStarts", apart := false, narrowed := true }
def FloatStartsUptoSaid : Prop := floatStartsUptoRow.holds Try.pinned (OpenSpec.upto floatStartsSpec)

/-- 'casementlaw15.FloatMoves', WHERE WHAT IT READS IS OF BULK AT MOST 1048576: true; the input reads as it did. -/
def floatMovesUptoRow : OpenClaim := { program := "ytdmoncpeoaoppaa", sum := "c25ec1baa2421be7a4d300fbb647814fb69f5cefccc5d6304af61f6b6f5d9f42", func := "casement/casementlaw15.FloatMoves", spec := "floatMoves", apart := false, narrowed := true }
def FloatMovesUptoSaid : Prop := floatMovesUptoRow.holds Try.pinned (OpenSpec.upto floatMovesSpec)

/-- 'casementlaw15.FloatSizes', WHERE WHAT IT READS IS OF BULK AT MOST 1048576: true; the input reads as it did. -/
def floatSizesUptoRow : OpenClaim := { program := "ytdmoncpeoaoppaa", sum := "c25ec1baa2421be7a4d300fbb647814fb69f5cefccc5d6304af61f6b6f5d9f42", func := "casement/casementlaw15.FloatSizes", spec := "floatSizes", apart := false, narrowed := true }
def FloatSizesUptoSaid : Prop := floatSizesUptoRow.holds Try.pinned (OpenSpec.upto floatSizesSpec)

/-- 'casementlaw15.FloatFrames', WHERE WHAT IT READS IS OF BULK AT MOST 1048576: true; the input reads as it did. -/
def floatFramesUptoRow : OpenClaim := { program := "ytdmoncpeoaoppaa", sum := "c25ec1baa2421be7a4d300fbb647814fb69f5cefccc5d6304af61f6b6f5d9f42", func := "casement/casementlaw15.FloatFrames", spec := "floatFrames", apart := false, narrowed := true }
def FloatFramesUptoSaid : Prop := floatFramesUptoRow.holds Try.pinned (OpenSpec.upto floatFramesSpec)

/-- 'casementlaw15.FloatGood', WHERE WHAT IT READS IS OF BULK AT MOST 1048576: true; the input reads as it did. -/
def floatGoodUptoRow : OpenClaim := { program := "ytdmoncpeoaoppaa", sum := "c25ec1baa2421be7a4d300fbb647814fb69f5cefccc5d6304af61f6b6f5d9f42", func := "casement/casementlaw15.FloatGood", spec := "floatGood", apart := false, narrowed := true }
def FloatGoodUptoSaid : Prop := floatGoodUptoRow.holds Try.pinned (OpenSpec.upto floatGoodSpec)

/-- 'casementlaw15.FloatSeen', WHERE WHAT IT READS IS OF BULK AT MOST 1048576: true; the input reads as it did. -/
def floatSeenUptoRow : OpenClaim := { program := "ytdmoncpeoaoppaa", sum := "c25ec1baa2421be7a4d300fbb647814fb69f5cefccc5d6304af61f6b6f5d9f42", func := "casement/casementlaw15.FloatSeen", spec := "floatSeen", apart := false, narrowed := true }
def FloatSeenUptoSaid : Prop := floatSeenUptoRow.holds Try.pinned (OpenSpec.upto floatSeenSpec)

end Rows
end Go.Proofs.Ytdmoncpeoaoppaa
