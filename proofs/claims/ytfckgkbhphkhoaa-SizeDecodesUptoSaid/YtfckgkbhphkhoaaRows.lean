/-
  No cell of these rows narrows 'for every input' (looked for: loops, veiled, ifaces, maps, wideKeys, modest, calm, conditions, laid).
  DERIVED. THE GIVEN ROWS OF THIS SEAT. 7 by the template 'for every input the law returns true; each argument reads behind the call as it read before'; 0 by the template 'total and deterministic' (their statements: YtfckgkbhphkhoaaTotals.lean).
  GIVEN WITH THE SEED: the statements are not yours to turn. If you find one false, say at which input.
  Laid BY PROGRAM, IN A SANDBOX (cutbox-rows.mjs): the forced cells as the released guide's own fill.sh prints them over the translation 527e03df63666264… (all of the seat's roots in one cut). By AI agents, Wed Nov 11 2026. No macro, syntax, notation, axiom, sorry.
-/
import Derived.Test.YtfckgkbhphkhoaaChecked
import GoSem.Claim
import GoSem.ClaimJoined
import GoSem.ClaimMapViews
import Derived.JoinedTies
import Derived.KernelRfl
namespace Go.Proofs.Ytfckgkbhphkhoaa
/- THE CELL 'sum', in the pinned program and in every row, IS THE sha256 OF THE DUMP (.gsa) THAT YtfckgkbhphkhoaaProg.lean LOADS. Nothing in Lean hashes anything: it is a label: what it is worth is what the hold of that sum in a sandbox is worth. -/
noncomputable def Try.pinned : Pinned := { name := "ytfckgkbhphkhoaa", sum := "527e03df6366626402a8cfb4338773ef52115cea3b2787acbd5d217820834851", checked := Try.checked }
namespace Rows
def none {H : Type} : Left H := { results := [], args := [] }

/-- 'casementlaw09.SizeDecodes': WHATEVER THE INPUT: true; the input reads as it did. -/
def sizeDecodesSpec : ChangeSpec := { name := "sizeDecodes", fn := fun _ => fun
  | [d] => { results := [.lit (.bool true)], args := [d] }
  | _ => none }
def sizeDecodesRow : OpenClaim := { program := "ytfckgkbhphkhoaa", sum := "527e03df6366626402a8cfb4338773ef52115cea3b2787acbd5d217820834851", func := "casement/casementlaw09.SizeDecodes", spec := "sizeDecodes", unfollowed := true, recurses := true, apart := false }
def SizeDecodesSaid : Prop := sizeDecodesRow.holds Try.pinned (OpenSpec.ofChange sizeDecodesSpec)

/-- ITS FALSE NEIGHBOUR: 'it returns false'. Refute it at one input. -/
def sizeDecodesWrong : ChangeSpec := { name := "sizeDecodes", fn := fun _ => fun
  | [d] => { results := [.lit (.bool false)], args := [d] }
  | _ => none }
def SizeDecodesWrongFalsely : Prop := sizeDecodesRow.holds Try.pinned (OpenSpec.ofChange sizeDecodesWrong)

/-- 'casementlaw09.SizeNormals': WHATEVER THE INPUT: true; the input reads as it did. -/
def sizeNormalsSpec : ChangeSpec := { name := "sizeNormals", fn := fun _ => fun
  | [d] => { results := [.lit (.bool true)], args := [d] }
  | _ => none }
def sizeNormalsRow : OpenClaim := { program := "ytfckgkbhphkhoaa", sum := "527e03df6366626402a8cfb4338773ef52115cea3b2787acbd5d217820834851", func := "casement/casementlaw09.SizeNormals", spec := "sizeNormals", apart := false }
def SizeNormalsSaid : Prop := sizeNormalsRow.holds Try.pinned (OpenSpec.ofChange sizeNormalsSpec)

/-- ITS FALSE NEIGHBOUR: 'it returns false'. Refute it at one input. -/
def sizeNormalsWrong : ChangeSpec := { name := "sizeNormals", fn := fun _ => fun
  | [d] => { results := [.lit (.bool false)], args := [d] }
  | _ => none }
def SizeNormalsWrongFalsely : Prop := sizeNormalsRow.holds Try.pinned (OpenSpec.ofChange sizeNormalsWrong)

/-- 'casementlaw09.SizeFits': WHATEVER THE INPUT: true; the input reads as it did. -/
def sizeFitsSpec : ChangeSpec := { name := "sizeFits", fn := fun _ => fun
  | [d1, d2, d3] => { results := [.lit (.bool true)], args := [d1, d2, d3] }
  | _ => none }
def sizeFitsRow : OpenClaim := { program := "ytfckgkbhphkhoaa", sum := "527e03df6366626402a8cfb4338773ef52115cea3b2787acbd5d217820834851", func := "casement/casementlaw09.SizeFits", spec := "sizeFits", apart := false }
def SizeFitsSaid : Prop := sizeFitsRow.holds Try.pinned (OpenSpec.ofChange sizeFitsSpec)

/-- ITS FALSE NEIGHBOUR: 'it returns false'. Refute it at one input. -/
def sizeFitsWrong : ChangeSpec := { name := "sizeFits", fn := fun _ => fun
  | [d1, d2, d3] => { results := [.lit (.bool false)], args := [d1, d2, d3] }
  | _ => none }
def SizeFitsWrongFalsely : Prop := sizeFitsRow.holds Try.pinned (OpenSpec.ofChange sizeFitsWrong)

/-- 'casementlaw09.SizeGood': WHATEVER THE INPUT: true; the input reads as it did. -/
def sizeGoodSpec : ChangeSpec := { name := "sizeGood", fn := fun _ => fun
  | [d1, d2, d3] => { results := [.lit (.bool true)], args := [d1, d2, d3] }
  | _ => none }
def sizeGoodRow : OpenClaim := { program := "ytfckgkbhphkhoaa", sum := "527e03df6366626402a8cfb4338773ef52115cea3b2787acbd5d217820834851", func := "casement/casementlaw09.SizeGood", spec := "sizeGood", apart := false }
def SizeGoodSaid : Prop := sizeGoodRow.holds Try.pinned (OpenSpec.ofChange sizeGoodSpec)

/-- ITS FALSE NEIGHBOUR: 'it returns false'. Refute it at one input. -/
def sizeGoodWrong : ChangeSpec := { name := "sizeGood", fn := fun _ => fun
  | [d1, d2, d3] => { results := [.lit (.bool false)], args := [d1, d2, d3] }
  | _ => none }
def SizeGoodWrongFalsely : Prop := sizeGoodRow.holds Try.pinned (OpenSpec.ofChange sizeGoodWrong)

/-- 'casementlaw09.SizeStays': WHATEVER THE INPUT: true; the input reads as it did. -/
def sizeStaysSpec : ChangeSpec := { name := "sizeStays", fn := fun _ => fun
  | [d1, d2, d3] => { results := [.lit (.bool true)], args := [d1, d2, d3] }
  | _ => none }
def sizeStaysRow : OpenClaim := { program := "ytfckgkbhphkhoaa", sum := "527e03df6366626402a8cfb4338773ef52115cea3b2787acbd5d217820834851", func := "casement/casementlaw09.SizeStays", spec := "sizeStays", apart := false }
def SizeStaysSaid : Prop := sizeStaysRow.holds Try.pinned (OpenSpec.ofChange sizeStaysSpec)

/-- ITS FALSE NEIGHBOUR: 'it returns false'. Refute it at one input. -/
def sizeStaysWrong : ChangeSpec := { name := "sizeStays", fn := fun _ => fun
  | [d1, d2, d3] => { results := [.lit (.bool false)], args := [d1, d2, d3] }
  | _ => none }
def SizeStaysWrongFalsely : Prop := sizeStaysRow.holds Try.pinned (OpenSpec.ofChange sizeStaysWrong)

/-- 'casementlaw09.SizeNear': WHATEVER THE INPUT: true; the input reads as it did. -/
def sizeNearSpec : ChangeSpec := { name := "sizeNear", fn := fun _ => fun
  | [d1, d2, d3, d4] => { results := [.lit (.bool true)], args := [d1, d2, d3, d4] }
  | _ => none }
def sizeNearRow : OpenClaim := { program := "ytfckgkbhphkhoaa", sum := "527e03df6366626402a8cfb4338773ef52115cea3b2787acbd5d217820834851", func := "casement/casementlaw09.SizeNear", spec := "sizeNear", apart := false }
def SizeNearSaid : Prop := sizeNearRow.holds Try.pinned (OpenSpec.ofChange sizeNearSpec)

/-- ITS FALSE NEIGHBOUR: 'it returns false'. Refute it at one input. -/
def sizeNearWrong : ChangeSpec := { name := "sizeNear", fn := fun _ => fun
  | [d1, d2, d3, d4] => { results := [.lit (.bool false)], args := [d1, d2, d3, d4] }
  | _ => none }
def SizeNearWrongFalsely : Prop := sizeNearRow.holds Try.pinned (OpenSpec.ofChange sizeNearWrong)

/-- 'casementlaw09.SizeFree': WHATEVER THE INPUT: true; the input reads as it did. -/
def sizeFreeSpec : ChangeSpec := { name := "sizeFree", fn := fun _ => fun
  | [d1, d2, d3, d4] => { results := [.lit (.bool true)], args := [d1, d2, d3, d4] }
  | _ => none }
def sizeFreeRow : OpenClaim := { program := "ytfckgkbhphkhoaa", sum := "527e03df6366626402a8cfb4338773ef52115cea3b2787acbd5d217820834851", func := "casement/casementlaw09.SizeFree", spec := "sizeFree", unfollowed := true, recurses := true, apart := false }
def SizeFreeSaid : Prop := sizeFreeRow.holds Try.pinned (OpenSpec.ofChange sizeFreeSpec)

/-- ITS FALSE NEIGHBOUR: 'it returns false'. Refute it at one input. -/
def sizeFreeWrong : ChangeSpec := { name := "sizeFree", fn := fun _ => fun
  | [d1, d2, d3, d4] => { results := [.lit (.bool false)], args := [d1, d2, d3, d4] }
  | _ => none }
def SizeFreeWrongFalsely : Prop := sizeFreeRow.holds Try.pinned (OpenSpec.ofChange sizeFreeWrong)

/- THE SECOND FORM. 'bulk': how many values and letters a reading holds, each counted each time it is reached (what is shared counts as often as it is met; a slice's spare places count too). A statement '..UptoSaid' is the law's where the arguments, and the package variables that the reading takes, are together of bulk at most 1048576: NARROWER than '..Said'. Prove '..Said' where nothing that the law and all that it calls make is longer than what came in: it says more and counts as full. Else prove '..UptoSaid'. A law counts once. -/
mutual
def uptoBulk {H : Type} : DataW H → Nat
  | .lit (.string bytes) => bytes.length + 1
  | .lit _ => 1
  | .nil => 1
  | .ptr d => uptoBulk d + 1
  | .slice elems spare => uptoBulkAll elems + uptoBulkAll spare + 1
  | .agg parts => uptoBulkAll parts + 1
  | .iface _ d => uptoBulk d + 1
  | .map entries => uptoBulkEntries entries + 1
  | .held _ => 1
def uptoBulkAll {H : Type} : List (DataW H) → Nat
  | [] => 0
  | d :: r => uptoBulk d + uptoBulkAll r
def uptoBulkEntries {H : Type} : List (Lit × DataW H) → Nat
  | [] => 0
  | x :: r => uptoBulkEntry x + uptoBulkEntries r
def uptoBulkEntry {H : Type} : Lit × DataW H → Nat
  | (.string bytes, d) => bytes.length + uptoBulk d + 1
  | (_, d) => uptoBulk d + 1
 end
def uptoSmall : (H : Type) → List (DataW H) → Bool := fun _ ds => decide (uptoBulkAll ds ≤ 1048576)
def OpenSpec.upto (s : _root_.Go.ChangeSpec) : _root_.Go.OpenSpec := { _root_.Go.OpenSpec.ofChange s with cond := some uptoSmall }

/-- 'casementlaw09.SizeDecodes', WHERE WHAT IT READS IS OF BULK AT MOST 1048576: true; the input reads as it did. -/
def sizeDecodesUptoRow : OpenClaim := { program := "ytfckgkbhphkhoaa", sum := "527e03df6366626402a8cfb4338773ef52115cea3b2787acbd5d217820834851", func := "casement/casementlaw09.SizeDecodes", spec := "sizeDecodes", unfollowed := true, recurses := true, apart := false, narrowed := true }
def SizeDecodesUptoSaid : Prop := sizeDecodesUptoRow.holds Try.pinned (OpenSpec.upto sizeDecodesSpec)

/-- 'casementlaw09.SizeNormals', WHERE WHAT IT READS IS OF BULK AT MOST 1048576: true; the input reads as it did. -/
def sizeNormalsUptoRow : OpenClaim := { program := "ytfckgkbhphkhoaa", sum := "527e03df6366626402a8cfb4338773ef52115cea3b2787acbd5d217820834851", func := "casement/casementlaw09.SizeNormals", spec := "sizeNormals", apart := false, narrowed := true }
def SizeNormalsUptoSaid : Prop := sizeNormalsUptoRow.holds Try.pinned (OpenSpec.upto sizeNormalsSpec)

/-- 'casementlaw09.SizeFits', WHERE WHAT IT READS IS OF BULK AT MOST 1048576: true; the input reads as it did. -/
def sizeFitsUptoRow : OpenClaim := { program := "ytfckgkbhphkhoaa", sum := "527e03df6366626402a8cfb4338773ef52115cea3b2787acbd5d217820834851", func := "casement/casementlaw09.SizeFits", spec := "sizeFits", apart := false, narrowed := true }
def SizeFitsUptoSaid : Prop := sizeFitsUptoRow.holds Try.pinned (OpenSpec.upto sizeFitsSpec)

/-- 'casementlaw09.SizeGood', WHERE WHAT IT READS IS OF BULK AT MOST 1048576: true; the input reads as it did. -/
def sizeGoodUptoRow : OpenClaim := { program := "ytfckgkbhphkhoaa", sum := "527e03df6366626402a8cfb4338773ef52115cea3b2787acbd5d217820834851", func := "casement/casementlaw09.SizeGood", spec := "sizeGood", apart := false, narrowed := true }
def SizeGoodUptoSaid : Prop := sizeGoodUptoRow.holds Try.pinned (OpenSpec.upto sizeGoodSpec)

/-- 'casementlaw09.SizeStays', WHERE WHAT IT READS IS OF BULK AT MOST 1048576: true; the input reads as it did. -/
def sizeStaysUptoRow : OpenClaim := { program := "ytfckgkbhphkhoaa", sum := "527e03df6366626402a8cfb4338773ef52115cea3b2787acbd5d217820834851", func := "casement/casementlaw09.SizeStays", spec := "sizeStays", apart := false, narrowed := true }
def SizeStaysUptoSaid : Prop := sizeStaysUptoRow.holds Try.pinned (OpenSpec.upto sizeStaysSpec)

/-- 'casementlaw09.SizeNear', WHERE WHAT IT READS IS OF BULK AT MOST 1048576: true; the input reads as it did. -/
def sizeNearUptoRow : OpenClaim := { program := "ytfckgkbhphkhoaa", sum := "527e03df6366626402a8cfb4338773ef52115cea3b2787acbd5d217820834851", func := "casement/casementlaw09.SizeNear", spec := "sizeNear", apart := false, narrowed := true }
def SizeNearUptoSaid : Prop := sizeNearUptoRow.holds Try.pinned (OpenSpec.upto sizeNearSpec)

/-- 'casementlaw09.SizeFree', WHERE WHAT IT READS IS OF BULK AT MOST 1048576: true; the input reads as it did. -/
def sizeFreeUptoRow : OpenClaim := { program := "ytfckgkbhphkhoaa", sum := "527e03df6366626402a8cfb4338773ef52115cea3b2787acbd5d217820834851", func := "casement/casementlaw09.SizeFree", spec := "sizeFree", unfollowed := true, recurses := true, apart := false, narrowed := true }
def SizeFreeUptoSaid : Prop := sizeFreeUptoRow.holds Try.pinned (OpenSpec.upto sizeFreeSpec)

end Rows
end Go.Proofs.Ytfckgkbhphkhoaa
