/-
  No cell of these rows narrows 'for every input' (looked for: loops, veiled, ifaces, maps, wideKeys, modest, calm, conditions, laid).
  DERIVED. THE GIVEN ROWS OF THIS SEAT. 6 by the template 'for every input the law returns true; each argument reads behind the call as it read before'; 0 by the template 'total and deterministic' (their statements: YteaeccmlibmmmaaTotals.lean).
  GIVEN WITH THE SEED: the statements are not yours to turn. If you find one false, say at which input.
  Laid BY PROGRAM, IN A SANDBOX (cutbox-rows.mjs): the forced cells as the released guide's own fill.sh prints them over the translation 46ca088874739330… (all of the seat's roots in one cut). By AI agents, Wed Nov 11 2026. No macro, syntax, notation, axiom, sorry.
-/
import Derived.Test.YteaeccmlibmmmaaChecked
import GoSem.Claim
import GoSem.ClaimJoined
import GoSem.ClaimMapViews
import Derived.JoinedTies
import Derived.KernelRfl
namespace Go.Proofs.Yteaeccmlibmmmaa
/- THE CELL 'sum', in the pinned program and in every row, IS THE sha256 OF THE DUMP (.gsa) THAT YteaeccmlibmmmaaProg.lean LOADS. Nothing in Lean hashes anything: it is a label: what it is worth is what the hold of that sum in a sandbox is worth. -/
noncomputable def Try.pinned : Pinned := { name := "yteaeccmlibmmmaa", sum := "46ca0888747393305e0063160788e7086266994e7e4059baa0ce918c9f6896b0", checked := Try.checked }
namespace Rows
def none {H : Type} : Left H := { results := [], args := [] }

/-- 'casementlaw13.AreaChecks': WHATEVER THE INPUT: true; the input reads as it did. -/
def areaChecksSpec : ChangeSpec := { name := "areaChecks", fn := fun _ => fun
  | [d] => { results := [.lit (.bool true)], args := [d] }
  | _ => none }
def areaChecksRow : OpenClaim := { program := "yteaeccmlibmmmaa", sum := "46ca0888747393305e0063160788e7086266994e7e4059baa0ce918c9f6896b0", func := "casement/casementlaw13.AreaChecks", spec := "areaChecks", unfollowed := true, recurses := true, apart := false }
def AreaChecksSaid : Prop := areaChecksRow.holds Try.pinned (OpenSpec.ofChange areaChecksSpec)

/-- ITS FALSE NEIGHBOUR: 'it returns false'. Refute it at one input. -/
def areaChecksWrong : ChangeSpec := { name := "areaChecks", fn := fun _ => fun
  | [d] => { results := [.lit (.bool false)], args := [d] }
  | _ => none }
def AreaChecksWrongFalsely : Prop := areaChecksRow.holds Try.pinned (OpenSpec.ofChange areaChecksWrong)

/-- 'casementlaw13.AreaWorks': WHATEVER THE INPUT: true; the input reads as it did. -/
def areaWorksSpec : ChangeSpec := { name := "areaWorks", fn := fun _ => fun
  | [d1, d2] => { results := [.lit (.bool true)], args := [d1, d2] }
  | _ => none }
def areaWorksRow : OpenClaim := { program := "yteaeccmlibmmmaa", sum := "46ca0888747393305e0063160788e7086266994e7e4059baa0ce918c9f6896b0", func := "casement/casementlaw13.AreaWorks", spec := "areaWorks", apart := false }
def AreaWorksSaid : Prop := areaWorksRow.holds Try.pinned (OpenSpec.ofChange areaWorksSpec)

/-- ITS FALSE NEIGHBOUR: 'it returns false'. Refute it at one input. -/
def areaWorksWrong : ChangeSpec := { name := "areaWorks", fn := fun _ => fun
  | [d1, d2] => { results := [.lit (.bool false)], args := [d1, d2] }
  | _ => none }
def AreaWorksWrongFalsely : Prop := areaWorksRow.holds Try.pinned (OpenSpec.ofChange areaWorksWrong)

/-- 'casementlaw13.AreaFinds': WHATEVER THE INPUT: true; the input reads as it did. -/
def areaFindsSpec : ChangeSpec := { name := "areaFinds", fn := fun _ => fun
  | [d1, d2, d3, d4] => { results := [.lit (.bool true)], args := [d1, d2, d3, d4] }
  | _ => none }
def areaFindsRow : OpenClaim := { program := "yteaeccmlibmmmaa", sum := "46ca0888747393305e0063160788e7086266994e7e4059baa0ce918c9f6896b0", func := "casement/casementlaw13.AreaFinds", spec := "areaFinds", unfollowed := true, recurses := true, apart := false }
def AreaFindsSaid : Prop := areaFindsRow.holds Try.pinned (OpenSpec.ofChange areaFindsSpec)

/-- ITS FALSE NEIGHBOUR: 'it returns false'. Refute it at one input. -/
def areaFindsWrong : ChangeSpec := { name := "areaFinds", fn := fun _ => fun
  | [d1, d2, d3, d4] => { results := [.lit (.bool false)], args := [d1, d2, d3, d4] }
  | _ => none }
def AreaFindsWrongFalsely : Prop := areaFindsRow.holds Try.pinned (OpenSpec.ofChange areaFindsWrong)

/-- 'casementlaw13.AreaInside': WHATEVER THE INPUT: true; the input reads as it did. -/
def areaInsideSpec : ChangeSpec := { name := "areaInside", fn := fun _ => fun
  | [d1, d2, d3] => { results := [.lit (.bool true)], args := [d1, d2, d3] }
  | _ => none }
def areaInsideRow : OpenClaim := { program := "yteaeccmlibmmmaa", sum := "46ca0888747393305e0063160788e7086266994e7e4059baa0ce918c9f6896b0", func := "casement/casementlaw13.AreaInside", spec := "areaInside", apart := false }
def AreaInsideSaid : Prop := areaInsideRow.holds Try.pinned (OpenSpec.ofChange areaInsideSpec)

/-- ITS FALSE NEIGHBOUR: 'it returns false'. Refute it at one input. -/
def areaInsideWrong : ChangeSpec := { name := "areaInside", fn := fun _ => fun
  | [d1, d2, d3] => { results := [.lit (.bool false)], args := [d1, d2, d3] }
  | _ => none }
def AreaInsideWrongFalsely : Prop := areaInsideRow.holds Try.pinned (OpenSpec.ofChange areaInsideWrong)

/-- 'casementlaw13.AreaOne': WHATEVER THE INPUT: true; the input reads as it did. -/
def areaOneSpec : ChangeSpec := { name := "areaOne", fn := fun _ => fun
  | [d1, d2] => { results := [.lit (.bool true)], args := [d1, d2] }
  | _ => none }
def areaOneRow : OpenClaim := { program := "yteaeccmlibmmmaa", sum := "46ca0888747393305e0063160788e7086266994e7e4059baa0ce918c9f6896b0", func := "casement/casementlaw13.AreaOne", spec := "areaOne", unfollowed := true, recurses := true, apart := false }
def AreaOneSaid : Prop := areaOneRow.holds Try.pinned (OpenSpec.ofChange areaOneSpec)

/-- ITS FALSE NEIGHBOUR: 'it returns false'. Refute it at one input. -/
def areaOneWrong : ChangeSpec := { name := "areaOne", fn := fun _ => fun
  | [d1, d2] => { results := [.lit (.bool false)], args := [d1, d2] }
  | _ => none }
def AreaOneWrongFalsely : Prop := areaOneRow.holds Try.pinned (OpenSpec.ofChange areaOneWrong)

/-- 'casementlaw13.AreaNear': WHATEVER THE INPUT: true; the input reads as it did. -/
def areaNearSpec : ChangeSpec := { name := "areaNear", fn := fun _ => fun
  | [d1, d2] => { results := [.lit (.bool true)], args := [d1, d2] }
  | _ => none }
def areaNearRow : OpenClaim := { program := "yteaeccmlibmmmaa", sum := "46ca0888747393305e0063160788e7086266994e7e4059baa0ce918c9f6896b0", func := "casement/casementlaw13.AreaNear", spec := "areaNear", unfollowed := true, recurses := true, apart := false }
def AreaNearSaid : Prop := areaNearRow.holds Try.pinned (OpenSpec.ofChange areaNearSpec)

/-- ITS FALSE NEIGHBOUR: 'it returns false'. Refute it at one input. -/
def areaNearWrong : ChangeSpec := { name := "areaNear", fn := fun _ => fun
  | [d1, d2] => { results := [.lit (.bool false)], args := [d1, d2] }
  | _ => none }
def AreaNearWrongFalsely : Prop := areaNearRow.holds Try.pinned (OpenSpec.ofChange areaNearWrong)

/- THE SECOND FORM. 'bulk': how many values and letters a reading holds, each counted each time it is reached (what is shared counts as often as it is met; a slice's spare places count too). A statement '..UptoSaid' is the law's where the arguments, and the package variables that the reading takes, are together of bulk at most 1048576: NARROWER than '..Said'. Prove '..Said' where nothing that the law and all that it calls make is longer than what came in: it says more and counts as full. Else prove '..UptoSaid'. A law counts once. -/
mutual
def uptoBulk {H : Type} : DataW H → Nat
  | .lit (.string bytes) => bytes.length + 1
  | .lit _ => 1
  | .nil => 1
  | .ptr d => uptoBulk d + 1
  | .slice elems spare => uptoBulkAll elems + uptoBulkAll spare + 1
  | .agg parts => uptoBulkAll parts + 1
  | .iface _ d => uptoBulk d + 1
  | .map entries => uptoBulkEntries entries + 1
  | .held _ => 1
def uptoBulkAll {H : Type} : List (DataW H) → Nat
  | [] => 0
  | d :: r => uptoBulk d + uptoBulkAll r
def uptoBulkEntries {H : Type} : List (Lit × DataW H) → Nat
  | [] => 0
  | x :: r => uptoBulkEntry x + uptoBulkEntries r
def uptoBulkEntry {H : Type} : Lit × DataW H → Nat
  | (.string bytes, d) => bytes.length + uptoBulk d + 1
  | (_, d) => uptoBulk d + 1
 end
def uptoSmall : (H : Type) → List (DataW H) → Bool := fun _ ds => decide (uptoBulkAll ds ≤ 1048576)
def OpenSpec.upto (s : _root_.Go.ChangeSpec) : _root_.Go.OpenSpec := { _root_.Go.OpenSpec.ofChange s with cond := some uptoSmall }

/-- 'casementlaw13.AreaChecks', WHERE WHAT IT READS IS OF BULK AT MOST 1048576: true; the input reads as it did. -/
def areaChecksUptoRow : OpenClaim := { program := "yteaeccmlibmmmaa", sum := "46ca0888747393305e0063160788e7086266994e7e4059baa0ce918c9f6896b0", func := "casement/casementlaw13.AreaChecks", spec := "areaChecks", unfollowed := true, recurses := true, apart := false, narrowed := true }
def AreaChecksUptoSaid : Prop := areaChecksUptoRow.holds Try.pinned (OpenSpec.upto areaChecksSpec)

/-- 'casementlaw13.AreaWorks', WHERE WHAT IT READS IS OF BULK AT MOST 1048576: true; the input reads as it did. -/
def areaWorksUptoRow : OpenClaim := { program := "yteaeccmlibmmmaa", sum := "46ca0888747393305e0063160788e7086266994e7e4059baa0ce918c9f6896b0", func := "casement/casementlaw13.AreaWorks", spec := "areaWorks", apart := false, narrowed := true }
def AreaWorksUptoSaid : Prop := areaWorksUptoRow.holds Try.pinned (OpenSpec.upto areaWorksSpec)

/-- 'casementlaw13.AreaFinds', WHERE WHAT IT READS IS OF BULK AT MOST 1048576: true; the input reads as it did. -/
def areaFindsUptoRow : OpenClaim := { program := "yteaeccmlibmmmaa", sum := "46ca0888747393305e0063160788e7086266994e7e4059baa0ce918c9f6896b0", func := "casement/casementlaw13.AreaFinds", spec := "areaFinds", unfollowed := true, recurses := true, apart := false, narrowed := true }
def AreaFindsUptoSaid : Prop := areaFindsUptoRow.holds Try.pinned (OpenSpec.upto areaFindsSpec)

/-- 'casementlaw13.AreaInside', WHERE WHAT IT READS IS OF BULK AT MOST 1048576: true; the input reads as it did. -/
def areaInsideUptoRow : OpenClaim := { program := "yteaeccmlibmmmaa", sum := "46ca0888747393305e0063160788e7086266994e7e4059baa0ce918c9f6896b0", func := "casement/casementlaw13.AreaInside", spec := "areaInside", apart := false, narrowed := true }
def AreaInsideUptoSaid : Prop := areaInsideUptoRow.holds Try.pinned (OpenSpec.upto areaInsideSpec)

/-- 'casementlaw13.AreaOne', WHERE WHAT IT READS IS OF BULK AT MOST 1048576: true; the input reads as it did. -/
def areaOneUptoRow : OpenClaim := { program := "yteaeccmlibmmmaa", sum := "46ca0888747393305e0063160788e7086266994e7e4059baa0ce918c9f6896b0", func := "casement/casementlaw13.AreaOne", spec := "areaOne", unfollowed := true, recurses := true, apart := false, narrowed := true }
def AreaOneUptoSaid : Prop := areaOneUptoRow.holds Try.pinned (OpenSpec.upto areaOneSpec)

/-- 'casementlaw13.AreaNear', WHERE WHAT IT READS IS OF BULK AT MOST 1048576: true; the input reads as it did. -/
def areaNearUptoRow : OpenClaim := { program := "yteaeccmlibmmmaa", sum := "46ca0888747393305e0063160788e7086266994e7e4059baa0ce918c9f6896b0", func := "casement/casementlaw13.AreaNear", spec := "areaNear", unfollowed := true, recurses := true, apart := false, narrowed := true }
def AreaNearUptoSaid : Prop := areaNearUptoRow.holds Try.pinned (OpenSpec.upto areaNearSpec)

end Rows
end Go.Proofs.Yteaeccmlibmmmaa
