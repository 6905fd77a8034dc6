/-
  No cell of these rows narrows 'for every input' (looked for: loops, veiled, ifaces, maps, wideKeys, modest, calm, conditions, laid).
  DERIVED. THE GIVEN ROWS OF THIS SEAT. 6 by the template 'for every input the law returns true; each argument reads behind the call as it read before'; 0 by the template 'total and deterministic' (their statements: YtgioeijdgoogkaaTotals.lean).
  GIVEN WITH THE SEED: the statements are not yours to turn. If you find one false, say at which input.
  Laid BY PROGRAM, IN A SANDBOX (cutbox-rows.mjs): the forced cells as the released guide's own fill.sh prints them over the translation 837d292af43df215… (all of the seat's roots in one cut). By AI agents, Wed Nov 11 2026. No macro, syntax, notation, axiom, sorry.
-/
import Derived.Test.YtgioeijdgoogkaaChecked
import GoSem.Claim
import GoSem.ClaimJoined
import GoSem.ClaimMapViews
import Derived.JoinedTies
import Derived.KernelRfl
namespace Go.Proofs.Ytgioeijdgoogkaa
/- THE CELL 'sum', in the pinned program and in every row, IS THE sha256 OF THE DUMP (.gsa) THAT YtgioeijdgoogkaaProg.lean LOADS. Nothing in Lean hashes anything: it is a label: what it is worth is what the hold of that sum in a sandbox is worth. -/
noncomputable def Try.pinned : Pinned := { name := "ytgioeijdgoogkaa", sum := "837d292af43df2152bb26e7202b829dd8d2bc2db8058b0b3151ec09f712c6e3d", checked := Try.checked }
namespace Rows
def none {H : Type} : Left H := { results := [], args := [] }

/-- 'casementlaw16.OrderOwners': WHATEVER THE INPUT: true; the input reads as it did. -/
def orderOwnersSpec : ChangeSpec := { name := "orderOwners", fn := fun _ => fun
  | [d] => { results := [.lit (.bool true)], args := [d] }
  | _ => none }
def orderOwnersRow : OpenClaim := { program := "ytgioeijdgoogkaa", sum := "837d292af43df2152bb26e7202b829dd8d2bc2db8058b0b3151ec09f712c6e3d", func := "casement/casementlaw16.OrderOwners", spec := "orderOwners", unfollowed := true, recurses := true, apart := false }
def OrderOwnersSaid : Prop := orderOwnersRow.holds Try.pinned (OpenSpec.ofChange orderOwnersSpec)

/-- ITS FALSE NEIGHBOUR: 'it returns false'. Refute it at one input. -/
def orderOwnersWrong : ChangeSpec := { name := "orderOwners", fn := fun _ => fun
  | [d] => { results := [.lit (.bool false)], args := [d] }
  | _ => none }
def OrderOwnersWrongFalsely : Prop := orderOwnersRow.holds Try.pinned (OpenSpec.ofChange orderOwnersWrong)

/-- 'casementlaw16.OrderTells': WHATEVER THE INPUT: true; the input reads as it did. -/
def orderTellsSpec : ChangeSpec := { name := "orderTells", fn := fun _ => fun
  | [d] => { results := [.lit (.bool true)], args := [d] }
  | _ => none }
def orderTellsRow : OpenClaim := { program := "ytgioeijdgoogkaa", sum := "837d292af43df2152bb26e7202b829dd8d2bc2db8058b0b3151ec09f712c6e3d", func := "casement/casementlaw16.OrderTells", spec := "orderTells", unfollowed := true, recurses := true, apart := false }
def OrderTellsSaid : Prop := orderTellsRow.holds Try.pinned (OpenSpec.ofChange orderTellsSpec)

/-- ITS FALSE NEIGHBOUR: 'it returns false'. Refute it at one input. -/
def orderTellsWrong : ChangeSpec := { name := "orderTells", fn := fun _ => fun
  | [d] => { results := [.lit (.bool false)], args := [d] }
  | _ => none }
def OrderTellsWrongFalsely : Prop := orderTellsRow.holds Try.pinned (OpenSpec.ofChange orderTellsWrong)

/-- 'casementlaw16.OrderSound': WHATEVER THE INPUT: true; the input reads as it did. -/
def orderSoundSpec : ChangeSpec := { name := "orderSound", fn := fun _ => fun
  | [d] => { results := [.lit (.bool true)], args := [d] }
  | _ => none }
def orderSoundRow : OpenClaim := { program := "ytgioeijdgoogkaa", sum := "837d292af43df2152bb26e7202b829dd8d2bc2db8058b0b3151ec09f712c6e3d", func := "casement/casementlaw16.OrderSound", spec := "orderSound", unfollowed := true, recurses := true, apart := false }
def OrderSoundSaid : Prop := orderSoundRow.holds Try.pinned (OpenSpec.ofChange orderSoundSpec)

/-- ITS FALSE NEIGHBOUR: 'it returns false'. Refute it at one input. -/
def orderSoundWrong : ChangeSpec := { name := "orderSound", fn := fun _ => fun
  | [d] => { results := [.lit (.bool false)], args := [d] }
  | _ => none }
def OrderSoundWrongFalsely : Prop := orderSoundRow.holds Try.pinned (OpenSpec.ofChange orderSoundWrong)

/-- 'casementlaw16.OrderTurns': WHATEVER THE INPUT: true; the input reads as it did. -/
def orderTurnsSpec : ChangeSpec := { name := "orderTurns", fn := fun _ => fun
  | [d1, d2] => { results := [.lit (.bool true)], args := [d1, d2] }
  | _ => none }
def orderTurnsRow : OpenClaim := { program := "ytgioeijdgoogkaa", sum := "837d292af43df2152bb26e7202b829dd8d2bc2db8058b0b3151ec09f712c6e3d", func := "casement/casementlaw16.OrderTurns", spec := "orderTurns", unfollowed := true, recurses := true, apart := false }
def OrderTurnsSaid : Prop := orderTurnsRow.holds Try.pinned (OpenSpec.ofChange orderTurnsSpec)

/-- ITS FALSE NEIGHBOUR: 'it returns false'. Refute it at one input. -/
def orderTurnsWrong : ChangeSpec := { name := "orderTurns", fn := fun _ => fun
  | [d1, d2] => { results := [.lit (.bool false)], args := [d1, d2] }
  | _ => none }
def OrderTurnsWrongFalsely : Prop := orderTurnsRow.holds Try.pinned (OpenSpec.ofChange orderTurnsWrong)

/-- 'casementlaw16.OrderRaises': WHATEVER THE INPUT: true; the input reads as it did. -/
def orderRaisesSpec : ChangeSpec := { name := "orderRaises", fn := fun _ => fun
  | [d1, d2] => { results := [.lit (.bool true)], args := [d1, d2] }
  | _ => none }
def orderRaisesRow : OpenClaim := { program := "ytgioeijdgoogkaa", sum := "837d292af43df2152bb26e7202b829dd8d2bc2db8058b0b3151ec09f712c6e3d", func := "casement/casementlaw16.OrderRaises", spec := "orderRaises", unfollowed := true, recurses := true, apart := false }
def OrderRaisesSaid : Prop := orderRaisesRow.holds Try.pinned (OpenSpec.ofChange orderRaisesSpec)

/-- ITS FALSE NEIGHBOUR: 'it returns false'. Refute it at one input. -/
def orderRaisesWrong : ChangeSpec := { name := "orderRaises", fn := fun _ => fun
  | [d1, d2] => { results := [.lit (.bool false)], args := [d1, d2] }
  | _ => none }
def OrderRaisesWrongFalsely : Prop := orderRaisesRow.holds Try.pinned (OpenSpec.ofChange orderRaisesWrong)

/-- 'casementlaw16.OrderRings': WHATEVER THE INPUT: true; the input reads as it did. -/
def orderRingsSpec : ChangeSpec := { name := "orderRings", fn := fun _ => fun
  | [d] => { results := [.lit (.bool true)], args := [d] }
  | _ => none }
def orderRingsRow : OpenClaim := { program := "ytgioeijdgoogkaa", sum := "837d292af43df2152bb26e7202b829dd8d2bc2db8058b0b3151ec09f712c6e3d", func := "casement/casementlaw16.OrderRings", spec := "orderRings", unfollowed := true, recurses := true, apart := false }
def OrderRingsSaid : Prop := orderRingsRow.holds Try.pinned (OpenSpec.ofChange orderRingsSpec)

/-- ITS FALSE NEIGHBOUR: 'it returns false'. Refute it at one input. -/
def orderRingsWrong : ChangeSpec := { name := "orderRings", fn := fun _ => fun
  | [d] => { results := [.lit (.bool false)], args := [d] }
  | _ => none }
def OrderRingsWrongFalsely : Prop := orderRingsRow.holds Try.pinned (OpenSpec.ofChange orderRingsWrong)

/- THE SECOND FORM. 'bulk': how many values and letters a reading holds, each counted each time it is reached (what is shared counts as often as it is met; a slice's spare places count too). A statement '..UptoSaid' is the law's where the arguments, and the package variables that the reading takes, are together of bulk at most 1048576: NARROWER than '..Said'. Prove '..Said' where nothing that the law and all that it calls make is longer than what came in: it says more and counts as full. Else prove '..UptoSaid'. A law counts once. -/
mutual
def uptoBulk {H : Type} : DataW H → Nat
  | .lit (.string bytes) => bytes.length + 1
  | .lit _ => 1
  | .nil => 1
  | .ptr d => uptoBulk d + 1
  | .slice elems spare => uptoBulkAll elems + uptoBulkAll spare + 1
  | .agg parts => uptoBulkAll parts + 1
  | .iface _ d => uptoBulk d + 1
  | .map entries => uptoBulkEntries entries + 1
  | .held _ => 1
def uptoBulkAll {H : Type} : List (DataW H) → Nat
  | [] => 0
  | d :: r => uptoBulk d + uptoBulkAll r
def uptoBulkEntries {H : Type} : List (Lit × DataW H) → Nat
  | [] => 0
  | x :: r => uptoBulkEntry x + uptoBulkEntries r
def uptoBulkEntry {H : Type} : Lit × DataW H → Nat
  | (.string bytes, d) => bytes.length + uptoBulk d + 1
  | (_, d) => uptoBulk d + 1
 end
def uptoSmall : (H : Type) → List (DataW H) → Bool := fun _ ds => decide (uptoBulkAll ds ≤ 1048576)
def OpenSpec.upto (s : _root_.Go.ChangeSpec) : _root_.Go.OpenSpec := { _root_.Go.OpenSpec.ofChange s with cond := some uptoSmall }

/-- 'casementlaw16.OrderOwners', WHERE WHAT IT READS IS OF BULK AT MOST 1048576: true; the input reads as it did. -/
def orderOwnersUptoRow : OpenClaim := { program := "ytgioeijdgoogkaa", sum := "837d292af43df2152bb26e7202b829dd8d2bc2db8058b0b3151ec09f712c6e3d", func := "casement/casementlaw16.OrderOwners", spec := "orderOwners", unfollowed := true, recurses := true, apart := false, narrowed := true }
def OrderOwnersUptoSaid : Prop := orderOwnersUptoRow.holds Try.pinned (OpenSpec.upto orderOwnersSpec)

/-- 'casementlaw16.OrderTells', WHERE WHAT IT READS IS OF BULK AT MOST 1048576: true; the input reads as it did. -/
def orderTellsUptoRow : OpenClaim := { program := "ytgioeijdgoogkaa", sum := "837d292af43df2152bb26e7202b829dd8d2bc2db8058b0b3151ec09f712c6e3d", func := "casement/casementlaw16.OrderTells", spec := "orderTells", unfollowed := true, recurses := true, apart := false, narrowed := true }
def OrderTellsUptoSaid : Prop := orderTellsUptoRow.holds Try.pinned (OpenSpec.upto orderTellsSpec)

/-- 'casementlaw16.OrderSound', WHERE WHAT IT READS IS OF BULK AT MOST 1048576: true; the input reads as it did. -/
def orderSoundUptoRow : OpenClaim := { program := "ytgioeijdgoogkaa", sum := "837d292af43df2152bb26e7202b829dd8d2bc2db8058b0b3151ec09f712c6e3d", func := "casement/casementlaw16.OrderSound", spec := "orderSound", unfollowed := true, recurses := true, apart := false, narrowed := true }
def OrderSoundUptoSaid : Prop := orderSoundUptoRow.holds Try.pinned (OpenSpec.upto orderSoundSpec)

/-- 'casementlaw16.OrderTurns', WHERE WHAT IT READS IS OF BULK AT MOST 1048576: true; the input reads as it did. -/
def orderTurnsUptoRow : OpenClaim := { program := "ytgioeijdgoogkaa", sum := "837d292af43df2152bb26e7202b829dd8d2bc2db8058b0b3151ec09f712c6e3d", func := "casement/casementlaw16.OrderTurns", spec := "orderTurns", unfollowed := true, recurses := true, apart := false, narrowed := true }
def OrderTurnsUptoSaid : Prop := orderTurnsUptoRow.holds Try.pinned (OpenSpec.upto orderTurnsSpec)

/-- 'casementlaw16.OrderRaises', WHERE WHAT IT READS IS OF BULK AT MOST 1048576: true; the input reads as it did. -/
def orderRaisesUptoRow : OpenClaim := { program := "ytgioeijdgoogkaa", sum := "837d292af43df2152bb26e7202b829dd8d2bc2db8058b0b3151ec09f712c6e3d", func := "casement/casementlaw16.OrderRaises", spec := "orderRaises", unfollowed := true, recurses := true, apart := false, narrowed := true }
def OrderRaisesUptoSaid : Prop := orderRaisesUptoRow.holds Try.pinned (OpenSpec.upto orderRaisesSpec)

/-- 'casementlaw16.OrderRings', WHERE WHAT IT READS IS OF BULK AT MOST 1048576: true; the input reads as it did. -/
def orderRingsUptoRow : OpenClaim := { program := "ytgioeijdgoogkaa", sum := "837d292af43df2152bb26e7202b829dd8d2bc2db8058b0b3151ec09f712c6e3d", func := "casement/casementlaw16.OrderRings", spec := "orderRings", unfollowed := true, recurses := true, apart := false, narrowed := true }
def OrderRingsUptoSaid : Prop := orderRingsUptoRow.holds Try.pinned (OpenSpec.upto orderRingsSpec)

end Rows
end Go.Proofs.Ytgioeijdgoogkaa
