/-
  No cell of these rows narrows 'for every input' (looked for: loops, veiled, ifaces, maps, wideKeys, modest, calm, conditions, laid).
  DERIVED. THE GIVEN ROWS OF THIS SEAT. 5 by the template 'for every input the law returns true; each argument reads behind the call as it read before'; 0 by the template 'total and deterministic' (their statements: YtnhchpiafchdgaaGreatTotals.lean).
  GIVEN WITH THE SEED: the statements are not yours to turn. If you find one false, say at which input.
  Laid BY PROGRAM, IN A SANDBOX (cutbox-rows.mjs): the forced cells as the released guide's own fill.sh prints them over the translation 5841c42aab0301d5… (all of the seat's roots in one cut). By AI agents, Wed Nov 11 2026. No macro, syntax, notation, axiom, sorry.
-/
import Derived.Test.YtnhchpiafchdgaaGreatChecked
import GoSem.Claim
import GoSem.ClaimJoined
import GoSem.ClaimMapViews
import Derived.JoinedTies
import Derived.KernelRfl
namespace Go.Proofs.YtnhchpiafchdgaaGreat
/- THE CELL 'sum', in the pinned program and in every row, IS THE sha256 OF THE DUMP (.gsa) THAT YtnhchpiafchdgaaGreatProg.lean LOADS. Nothing in Lean hashes anything: it is a label: what it is worth is what the hold of that sum in a sandbox is worth. -/
noncomputable def Tryz.pinned : Pinned := { name := "ytnhchpiafchdgaagreat", sum := "5841c42aab0301d5c28e8ca56997a4597d2c68a458edd6249d1fe7ae2094cf1c", checked := Tryz.checked }
namespace Rows
def none {H : Type} : Left H := { results := [], args := [] }

/-- 'casementlaw08.ServerPlays': WHATEVER THE INPUT: true; the input reads as it did. -/
def serverPlaysSpec : ChangeSpec := { name := "serverPlays", fn := fun _ => fun
  | [d1, d2, d3] => { results := [.lit (.bool true)], args := [d1, d2, d3] }
  | _ => none }
def serverPlaysRow : OpenClaim := { program := "ytnhchpiafchdgaagreat", sum := "5841c42aab0301d5c28e8ca56997a4597d2c68a458edd6249d1fe7ae2094cf1c", func := "casement/casementlaw08.ServerPlays", spec := "serverPlays", inPlace := ["slices.overlaps[int]"], unfollowed := true, recurses := true, apart := false }
def ServerPlaysSaid : Prop := serverPlaysRow.holds Tryz.pinned (OpenSpec.ofChange serverPlaysSpec)

/-- ITS FALSE NEIGHBOUR: 'it returns false'. Refute it at one input. -/
def serverPlaysWrong : ChangeSpec := { name := "serverPlays", fn := fun _ => fun
  | [d1, d2, d3] => { results := [.lit (.bool false)], args := [d1, d2, d3] }
  | _ => none }
def ServerPlaysWrongFalsely : Prop := serverPlaysRow.holds Tryz.pinned (OpenSpec.ofChange serverPlaysWrong)

/-- 'casementlaw08.ServerFocus': WHATEVER THE INPUT: true; the input reads as it did. -/
def serverFocusSpec : ChangeSpec := { name := "serverFocus", fn := fun _ => fun
  | [d] => { results := [.lit (.bool true)], args := [d] }
  | _ => none }
def serverFocusRow : OpenClaim := { program := "ytnhchpiafchdgaagreat", sum := "5841c42aab0301d5c28e8ca56997a4597d2c68a458edd6249d1fe7ae2094cf1c", func := "casement/casementlaw08.ServerFocus", spec := "serverFocus", inPlace := ["slices.overlaps[int]"], unfollowed := true, recurses := true, apart := false }
def ServerFocusSaid : Prop := serverFocusRow.holds Tryz.pinned (OpenSpec.ofChange serverFocusSpec)

/-- ITS FALSE NEIGHBOUR: 'it returns false'. Refute it at one input. -/
def serverFocusWrong : ChangeSpec := { name := "serverFocus", fn := fun _ => fun
  | [d] => { results := [.lit (.bool false)], args := [d] }
  | _ => none }
def ServerFocusWrongFalsely : Prop := serverFocusRow.holds Tryz.pinned (OpenSpec.ofChange serverFocusWrong)

/-- 'casementlaw08.ServerOwn': WHATEVER THE INPUT: true; the input reads as it did. -/
def serverOwnSpec : ChangeSpec := { name := "serverOwn", fn := fun _ => fun
  | [d1, d2] => { results := [.lit (.bool true)], args := [d1, d2] }
  | _ => none }
def serverOwnRow : OpenClaim := { program := "ytnhchpiafchdgaagreat", sum := "5841c42aab0301d5c28e8ca56997a4597d2c68a458edd6249d1fe7ae2094cf1c", func := "casement/casementlaw08.ServerOwn", spec := "serverOwn", inPlace := ["slices.overlaps[int]"], unfollowed := true, recurses := true, apart := false }
def ServerOwnSaid : Prop := serverOwnRow.holds Tryz.pinned (OpenSpec.ofChange serverOwnSpec)

/-- ITS FALSE NEIGHBOUR: 'it returns false'. Refute it at one input. -/
def serverOwnWrong : ChangeSpec := { name := "serverOwn", fn := fun _ => fun
  | [d1, d2] => { results := [.lit (.bool false)], args := [d1, d2] }
  | _ => none }
def ServerOwnWrongFalsely : Prop := serverOwnRow.holds Tryz.pinned (OpenSpec.ofChange serverOwnWrong)

/-- 'casementlaw08.ServerAsks': WHATEVER THE INPUT: true; the input reads as it did. -/
def serverAsksSpec : ChangeSpec := { name := "serverAsks", fn := fun _ => fun
  | [d1, d2, d3] => { results := [.lit (.bool true)], args := [d1, d2, d3] }
  | _ => none }
def serverAsksRow : OpenClaim := { program := "ytnhchpiafchdgaagreat", sum := "5841c42aab0301d5c28e8ca56997a4597d2c68a458edd6249d1fe7ae2094cf1c", func := "casement/casementlaw08.ServerAsks", spec := "serverAsks", inPlace := ["slices.overlaps[int]"], unfollowed := true, recurses := true, apart := false }
def ServerAsksSaid : Prop := serverAsksRow.holds Tryz.pinned (OpenSpec.ofChange serverAsksSpec)

/-- ITS FALSE NEIGHBOUR: 'it returns false'. Refute it at one input. -/
def serverAsksWrong : ChangeSpec := { name := "serverAsks", fn := fun _ => fun
  | [d1, d2, d3] => { results := [.lit (.bool false)], args := [d1, d2, d3] }
  | _ => none }
def ServerAsksWrongFalsely : Prop := serverAsksRow.holds Tryz.pinned (OpenSpec.ofChange serverAsksWrong)

/-- 'casementlaw08.ServerNobody': WHATEVER THE INPUT: true; the input reads as it did. -/
def serverNobodySpec : ChangeSpec := { name := "serverNobody", fn := fun _ => fun
  | [d] => { results := [.lit (.bool true)], args := [d] }
  | _ => none }
def serverNobodyRow : OpenClaim := { program := "ytnhchpiafchdgaagreat", sum := "5841c42aab0301d5c28e8ca56997a4597d2c68a458edd6249d1fe7ae2094cf1c", func := "casement/casementlaw08.ServerNobody", spec := "serverNobody", inPlace := ["slices.overlaps[int]"], unfollowed := true, recurses := true, apart := false }
def ServerNobodySaid : Prop := serverNobodyRow.holds Tryz.pinned (OpenSpec.ofChange serverNobodySpec)

/-- ITS FALSE NEIGHBOUR: 'it returns false'. Refute it at one input. -/
def serverNobodyWrong : ChangeSpec := { name := "serverNobody", fn := fun _ => fun
  | [d] => { results := [.lit (.bool false)], args := [d] }
  | _ => none }
def ServerNobodyWrongFalsely : Prop := serverNobodyRow.holds Tryz.pinned (OpenSpec.ofChange serverNobodyWrong)

/- THE SECOND FORM. 'bulk': how many values and letters a reading holds, each counted each time it is reached (what is shared counts as often as it is met; a slice's spare places count too). A statement '..UptoSaid' is the law's where the arguments, and the package variables that the reading takes, are together of bulk at most 1048576: NARROWER than '..Said'. Prove '..Said' where nothing that the law and all that it calls make is longer than what came in: it says more and counts as full. Else prove '..UptoSaid'. A law counts once. -/
mutual
def uptoBulk {H : Type} : DataW H → Nat
  | .lit (.string bytes) => bytes.length + 1
  | .lit _ => 1
  | .nil => 1
  | .ptr d => uptoBulk d + 1
  | .slice elems spare => uptoBulkAll elems + uptoBulkAll spare + 1
  | .agg parts => uptoBulkAll parts + 1
  | .iface _ d => uptoBulk d + 1
  | .map entries => uptoBulkEntries entries + 1
  | .held _ => 1
def uptoBulkAll {H : Type} : List (DataW H) → Nat
  | [] => 0
  | d :: r => uptoBulk d + uptoBulkAll r
def uptoBulkEntries {H : Type} : List (Lit × DataW H) → Nat
  | [] => 0
  | x :: r => uptoBulkEntry x + uptoBulkEntries r
def uptoBulkEntry {H : Type} : Lit × DataW H → Nat
  | (.string bytes, d) => bytes.length + uptoBulk d + 1
  | (_, d) => uptoBulk d + 1
 end
def uptoSmall : (H : Type) → List (DataW H) → Bool := fun _ ds => decide (uptoBulkAll ds ≤ 1048576)
def OpenSpec.upto (s : _root_.Go.ChangeSpec) : _root_.Go.OpenSpec := { _root_.Go.OpenSpec.ofChange s with cond := some uptoSmall }

/-- 'casementlaw08.ServerPlays', WHERE WHAT IT READS IS OF BULK AT MOST 1048576: true; the input reads as it did. -/
def serverPlaysUptoRow : OpenClaim := { program := "ytnhchpiafchdgaagreat", sum := "5841c42aab0301d5c28e8ca56997a4597d2c68a458edd6249d1fe7ae2094cf1c", func := "casement/casementlaw08.ServerPlays", spec := "serverPlays", inPlace := ["slices.overlaps[int]"], unfollowed := true, recurses := true, apart := false, narrowed := true }
def ServerPlaysUptoSaid : Prop := serverPlaysUptoRow.holds Tryz.pinned (OpenSpec.upto serverPlaysSpec)

/-- 'casementlaw08.ServerFocus', WHERE WHAT IT READS IS OF BULK AT MOST 1048576: true; the input reads as it did. -/
def serverFocusUptoRow : OpenClaim := { program := "ytnhchpiafchdgaagreat", sum := "5841c42aab0301d5c28e8ca56997a4597d2c68a458edd6249d1fe7ae2094cf1c", func := "casement/casementlaw08.ServerFocus", spec := "serverFocus", inPlace := ["slices.overlaps[int]"], unfollowed := true, recurses := true, apart := false, narrowed := true }
def ServerFocusUptoSaid : Prop := serverFocusUptoRow.holds Tryz.pinned (OpenSpec.upto serverFocusSpec)

/-- 'casementlaw08.ServerOwn', WHERE WHAT IT READS IS OF BULK AT MOST 1048576: true; the input reads as it did. -/
def serverOwnUptoRow : OpenClaim := { program := "ytnhchpiafchdgaagreat", sum := "5841c42aab0301d5c28e8ca56997a4597d2c68a458edd6249d1fe7ae2094cf1c", func := "casement/casementlaw08.ServerOwn", spec := "serverOwn", inPlace := ["slices.overlaps[int]"], unfollowed := true, recurses := true, apart := false, narrowed := true }
def ServerOwnUptoSaid : Prop := serverOwnUptoRow.holds Tryz.pinned (OpenSpec.upto serverOwnSpec)

/-- 'casementlaw08.ServerAsks', WHERE WHAT IT READS IS OF BULK AT MOST 1048576: true; the input reads as it did. -/
def serverAsksUptoRow : OpenClaim := { program := "ytnhchpiafchdgaagreat", sum := "5841c42aab0301d5c28e8ca56997a4597d2c68a458edd6249d1fe7ae2094cf1c", func := "casement/casementlaw08.ServerAsks", spec := "serverAsks", inPlace := ["slices.overlaps[int]"], unfollowed := true, recurses := true, apart := false, narrowed := true }
def ServerAsksUptoSaid : Prop := serverAsksUptoRow.holds Tryz.pinned (OpenSpec.upto serverAsksSpec)

/-- 'casementlaw08.ServerNobody', WHERE WHAT IT READS IS OF BULK AT MOST 1048576: true; the input reads as it did. -/
def serverNobodyUptoRow : OpenClaim := { program := "ytnhchpiafchdgaagreat", sum := "5841c42aab0301d5c28e8ca56997a4597d2c68a458edd6249d1fe7ae2094cf1c", func := "casement/casementlaw08.ServerNobody", spec := "serverNobody", inPlace := ["slices.overlaps[int]"], unfollowed := true, recurses := true, apart := false, narrowed := true }
def ServerNobodyUptoSaid : Prop := serverNobodyUptoRow.holds Tryz.pinned (OpenSpec.upto serverNobodySpec)

end Rows
end Go.Proofs.YtnhchpiafchdgaaGreat
