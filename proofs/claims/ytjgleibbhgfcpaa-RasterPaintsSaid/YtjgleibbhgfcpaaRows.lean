/-
  No cell of these rows narrows 'for every input' (looked for: loops, veiled, ifaces, maps, wideKeys, modest, calm, conditions, laid).
  DERIVED. THE GIVEN ROWS OF THIS SEAT. 12 by the template 'for every input the law returns true; each argument reads behind the call as it read before'; 0 by the template 'total and deterministic' (their statements: YtjgleibbhgfcpaaTotals.lean).
  GIVEN WITH THE SEED: the statements are not yours to turn. If you find one false, say at which input.
  Laid BY PROGRAM, IN A SANDBOX (cutbox-rows.mjs): the forced cells as the released guide's own fill.sh prints them over the translation 2f93f3cb0bab6f70… (all of the seat's roots in one cut). By AI agents, Wed Nov 11 2026. No macro, syntax, notation, axiom, sorry.
-/
import Derived.Test.YtjgleibbhgfcpaaChecked
import GoSem.Claim
import GoSem.ClaimJoined
import GoSem.ClaimMapViews
import Derived.JoinedTies
import Derived.KernelRfl
namespace Go.Proofs.Ytjgleibbhgfcpaa
/- THE CELL 'sum', in the pinned program and in every row, IS THE sha256 OF THE DUMP (.gsa) THAT YtjgleibbhgfcpaaProg.lean LOADS. Nothing in Lean hashes anything: it is a label: what it is worth is what the hold of that sum in a sandbox is worth. -/
noncomputable def Try.pinned : Pinned := { name := "ytjgleibbhgfcpaa", sum := "2f93f3cb0bab6f70a2160b981a5f26bcfcda22c803bea179fc72380316b85b09", checked := Try.checked }
namespace Rows
def none {H : Type} : Left H := { results := [], args := [] }

/-- 'casementlaw02.RegionSets': WHATEVER THE INPUT: true; the input reads as it did. -/
def regionSetsSpec : ChangeSpec := { name := "regionSets", fn := fun _ => fun
  | [d1, d2] => { results := [.lit (.bool true)], args := [d1, d2] }
  | _ => none }
def regionSetsRow : OpenClaim := { program := "ytjgleibbhgfcpaa", sum := "2f93f3cb0bab6f70a2160b981a5f26bcfcda22c803bea179fc72380316b85b09", func := "casement/casementlaw02.RegionSets", spec := "regionSets", unfollowed := true, recurses := true, apart := false }
def RegionSetsSaid : Prop := regionSetsRow.holds Try.pinned (OpenSpec.ofChange regionSetsSpec)

/-- ITS FALSE NEIGHBOUR: 'it returns false'. Refute it at one input. -/
def regionSetsWrong : ChangeSpec := { name := "regionSets", fn := fun _ => fun
  | [d1, d2] => { results := [.lit (.bool false)], args := [d1, d2] }
  | _ => none }
def RegionSetsWrongFalsely : Prop := regionSetsRow.holds Try.pinned (OpenSpec.ofChange regionSetsWrong)

/-- 'casementlaw02.RegionTells': WHATEVER THE INPUT: true; the input reads as it did. -/
def regionTellsSpec : ChangeSpec := { name := "regionTells", fn := fun _ => fun
  | [d1, d2] => { results := [.lit (.bool true)], args := [d1, d2] }
  | _ => none }
def regionTellsRow : OpenClaim := { program := "ytjgleibbhgfcpaa", sum := "2f93f3cb0bab6f70a2160b981a5f26bcfcda22c803bea179fc72380316b85b09", func := "casement/casementlaw02.RegionTells", spec := "regionTells", unfollowed := true, recurses := true, apart := false }
def RegionTellsSaid : Prop := regionTellsRow.holds Try.pinned (OpenSpec.ofChange regionTellsSpec)

/-- ITS FALSE NEIGHBOUR: 'it returns false'. Refute it at one input. -/
def regionTellsWrong : ChangeSpec := { name := "regionTells", fn := fun _ => fun
  | [d1, d2] => { results := [.lit (.bool false)], args := [d1, d2] }
  | _ => none }
def RegionTellsWrongFalsely : Prop := regionTellsRow.holds Try.pinned (OpenSpec.ofChange regionTellsWrong)

/-- 'casementlaw02.RegionPoints': WHATEVER THE INPUT: true; the input reads as it did. -/
def regionPointsSpec : ChangeSpec := { name := "regionPoints", fn := fun _ => fun
  | [d1, d2, d3] => { results := [.lit (.bool true)], args := [d1, d2, d3] }
  | _ => none }
def regionPointsRow : OpenClaim := { program := "ytjgleibbhgfcpaa", sum := "2f93f3cb0bab6f70a2160b981a5f26bcfcda22c803bea179fc72380316b85b09", func := "casement/casementlaw02.RegionPoints", spec := "regionPoints", unfollowed := true, recurses := true, apart := false }
def RegionPointsSaid : Prop := regionPointsRow.holds Try.pinned (OpenSpec.ofChange regionPointsSpec)

/-- ITS FALSE NEIGHBOUR: 'it returns false'. Refute it at one input. -/
def regionPointsWrong : ChangeSpec := { name := "regionPoints", fn := fun _ => fun
  | [d1, d2, d3] => { results := [.lit (.bool false)], args := [d1, d2, d3] }
  | _ => none }
def RegionPointsWrongFalsely : Prop := regionPointsRow.holds Try.pinned (OpenSpec.ofChange regionPointsWrong)

/-- 'casementlaw02.RegionOne': WHATEVER THE INPUT: true; the input reads as it did. -/
def regionOneSpec : ChangeSpec := { name := "regionOne", fn := fun _ => fun
  | [d1, d2] => { results := [.lit (.bool true)], args := [d1, d2] }
  | _ => none }
def regionOneRow : OpenClaim := { program := "ytjgleibbhgfcpaa", sum := "2f93f3cb0bab6f70a2160b981a5f26bcfcda22c803bea179fc72380316b85b09", func := "casement/casementlaw02.RegionOne", spec := "regionOne", unfollowed := true, recurses := true, apart := false }
def RegionOneSaid : Prop := regionOneRow.holds Try.pinned (OpenSpec.ofChange regionOneSpec)

/-- ITS FALSE NEIGHBOUR: 'it returns false'. Refute it at one input. -/
def regionOneWrong : ChangeSpec := { name := "regionOne", fn := fun _ => fun
  | [d1, d2] => { results := [.lit (.bool false)], args := [d1, d2] }
  | _ => none }
def RegionOneWrongFalsely : Prop := regionOneRow.holds Try.pinned (OpenSpec.ofChange regionOneWrong)

/-- 'casementlaw02.RegionParts': WHATEVER THE INPUT: true; the input reads as it did. -/
def regionPartsSpec : ChangeSpec := { name := "regionParts", fn := fun _ => fun
  | [d1, d2] => { results := [.lit (.bool true)], args := [d1, d2] }
  | _ => none }
def regionPartsRow : OpenClaim := { program := "ytjgleibbhgfcpaa", sum := "2f93f3cb0bab6f70a2160b981a5f26bcfcda22c803bea179fc72380316b85b09", func := "casement/casementlaw02.RegionParts", spec := "regionParts", unfollowed := true, recurses := true, apart := false }
def RegionPartsSaid : Prop := regionPartsRow.holds Try.pinned (OpenSpec.ofChange regionPartsSpec)

/-- ITS FALSE NEIGHBOUR: 'it returns false'. Refute it at one input. -/
def regionPartsWrong : ChangeSpec := { name := "regionParts", fn := fun _ => fun
  | [d1, d2] => { results := [.lit (.bool false)], args := [d1, d2] }
  | _ => none }
def RegionPartsWrongFalsely : Prop := regionPartsRow.holds Try.pinned (OpenSpec.ofChange regionPartsWrong)

/-- 'casementlaw02.RegionCounts': WHATEVER THE INPUT: true; the input reads as it did. -/
def regionCountsSpec : ChangeSpec := { name := "regionCounts", fn := fun _ => fun
  | [d1, d2] => { results := [.lit (.bool true)], args := [d1, d2] }
  | _ => none }
def regionCountsRow : OpenClaim := { program := "ytjgleibbhgfcpaa", sum := "2f93f3cb0bab6f70a2160b981a5f26bcfcda22c803bea179fc72380316b85b09", func := "casement/casementlaw02.RegionCounts", spec := "regionCounts", unfollowed := true, recurses := true, apart := false }
def RegionCountsSaid : Prop := regionCountsRow.holds Try.pinned (OpenSpec.ofChange regionCountsSpec)

/-- ITS FALSE NEIGHBOUR: 'it returns false'. Refute it at one input. -/
def regionCountsWrong : ChangeSpec := { name := "regionCounts", fn := fun _ => fun
  | [d1, d2] => { results := [.lit (.bool false)], args := [d1, d2] }
  | _ => none }
def RegionCountsWrongFalsely : Prop := regionCountsRow.holds Try.pinned (OpenSpec.ofChange regionCountsWrong)

/-- 'casementlaw04.RasterBlends': WHATEVER THE INPUT: true; the input reads as it did. -/
def rasterBlendsSpec : ChangeSpec := { name := "rasterBlends", fn := fun _ => fun
  | [d1, d2] => { results := [.lit (.bool true)], args := [d1, d2] }
  | _ => none }
def rasterBlendsRow : OpenClaim := { program := "ytjgleibbhgfcpaa", sum := "2f93f3cb0bab6f70a2160b981a5f26bcfcda22c803bea179fc72380316b85b09", func := "casement/casementlaw04.RasterBlends", spec := "rasterBlends", unfollowed := true, recurses := true, apart := false }
def RasterBlendsSaid : Prop := rasterBlendsRow.holds Try.pinned (OpenSpec.ofChange rasterBlendsSpec)

/-- ITS FALSE NEIGHBOUR: 'it returns false'. Refute it at one input. -/
def rasterBlendsWrong : ChangeSpec := { name := "rasterBlends", fn := fun _ => fun
  | [d1, d2] => { results := [.lit (.bool false)], args := [d1, d2] }
  | _ => none }
def RasterBlendsWrongFalsely : Prop := rasterBlendsRow.holds Try.pinned (OpenSpec.ofChange rasterBlendsWrong)

/-- 'casementlaw04.RasterPaints': WHATEVER THE INPUT: true; the input reads as it did. -/
def rasterPaintsSpec : ChangeSpec := { name := "rasterPaints", fn := fun _ => fun
  | [d1, d2, d3, d4, d5] => { results := [.lit (.bool true)], args := [d1, d2, d3, d4, d5] }
  | _ => none }
def rasterPaintsRow : OpenClaim := { program := "ytjgleibbhgfcpaa", sum := "2f93f3cb0bab6f70a2160b981a5f26bcfcda22c803bea179fc72380316b85b09", func := "casement/casementlaw04.RasterPaints", spec := "rasterPaints", unfollowed := true, recurses := true, apart := false }
def RasterPaintsSaid : Prop := rasterPaintsRow.holds Try.pinned (OpenSpec.ofChange rasterPaintsSpec)

/-- ITS FALSE NEIGHBOUR: 'it returns false'. Refute it at one input. -/
def rasterPaintsWrong : ChangeSpec := { name := "rasterPaints", fn := fun _ => fun
  | [d1, d2, d3, d4, d5] => { results := [.lit (.bool false)], args := [d1, d2, d3, d4, d5] }
  | _ => none }
def RasterPaintsWrongFalsely : Prop := rasterPaintsRow.holds Try.pinned (OpenSpec.ofChange rasterPaintsWrong)

/-- 'casementlaw04.RasterClips': WHATEVER THE INPUT: true; the input reads as it did. -/
def rasterClipsSpec : ChangeSpec := { name := "rasterClips", fn := fun _ => fun
  | [d1, d2, d3, d4] => { results := [.lit (.bool true)], args := [d1, d2, d3, d4] }
  | _ => none }
def rasterClipsRow : OpenClaim := { program := "ytjgleibbhgfcpaa", sum := "2f93f3cb0bab6f70a2160b981a5f26bcfcda22c803bea179fc72380316b85b09", func := "casement/casementlaw04.RasterClips", spec := "rasterClips", unfollowed := true, recurses := true, apart := false }
def RasterClipsSaid : Prop := rasterClipsRow.holds Try.pinned (OpenSpec.ofChange rasterClipsSpec)

/-- ITS FALSE NEIGHBOUR: 'it returns false'. Refute it at one input. -/
def rasterClipsWrong : ChangeSpec := { name := "rasterClips", fn := fun _ => fun
  | [d1, d2, d3, d4] => { results := [.lit (.bool false)], args := [d1, d2, d3, d4] }
  | _ => none }
def RasterClipsWrongFalsely : Prop := rasterClipsRow.holds Try.pinned (OpenSpec.ofChange rasterClipsWrong)

/-- 'casementlaw04.RasterLaws': WHATEVER THE INPUT: true; the input reads as it did. -/
def rasterLawsSpec : ChangeSpec := { name := "rasterLaws", fn := fun _ => fun
  | [d1, d2] => { results := [.lit (.bool true)], args := [d1, d2] }
  | _ => none }
def rasterLawsRow : OpenClaim := { program := "ytjgleibbhgfcpaa", sum := "2f93f3cb0bab6f70a2160b981a5f26bcfcda22c803bea179fc72380316b85b09", func := "casement/casementlaw04.RasterLaws", spec := "rasterLaws", unfollowed := true, recurses := true, apart := false }
def RasterLawsSaid : Prop := rasterLawsRow.holds Try.pinned (OpenSpec.ofChange rasterLawsSpec)

/-- ITS FALSE NEIGHBOUR: 'it returns false'. Refute it at one input. -/
def rasterLawsWrong : ChangeSpec := { name := "rasterLaws", fn := fun _ => fun
  | [d1, d2] => { results := [.lit (.bool false)], args := [d1, d2] }
  | _ => none }
def RasterLawsWrongFalsely : Prop := rasterLawsRow.holds Try.pinned (OpenSpec.ofChange rasterLawsWrong)

/-- 'casementlaw04.RasterTwice': WHATEVER THE INPUT: true; the input reads as it did. -/
def rasterTwiceSpec : ChangeSpec := { name := "rasterTwice", fn := fun _ => fun
  | [d1, d2, d3, d4] => { results := [.lit (.bool true)], args := [d1, d2, d3, d4] }
  | _ => none }
def rasterTwiceRow : OpenClaim := { program := "ytjgleibbhgfcpaa", sum := "2f93f3cb0bab6f70a2160b981a5f26bcfcda22c803bea179fc72380316b85b09", func := "casement/casementlaw04.RasterTwice", spec := "rasterTwice", unfollowed := true, recurses := true, apart := false }
def RasterTwiceSaid : Prop := rasterTwiceRow.holds Try.pinned (OpenSpec.ofChange rasterTwiceSpec)

/-- ITS FALSE NEIGHBOUR: 'it returns false'. Refute it at one input. -/
def rasterTwiceWrong : ChangeSpec := { name := "rasterTwice", fn := fun _ => fun
  | [d1, d2, d3, d4] => { results := [.lit (.bool false)], args := [d1, d2, d3, d4] }
  | _ => none }
def RasterTwiceWrongFalsely : Prop := rasterTwiceRow.holds Try.pinned (OpenSpec.ofChange rasterTwiceWrong)

/-- 'casementlaw04.RasterNobody': WHATEVER THE INPUT: true; the input reads as it did. -/
def rasterNobodySpec : ChangeSpec := { name := "rasterNobody", fn := fun _ => fun
  | [d1, d2] => { results := [.lit (.bool true)], args := [d1, d2] }
  | _ => none }
def rasterNobodyRow : OpenClaim := { program := "ytjgleibbhgfcpaa", sum := "2f93f3cb0bab6f70a2160b981a5f26bcfcda22c803bea179fc72380316b85b09", func := "casement/casementlaw04.RasterNobody", spec := "rasterNobody", unfollowed := true, recurses := true, apart := false }
def RasterNobodySaid : Prop := rasterNobodyRow.holds Try.pinned (OpenSpec.ofChange rasterNobodySpec)

/-- ITS FALSE NEIGHBOUR: 'it returns false'. Refute it at one input. -/
def rasterNobodyWrong : ChangeSpec := { name := "rasterNobody", fn := fun _ => fun
  | [d1, d2] => { results := [.lit (.bool false)], args := [d1, d2] }
  | _ => none }
def RasterNobodyWrongFalsely : Prop := rasterNobodyRow.holds Try.pinned (OpenSpec.ofChange rasterNobodyWrong)

/- THE SECOND FORM. 'bulk': how many values and letters a reading holds, each counted each time it is reached (what is shared counts as often as it is met; a slice's spare places count too). A statement '..UptoSaid' is the law's where the arguments, and the package variables that the reading takes, are together of bulk at most 1048576: NARROWER than '..Said'. Prove '..Said' where nothing that the law and all that it calls make is longer than what came in: it says more and counts as full. Else prove '..UptoSaid'. A law counts once. -/
mutual
def uptoBulk {H : Type} : DataW H → Nat
  | .lit (.string bytes) => bytes.length + 1
  | .lit _ => 1
  | .nil => 1
  | .ptr d => uptoBulk d + 1
  | .slice elems spare => uptoBulkAll elems + uptoBulkAll spare + 1
  | .agg parts => uptoBulkAll parts + 1
  | .iface _ d => uptoBulk d + 1
  | .map entries => uptoBulkEntries entries + 1
  | .held _ => 1
def uptoBulkAll {H : Type} : List (DataW H) → Nat
  | [] => 0
  | d :: r => uptoBulk d + uptoBulkAll r
def uptoBulkEntries {H : Type} : List (Lit × DataW H) → Nat
  | [] => 0
  | x :: r => uptoBulkEntry x + uptoBulkEntries r
def uptoBulkEntry {H : Type} : Lit × DataW H → Nat
  | (.string bytes, d) => bytes.length + uptoBulk d + 1
  | (_, d) => uptoBulk d + 1
 end
def uptoSmall : (H : Type) → List (DataW H) → Bool := fun _ ds => decide (uptoBulkAll ds ≤ 1048576)
def OpenSpec.upto (s : _root_.Go.ChangeSpec) : _root_.Go.OpenSpec := { _root_.Go.OpenSpec.ofChange s with cond := some uptoSmall }

/-- 'casementlaw02.RegionSets', WHERE WHAT IT READS IS OF BULK AT MOST 1048576: true; the input reads as it did. -/
def regionSetsUptoRow : OpenClaim := { program := "ytjgleibbhgfcpaa", sum := "2f93f3cb0bab6f70a2160b981a5f26bcfcda22c803bea179fc72380316b85b09", func := "casement/casementlaw02.RegionSets", spec := "regionSets", unfollowed := true, recurses := true, apart := false, narrowed := true }
def RegionSetsUptoSaid : Prop := regionSetsUptoRow.holds Try.pinned (OpenSpec.upto regionSetsSpec)

/-- 'casementlaw02.RegionTells', WHERE WHAT IT READS IS OF BULK AT MOST 1048576: true; the input reads as it did. -/
def regionTellsUptoRow : OpenClaim := { program := "ytjgleibbhgfcpaa", sum := "2f93f3cb0bab6f70a2160b981a5f26bcfcda22c803bea179fc72380316b85b09", func := "casement/casementlaw02.RegionTells", spec := "regionTells", unfollowed := true, recurses := true, apart := false, narrowed := true }
def RegionTellsUptoSaid : Prop := regionTellsUptoRow.holds Try.pinned (OpenSpec.upto regionTellsSpec)

/-- 'casementlaw02.RegionPoints', WHERE WHAT IT READS IS OF BULK AT MOST 1048576: true; the input reads as it did. -/
def regionPointsUptoRow : OpenClaim := { program := "ytjgleibbhgfcpaa", sum := "2f93f3cb0bab6f70a2160b981a5f26bcfcda22c803bea179fc72380316b85b09", func := "casement/casementlaw02.RegionPoints", spec := "regionPoints", unfollowed := true, recurses := true, apart := false, narrowed := true }
def RegionPointsUptoSaid : Prop := regionPointsUptoRow.holds Try.pinned (OpenSpec.upto regionPointsSpec)

/-- 'casementlaw02.RegionOne', WHERE WHAT IT READS IS OF BULK AT MOST 1048576: true; the input reads as it did. -/
def regionOneUptoRow : OpenClaim := { program := "ytjgleibbhgfcpaa", sum := "2f93f3cb0bab6f70a2160b981a5f26bcfcda22c803bea179fc72380316b85b09", func := "casement/casementlaw02.RegionOne", spec := "regionOne", unfollowed := true, recurses := true, apart := false, narrowed := true }
def RegionOneUptoSaid : Prop := regionOneUptoRow.holds Try.pinned (OpenSpec.upto regionOneSpec)

/-- 'casementlaw02.RegionParts', WHERE WHAT IT READS IS OF BULK AT MOST 1048576: true; the input reads as it did. -/
def regionPartsUptoRow : OpenClaim := { program := "ytjgleibbhgfcpaa", sum := "2f93f3cb0bab6f70a2160b981a5f26bcfcda22c803bea179fc72380316b85b09", func := "casement/casementlaw02.RegionParts", spec := "regionParts", unfollowed := true, recurses := true, apart := false, narrowed := true }
def RegionPartsUptoSaid : Prop := regionPartsUptoRow.holds Try.pinned (OpenSpec.upto regionPartsSpec)

/-- 'casementlaw02.RegionCounts', WHERE WHAT IT READS IS OF BULK AT MOST 1048576: true; the input reads as it did. -/
def regionCountsUptoRow : OpenClaim := { program := "ytjgleibbhgfcpaa", sum := "2f93f3cb0bab6f70a2160b981a5f26bcfcda22c803bea179fc72380316b85b09", func := "casement/casementlaw02.RegionCounts", spec := "regionCounts", unfollowed := true, recurses := true, apart := false, narrowed := true }
def RegionCountsUptoSaid : Prop := regionCountsUptoRow.holds Try.pinned (OpenSpec.upto regionCountsSpec)

/-- 'casementlaw04.RasterBlends', WHERE WHAT IT READS IS OF BULK AT MOST 1048576: true; the input reads as it did. -/
def rasterBlendsUptoRow : OpenClaim := { program := "ytjgleibbhgfcpaa", sum := "2f93f3cb0bab6f70a2160b981a5f26bcfcda22c803bea179fc72380316b85b09", func := "casement/casementlaw04.RasterBlends", spec := "rasterBlends", unfollowed := true, recurses := true, apart := false, narrowed := true }
def RasterBlendsUptoSaid : Prop := rasterBlendsUptoRow.holds Try.pinned (OpenSpec.upto rasterBlendsSpec)

/-- 'casementlaw04.RasterPaints', WHERE WHAT IT READS IS OF BULK AT MOST 1048576: true; the input reads as it did. -/
def rasterPaintsUptoRow : OpenClaim := { program := "ytjgleibbhgfcpaa", sum := "2f93f3cb0bab6f70a2160b981a5f26bcfcda22c803bea179fc72380316b85b09", func := "casement/casementlaw04.RasterPaints", spec := "rasterPaints", unfollowed := true, recurses := true, apart := false, narrowed := true }
def RasterPaintsUptoSaid : Prop := rasterPaintsUptoRow.holds Try.pinned (OpenSpec.upto rasterPaintsSpec)

/-- 'casementlaw04.RasterClips', WHERE WHAT IT READS IS OF BULK AT MOST 1048576: true; the input reads as it did. -/
def rasterClipsUptoRow : OpenClaim := { program := "ytjgleibbhgfcpaa", sum := "2f93f3cb0bab6f70a2160b981a5f26bcfcda22c803bea179fc72380316b85b09", func := "casement/casementlaw04.RasterClips", spec := "rasterClips", unfollowed := true, recurses := true, apart := false, narrowed := true }
def RasterClipsUptoSaid : Prop := rasterClipsUptoRow.holds Try.pinned (OpenSpec.upto rasterClipsSpec)

/-- 'casementlaw04.RasterLaws', WHERE WHAT IT READS IS OF BULK AT MOST 1048576: true; the input reads as it did. -/
def rasterLawsUptoRow : OpenClaim := { program := "ytjgleibbhgfcpaa", sum := "2f93f3cb0bab6f70a2160b981a5f26bcfcda22c803bea179fc72380316b85b09", func := "casement/casementlaw04.RasterLaws", spec := "rasterLaws", unfollowed := true, recurses := true, apart := false, narrowed := true }
def RasterLawsUptoSaid : Prop := rasterLawsUptoRow.holds Try.pinned (OpenSpec.upto rasterLawsSpec)

/-- 'casementlaw04.RasterTwice', WHERE WHAT IT READS IS OF BULK AT MOST 1048576: true; the input reads as it did. -/
def rasterTwiceUptoRow : OpenClaim := { program := "ytjgleibbhgfcpaa", sum := "2f93f3cb0bab6f70a2160b981a5f26bcfcda22c803bea179fc72380316b85b09", func := "casement/casementlaw04.RasterTwice", spec := "rasterTwice", unfollowed := true, recurses := true, apart := false, narrowed := true }
def RasterTwiceUptoSaid : Prop := rasterTwiceUptoRow.holds Try.pinned (OpenSpec.upto rasterTwiceSpec)

/-- 'casementlaw04.RasterNobody', WHERE WHAT IT READS IS OF BULK AT MOST 1048576: true; the input reads as it did. -/
def rasterNobodyUptoRow : OpenClaim := { program := "ytjgleibbhgfcpaa", sum := "2f93f3cb0bab6f70a2160b981a5f26bcfcda22c803bea179fc72380316b85b09", func := "casement/casementlaw04.RasterNobody", spec := "rasterNobody", unfollowed := true, recurses := true, apart := false, narrowed := true }
def RasterNobodyUptoSaid : Prop := rasterNobodyUptoRow.holds Try.pinned (OpenSpec.upto rasterNobodySpec)

end Rows
end Go.Proofs.Ytjgleibbhgfcpaa
