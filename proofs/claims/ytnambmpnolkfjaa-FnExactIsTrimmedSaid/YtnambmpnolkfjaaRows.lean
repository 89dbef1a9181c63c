/-
  No cell of these rows narrows 'for every input' (looked for: loops, veiled, ifaces, maps, wideKeys, modest, calm, conditions, laid).
  DERIVED. THE GIVEN ROWS OF THIS SEAT. 12 by the template 'for every input the law returns true; each argument reads behind the call as it read before'; 0 by the template 'total and deterministic' (their statements: YtnambmpnolkfjaaTotals.lean).
  GIVEN WITH THE SEED: the statements are not yours to turn. If you find one false, say at which input.
  Laid BY PROGRAM, IN A SANDBOX (cutbox-rows.mjs): the forced cells as the released guide's own fill.sh prints them over the translation 314b5bec697e1a2f… (all of the seat's roots in one cut). By AI agents, Wed Nov 11 2026. No macro, syntax, notation, axiom, sorry.
-/
import Derived.Test.YtnambmpnolkfjaaChecked
import GoSem.Claim
import GoSem.ClaimJoined
import GoSem.ClaimMapViews
import Derived.JoinedTies
import Derived.KernelRfl
namespace Go.Proofs.Ytnambmpnolkfjaa
/- THE CELL 'sum', in the pinned program and in every row, IS THE sha256 OF THE DUMP (.gsa) THAT YtnambmpnolkfjaaProg.lean LOADS. Nothing in Lean hashes anything: it is a label: what it is worth is what the hold of that sum in a sandbox is worth. -/
noncomputable def Try.pinned : Pinned := { name := "ytnambmpnolkfjaa", sum := "314b5bec697e1a2fde457fe91994d3e6fc8e68d21047f3e4abdcd8c4a82952b1", checked := Try.checked }
namespace Rows
def none {H : Type} : Left H := { results := [], args := [] }

/-- 'laws.FnExactAreMarksOf': WHATEVER THE INPUT: true; the input reads as it did. -/
def fnExactAreMarksOfSpec : ChangeSpec := { name := "fnExactAreMarksOf", fn := fun _ => fun
  | [d] => { results := [.lit (.bool true)], args := [d] }
  | _ => none }
def fnExactAreMarksOfRow : OpenClaim := { program := "ytnambmpnolkfjaa", sum := "314b5bec697e1a2fde457fe91994d3e6fc8e68d21047f3e4abdcd8c4a82952b1", func := "loop.example/g00912/laws.FnExactAreMarksOf", spec := "fnExactAreMarksOf", unfollowed := true, recurses := true, apart := false }
def FnExactAreMarksOfSaid : Prop := fnExactAreMarksOfRow.holds Try.pinned (OpenSpec.ofChange fnExactAreMarksOfSpec)

/-- ITS FALSE NEIGHBOUR: 'it returns false'. Refute it at one input. -/
def fnExactAreMarksOfWrong : ChangeSpec := { name := "fnExactAreMarksOf", fn := fun _ => fun
  | [d] => { results := [.lit (.bool false)], args := [d] }
  | _ => none }
def FnExactAreMarksOfWrongFalsely : Prop := fnExactAreMarksOfRow.holds Try.pinned (OpenSpec.ofChange fnExactAreMarksOfWrong)

/-- 'laws.FnExactTrimmedSum': WHATEVER THE INPUT: true; the input reads as it did. -/
def fnExactTrimmedSumSpec : ChangeSpec := { name := "fnExactTrimmedSum", fn := fun _ => fun
  | [d] => { results := [.lit (.bool true)], args := [d] }
  | _ => none }
def fnExactTrimmedSumRow : OpenClaim := { program := "ytnambmpnolkfjaa", sum := "314b5bec697e1a2fde457fe91994d3e6fc8e68d21047f3e4abdcd8c4a82952b1", func := "loop.example/g00912/laws.FnExactTrimmedSum", spec := "fnExactTrimmedSum", unfollowed := true, recurses := true, apart := false }
def FnExactTrimmedSumSaid : Prop := fnExactTrimmedSumRow.holds Try.pinned (OpenSpec.ofChange fnExactTrimmedSumSpec)

/-- ITS FALSE NEIGHBOUR: 'it returns false'. Refute it at one input. -/
def fnExactTrimmedSumWrong : ChangeSpec := { name := "fnExactTrimmedSum", fn := fun _ => fun
  | [d] => { results := [.lit (.bool false)], args := [d] }
  | _ => none }
def FnExactTrimmedSumWrongFalsely : Prop := fnExactTrimmedSumRow.holds Try.pinned (OpenSpec.ofChange fnExactTrimmedSumWrong)

/-- 'laws.FnExactTrimmedMean': WHATEVER THE INPUT: true; the input reads as it did. -/
def fnExactTrimmedMeanSpec : ChangeSpec := { name := "fnExactTrimmedMean", fn := fun _ => fun
  | [d] => { results := [.lit (.bool true)], args := [d] }
  | _ => none }
def fnExactTrimmedMeanRow : OpenClaim := { program := "ytnambmpnolkfjaa", sum := "314b5bec697e1a2fde457fe91994d3e6fc8e68d21047f3e4abdcd8c4a82952b1", func := "loop.example/g00912/laws.FnExactTrimmedMean", spec := "fnExactTrimmedMean", unfollowed := true, recurses := true, apart := false }
def FnExactTrimmedMeanSaid : Prop := fnExactTrimmedMeanRow.holds Try.pinned (OpenSpec.ofChange fnExactTrimmedMeanSpec)

/-- ITS FALSE NEIGHBOUR: 'it returns false'. Refute it at one input. -/
def fnExactTrimmedMeanWrong : ChangeSpec := { name := "fnExactTrimmedMean", fn := fun _ => fun
  | [d] => { results := [.lit (.bool false)], args := [d] }
  | _ => none }
def FnExactTrimmedMeanWrongFalsely : Prop := fnExactTrimmedMeanRow.holds Try.pinned (OpenSpec.ofChange fnExactTrimmedMeanWrong)

/-- 'laws.FnExactTrimmedPoints': WHATEVER THE INPUT: true; the input reads as it did. -/
def fnExactTrimmedPointsSpec : ChangeSpec := { name := "fnExactTrimmedPoints", fn := fun _ => fun
  | [d1, d2, d3, d4] => { results := [.lit (.bool true)], args := [d1, d2, d3, d4] }
  | _ => none }
def fnExactTrimmedPointsRow : OpenClaim := { program := "ytnambmpnolkfjaa", sum := "314b5bec697e1a2fde457fe91994d3e6fc8e68d21047f3e4abdcd8c4a82952b1", func := "loop.example/g00912/laws.FnExactTrimmedPoints", spec := "fnExactTrimmedPoints", unfollowed := true, recurses := true, apart := false }
def FnExactTrimmedPointsSaid : Prop := fnExactTrimmedPointsRow.holds Try.pinned (OpenSpec.ofChange fnExactTrimmedPointsSpec)

/-- ITS FALSE NEIGHBOUR: 'it returns false'. Refute it at one input. -/
def fnExactTrimmedPointsWrong : ChangeSpec := { name := "fnExactTrimmedPoints", fn := fun _ => fun
  | [d1, d2, d3, d4] => { results := [.lit (.bool false)], args := [d1, d2, d3, d4] }
  | _ => none }
def FnExactTrimmedPointsWrongFalsely : Prop := fnExactTrimmedPointsRow.holds Try.pinned (OpenSpec.ofChange fnExactTrimmedPointsWrong)

/-- 'laws.FnExactOrderOf': WHATEVER THE INPUT: true; the input reads as it did. -/
def fnExactOrderOfSpec : ChangeSpec := { name := "fnExactOrderOf", fn := fun _ => fun
  | [d1, d2] => { results := [.lit (.bool true)], args := [d1, d2] }
  | _ => none }
def fnExactOrderOfRow : OpenClaim := { program := "ytnambmpnolkfjaa", sum := "314b5bec697e1a2fde457fe91994d3e6fc8e68d21047f3e4abdcd8c4a82952b1", func := "loop.example/g00912/laws.FnExactOrderOf", spec := "fnExactOrderOf", unfollowed := true, recurses := true, apart := false }
def FnExactOrderOfSaid : Prop := fnExactOrderOfRow.holds Try.pinned (OpenSpec.ofChange fnExactOrderOfSpec)

/-- ITS FALSE NEIGHBOUR: 'it returns false'. Refute it at one input. -/
def fnExactOrderOfWrong : ChangeSpec := { name := "fnExactOrderOf", fn := fun _ => fun
  | [d1, d2] => { results := [.lit (.bool false)], args := [d1, d2] }
  | _ => none }
def FnExactOrderOfWrongFalsely : Prop := fnExactOrderOfRow.holds Try.pinned (OpenSpec.ofChange fnExactOrderOfWrong)

/-- 'laws.FnExactMiddleOf': WHATEVER THE INPUT: true; the input reads as it did. -/
def fnExactMiddleOfSpec : ChangeSpec := { name := "fnExactMiddleOf", fn := fun _ => fun
  | [d] => { results := [.lit (.bool true)], args := [d] }
  | _ => none }
def fnExactMiddleOfRow : OpenClaim := { program := "ytnambmpnolkfjaa", sum := "314b5bec697e1a2fde457fe91994d3e6fc8e68d21047f3e4abdcd8c4a82952b1", func := "loop.example/g00912/laws.FnExactMiddleOf", spec := "fnExactMiddleOf", unfollowed := true, recurses := true, apart := false }
def FnExactMiddleOfSaid : Prop := fnExactMiddleOfRow.holds Try.pinned (OpenSpec.ofChange fnExactMiddleOfSpec)

/-- ITS FALSE NEIGHBOUR: 'it returns false'. Refute it at one input. -/
def fnExactMiddleOfWrong : ChangeSpec := { name := "fnExactMiddleOf", fn := fun _ => fun
  | [d] => { results := [.lit (.bool false)], args := [d] }
  | _ => none }
def FnExactMiddleOfWrongFalsely : Prop := fnExactMiddleOfRow.holds Try.pinned (OpenSpec.ofChange fnExactMiddleOfWrong)

/-- 'laws.FnExactWithoutMark': WHATEVER THE INPUT: true; the input reads as it did. -/
def fnExactWithoutMarkSpec : ChangeSpec := { name := "fnExactWithoutMark", fn := fun _ => fun
  | [d1, d2] => { results := [.lit (.bool true)], args := [d1, d2] }
  | _ => none }
def fnExactWithoutMarkRow : OpenClaim := { program := "ytnambmpnolkfjaa", sum := "314b5bec697e1a2fde457fe91994d3e6fc8e68d21047f3e4abdcd8c4a82952b1", func := "loop.example/g00912/laws.FnExactWithoutMark", spec := "fnExactWithoutMark", unfollowed := true, recurses := true, apart := false }
def FnExactWithoutMarkSaid : Prop := fnExactWithoutMarkRow.holds Try.pinned (OpenSpec.ofChange fnExactWithoutMarkSpec)

/-- ITS FALSE NEIGHBOUR: 'it returns false'. Refute it at one input. -/
def fnExactWithoutMarkWrong : ChangeSpec := { name := "fnExactWithoutMark", fn := fun _ => fun
  | [d1, d2] => { results := [.lit (.bool false)], args := [d1, d2] }
  | _ => none }
def FnExactWithoutMarkWrongFalsely : Prop := fnExactWithoutMarkRow.holds Try.pinned (OpenSpec.ofChange fnExactWithoutMarkWrong)

/-- 'laws.FnExactWithMark': WHATEVER THE INPUT: true; the input reads as it did. -/
def fnExactWithMarkSpec : ChangeSpec := { name := "fnExactWithMark", fn := fun _ => fun
  | [d1, d2, d3] => { results := [.lit (.bool true)], args := [d1, d2, d3] }
  | _ => none }
def fnExactWithMarkRow : OpenClaim := { program := "ytnambmpnolkfjaa", sum := "314b5bec697e1a2fde457fe91994d3e6fc8e68d21047f3e4abdcd8c4a82952b1", func := "loop.example/g00912/laws.FnExactWithMark", spec := "fnExactWithMark", unfollowed := true, recurses := true, apart := false }
def FnExactWithMarkSaid : Prop := fnExactWithMarkRow.holds Try.pinned (OpenSpec.ofChange fnExactWithMarkSpec)

/-- ITS FALSE NEIGHBOUR: 'it returns false'. Refute it at one input. -/
def fnExactWithMarkWrong : ChangeSpec := { name := "fnExactWithMark", fn := fun _ => fun
  | [d1, d2, d3] => { results := [.lit (.bool false)], args := [d1, d2, d3] }
  | _ => none }
def FnExactWithMarkWrongFalsely : Prop := fnExactWithMarkRow.holds Try.pinned (OpenSpec.ofChange fnExactWithMarkWrong)

/-- 'laws.FnExactMeanRange': WHATEVER THE INPUT: true; the input reads as it did. -/
def fnExactMeanRangeSpec : ChangeSpec := { name := "fnExactMeanRange", fn := fun _ => fun
  | [d1, d2, d3, d4] => { results := [.lit (.bool true)], args := [d1, d2, d3, d4] }
  | _ => none }
def fnExactMeanRangeRow : OpenClaim := { program := "ytnambmpnolkfjaa", sum := "314b5bec697e1a2fde457fe91994d3e6fc8e68d21047f3e4abdcd8c4a82952b1", func := "loop.example/g00912/laws.FnExactMeanRange", spec := "fnExactMeanRange", unfollowed := true, recurses := true, apart := false }
def FnExactMeanRangeSaid : Prop := fnExactMeanRangeRow.holds Try.pinned (OpenSpec.ofChange fnExactMeanRangeSpec)

/-- ITS FALSE NEIGHBOUR: 'it returns false'. Refute it at one input. -/
def fnExactMeanRangeWrong : ChangeSpec := { name := "fnExactMeanRange", fn := fun _ => fun
  | [d1, d2, d3, d4] => { results := [.lit (.bool false)], args := [d1, d2, d3, d4] }
  | _ => none }
def FnExactMeanRangeWrongFalsely : Prop := fnExactMeanRangeRow.holds Try.pinned (OpenSpec.ofChange fnExactMeanRangeWrong)

/-- 'laws.FnExactMostMoved': WHATEVER THE INPUT: true; the input reads as it did. -/
def fnExactMostMovedSpec : ChangeSpec := { name := "fnExactMostMoved", fn := fun _ => fun
  | [d1, d2, d3, d4] => { results := [.lit (.bool true)], args := [d1, d2, d3, d4] }
  | _ => none }
def fnExactMostMovedRow : OpenClaim := { program := "ytnambmpnolkfjaa", sum := "314b5bec697e1a2fde457fe91994d3e6fc8e68d21047f3e4abdcd8c4a82952b1", func := "loop.example/g00912/laws.FnExactMostMoved", spec := "fnExactMostMoved", unfollowed := true, recurses := true, apart := false }
def FnExactMostMovedSaid : Prop := fnExactMostMovedRow.holds Try.pinned (OpenSpec.ofChange fnExactMostMovedSpec)

/-- ITS FALSE NEIGHBOUR: 'it returns false'. Refute it at one input. -/
def fnExactMostMovedWrong : ChangeSpec := { name := "fnExactMostMoved", fn := fun _ => fun
  | [d1, d2, d3, d4] => { results := [.lit (.bool false)], args := [d1, d2, d3, d4] }
  | _ => none }
def FnExactMostMovedWrongFalsely : Prop := fnExactMostMovedRow.holds Try.pinned (OpenSpec.ofChange fnExactMostMovedWrong)

/-- 'laws.FnExactIsTrimmed': WHATEVER THE INPUT: true; the input reads as it did. -/
def fnExactIsTrimmedSpec : ChangeSpec := { name := "fnExactIsTrimmed", fn := fun _ => fun
  | [d1, d2] => { results := [.lit (.bool true)], args := [d1, d2] }
  | _ => none }
def fnExactIsTrimmedRow : OpenClaim := { program := "ytnambmpnolkfjaa", sum := "314b5bec697e1a2fde457fe91994d3e6fc8e68d21047f3e4abdcd8c4a82952b1", func := "loop.example/g00912/laws.FnExactIsTrimmed", spec := "fnExactIsTrimmed", unfollowed := true, recurses := true, apart := false }
def FnExactIsTrimmedSaid : Prop := fnExactIsTrimmedRow.holds Try.pinned (OpenSpec.ofChange fnExactIsTrimmedSpec)

/-- ITS FALSE NEIGHBOUR: 'it returns false'. Refute it at one input. -/
def fnExactIsTrimmedWrong : ChangeSpec := { name := "fnExactIsTrimmed", fn := fun _ => fun
  | [d1, d2] => { results := [.lit (.bool false)], args := [d1, d2] }
  | _ => none }
def FnExactIsTrimmedWrongFalsely : Prop := fnExactIsTrimmedRow.holds Try.pinned (OpenSpec.ofChange fnExactIsTrimmedWrong)

/-- 'laws.FnExactAddJudge': WHATEVER THE INPUT: true; the input reads as it did. -/
def fnExactAddJudgeSpec : ChangeSpec := { name := "fnExactAddJudge", fn := fun _ => fun
  | [d1, d2, d3] => { results := [.lit (.bool true)], args := [d1, d2, d3] }
  | _ => none }
def fnExactAddJudgeRow : OpenClaim := { program := "ytnambmpnolkfjaa", sum := "314b5bec697e1a2fde457fe91994d3e6fc8e68d21047f3e4abdcd8c4a82952b1", func := "loop.example/g00912/laws.FnExactAddJudge", spec := "fnExactAddJudge", unfollowed := true, recurses := true, apart := false }
def FnExactAddJudgeSaid : Prop := fnExactAddJudgeRow.holds Try.pinned (OpenSpec.ofChange fnExactAddJudgeSpec)

/-- ITS FALSE NEIGHBOUR: 'it returns false'. Refute it at one input. -/
def fnExactAddJudgeWrong : ChangeSpec := { name := "fnExactAddJudge", fn := fun _ => fun
  | [d1, d2, d3] => { results := [.lit (.bool false)], args := [d1, d2, d3] }
  | _ => none }
def FnExactAddJudgeWrongFalsely : Prop := fnExactAddJudgeRow.holds Try.pinned (OpenSpec.ofChange fnExactAddJudgeWrong)

/- THE SECOND FORM. 'bulk': how many values and letters a reading holds, each counted each time it is reached (what is shared counts as often as it is met; a slice's spare places count too). A statement '..UptoSaid' is the law's where the arguments, and the package variables that the reading takes, are together of bulk at most 1048576: NARROWER than '..Said'. Prove '..Said' where nothing that the law and all that it calls make is longer than what came in: it says more and counts as full. Else prove '..UptoSaid'. A law counts once. -/
mutual
def uptoBulk {H : Type} : DataW H → Nat
  | .lit (.string bytes) => bytes.length + 1
  | .lit _ => 1
  | .nil => 1
  | .ptr d => uptoBulk d + 1
  | .slice elems spare => uptoBulkAll elems + uptoBulkAll spare + 1
  | .agg parts => uptoBulkAll parts + 1
  | .iface _ d => uptoBulk d + 1
  | .map entries => uptoBulkEntries entries + 1
  | .held _ => 1
def uptoBulkAll {H : Type} : List (DataW H) → Nat
  | [] => 0
  | d :: r => uptoBulk d + uptoBulkAll r
def uptoBulkEntries {H : Type} : List (Lit × DataW H) → Nat
  | [] => 0
  | x :: r => uptoBulkEntry x + uptoBulkEntries r
def uptoBulkEntry {H : Type} : Lit × DataW H → Nat
  | (.string bytes, d) => bytes.length + uptoBulk d + 1
  | (_, d) => uptoBulk d + 1
 end
def uptoSmall : (H : Type) → List (DataW H) → Bool := fun _ ds => decide (uptoBulkAll ds ≤ 1048576)
def OpenSpec.upto (s : _root_.Go.ChangeSpec) : _root_.Go.OpenSpec := { _root_.Go.OpenSpec.ofChange s with cond := some uptoSmall }

/-- 'laws.FnExactAreMarksOf', WHERE WHAT IT READS IS OF BULK AT MOST 1048576: true; the input reads as it did. -/
def fnExactAreMarksOfUptoRow : OpenClaim := { program := "ytnambmpnolkfjaa", sum := "314b5bec697e1a2fde457fe91994d3e6fc8e68d21047f3e4abdcd8c4a82952b1", func := "loop.example/g00912/laws.FnExactAreMarksOf", spec := "fnExactAreMarksOf", unfollowed := true, recurses := true, apart := false, narrowed := true }
def FnExactAreMarksOfUptoSaid : Prop := fnExactAreMarksOfUptoRow.holds Try.pinned (OpenSpec.upto fnExactAreMarksOfSpec)

/-- 'laws.FnExactTrimmedSum', WHERE WHAT IT READS IS OF BULK AT MOST 1048576: true; the input reads as it did. -/
def fnExactTrimmedSumUptoRow : OpenClaim := { program := "ytnambmpnolkfjaa", sum := "314b5bec697e1a2fde457fe91994d3e6fc8e68d21047f3e4abdcd8c4a82952b1", func := "loop.example/g00912/laws.FnExactTrimmedSum", spec := "fnExactTrimmedSum", unfollowed := true, recurses := true, apart := false, narrowed := true }
def FnExactTrimmedSumUptoSaid : Prop := fnExactTrimmedSumUptoRow.holds Try.pinned (OpenSpec.upto fnExactTrimmedSumSpec)

/-- 'laws.FnExactTrimmedMean', WHERE WHAT IT READS IS OF BULK AT MOST 1048576: true; the input reads as it did. -/
def fnExactTrimmedMeanUptoRow : OpenClaim := { program := "ytnambmpnolkfjaa", sum := "314b5bec697e1a2fde457fe91994d3e6fc8e68d21047f3e4abdcd8c4a82952b1", func := "loop.example/g00912/laws.FnExactTrimmedMean", spec := "fnExactTrimmedMean", unfollowed := true, recurses := true, apart := false, narrowed := true }
def FnExactTrimmedMeanUptoSaid : Prop := fnExactTrimmedMeanUptoRow.holds Try.pinned (OpenSpec.upto fnExactTrimmedMeanSpec)

/-- 'laws.FnExactTrimmedPoints', WHERE WHAT IT READS IS OF BULK AT MOST 1048576: true; the input reads as it did. -/
def fnExactTrimmedPointsUptoRow : OpenClaim := { program := "ytnambmpnolkfjaa", sum := "314b5bec697e1a2fde457fe91994d3e6fc8e68d21047f3e4abdcd8c4a82952b1", func := "loop.example/g00912/laws.FnExactTrimmedPoints", spec := "fnExactTrimmedPoints", unfollowed := true, recurses := true, apart := false, narrowed := true }
def FnExactTrimmedPointsUptoSaid : Prop := fnExactTrimmedPointsUptoRow.holds Try.pinned (OpenSpec.upto fnExactTrimmedPointsSpec)

/-- 'laws.FnExactOrderOf', WHERE WHAT IT READS IS OF BULK AT MOST 1048576: true; the input reads as it did. -/
def fnExactOrderOfUptoRow : OpenClaim := { program := "ytnambmpnolkfjaa", sum := "314b5bec697e1a2fde457fe91994d3e6fc8e68d21047f3e4abdcd8c4a82952b1", func := "loop.example/g00912/laws.FnExactOrderOf", spec := "fnExactOrderOf", unfollowed := true, recurses := true, apart := false, narrowed := true }
def FnExactOrderOfUptoSaid : Prop := fnExactOrderOfUptoRow.holds Try.pinned (OpenSpec.upto fnExactOrderOfSpec)

/-- 'laws.FnExactMiddleOf', WHERE WHAT IT READS IS OF BULK AT MOST 1048576: true; the input reads as it did. -/
def fnExactMiddleOfUptoRow : OpenClaim := { program := "ytnambmpnolkfjaa", sum := "314b5bec697e1a2fde457fe91994d3e6fc8e68d21047f3e4abdcd8c4a82952b1", func := "loop.example/g00912/laws.FnExactMiddleOf", spec := "fnExactMiddleOf", unfollowed := true, recurses := true, apart := false, narrowed := true }
def FnExactMiddleOfUptoSaid : Prop := fnExactMiddleOfUptoRow.holds Try.pinned (OpenSpec.upto fnExactMiddleOfSpec)

/-- 'laws.FnExactWithoutMark', WHERE WHAT IT READS IS OF BULK AT MOST 1048576: true; the input reads as it did. -/
def fnExactWithoutMarkUptoRow : OpenClaim := { program := "ytnambmpnolkfjaa", sum := "314b5bec697e1a2fde457fe91994d3e6fc8e68d21047f3e4abdcd8c4a82952b1", func := "loop.example/g00912/laws.FnExactWithoutMark", spec := "fnExactWithoutMark", unfollowed := true, recurses := true, apart := false, narrowed := true }
def FnExactWithoutMarkUptoSaid : Prop := fnExactWithoutMarkUptoRow.holds Try.pinned (OpenSpec.upto fnExactWithoutMarkSpec)

/-- 'laws.FnExactWithMark', WHERE WHAT IT READS IS OF BULK AT MOST 1048576: true; the input reads as it did. -/
def fnExactWithMarkUptoRow : OpenClaim := { program := "ytnambmpnolkfjaa", sum := "314b5bec697e1a2fde457fe91994d3e6fc8e68d21047f3e4abdcd8c4a82952b1", func := "loop.example/g00912/laws.FnExactWithMark", spec := "fnExactWithMark", unfollowed := true, recurses := true, apart := false, narrowed := true }
def FnExactWithMarkUptoSaid : Prop := fnExactWithMarkUptoRow.holds Try.pinned (OpenSpec.upto fnExactWithMarkSpec)

/-- 'laws.FnExactMeanRange', WHERE WHAT IT READS IS OF BULK AT MOST 1048576: true; the input reads as it did. -/
def fnExactMeanRangeUptoRow : OpenClaim := { program := "ytnambmpnolkfjaa", sum := "314b5bec697e1a2fde457fe91994d3e6fc8e68d21047f3e4abdcd8c4a82952b1", func := "loop.example/g00912/laws.FnExactMeanRange", spec := "fnExactMeanRange", unfollowed := true, recurses := true, apart := false, narrowed := true }
def FnExactMeanRangeUptoSaid : Prop := fnExactMeanRangeUptoRow.holds Try.pinned (OpenSpec.upto fnExactMeanRangeSpec)

/-- 'laws.FnExactMostMoved', WHERE WHAT IT READS IS OF BULK AT MOST 1048576: true; the input reads as it did. -/
def fnExactMostMovedUptoRow : OpenClaim := { program := "ytnambmpnolkfjaa", sum := "314b5bec697e1a2fde457fe91994d3e6fc8e68d21047f3e4abdcd8c4a82952b1", func := "loop.example/g00912/laws.FnExactMostMoved", spec := "fnExactMostMoved", unfollowed := true, recurses := true, apart := false, narrowed := true }
def FnExactMostMovedUptoSaid : Prop := fnExactMostMovedUptoRow.holds Try.pinned (OpenSpec.upto fnExactMostMovedSpec)

/-- 'laws.FnExactIsTrimmed', WHERE WHAT IT READS IS OF BULK AT MOST 1048576: true; the input reads as it did. -/
def fnExactIsTrimmedUptoRow : OpenClaim := { program := "ytnambmpnolkfjaa", sum := "314b5bec697e1a2fde457fe91994d3e6fc8e68d21047f3e4abdcd8c4a82952b1", func := "loop.example/g00912/laws.FnExactIsTrimmed", spec := "fnExactIsTrimmed", unfollowed := true, recurses := true, apart := false, narrowed := true }
def FnExactIsTrimmedUptoSaid : Prop := fnExactIsTrimmedUptoRow.holds Try.pinned (OpenSpec.upto fnExactIsTrimmedSpec)

/-- 'laws.FnExactAddJudge', WHERE WHAT IT READS IS OF BULK AT MOST 1048576: true; the input reads as it did. -/
def fnExactAddJudgeUptoRow : OpenClaim := { program := "ytnambmpnolkfjaa", sum := "314b5bec697e1a2fde457fe91994d3e6fc8e68d21047f3e4abdcd8c4a82952b1", func := "loop.example/g00912/laws.FnExactAddJudge", spec := "fnExactAddJudge", unfollowed := true, recurses := true, apart := false, narrowed := true }
def FnExactAddJudgeUptoSaid : Prop := fnExactAddJudgeUptoRow.holds Try.pinned (OpenSpec.upto fnExactAddJudgeSpec)

end Rows
end Go.Proofs.Ytnambmpnolkfjaa
