/-
  No cell of these rows narrows 'for every input' (looked for: loops, veiled, ifaces, maps, wideKeys, modest, calm, conditions, laid).
  DERIVED. THE GIVEN ROWS OF THIS SEAT. 8 by the template 'for every input the law returns true; each argument reads behind the call as it read before'; 0 by the template 'total and deterministic' (their statements: YthbkfekbpjkhnaaTotals.lean).
  GIVEN WITH THE SEED: the statements are not yours to turn. If you find one false, say at which input.
  Laid BY PROGRAM, IN A SANDBOX (cutbox-rows.mjs): the forced cells as the released guide's own fill.sh prints them over the translation abf9c310f6d45ef6… (all of the seat's roots in one cut). By AI agents, Wed Nov 11 2026. No macro, syntax, notation, axiom, sorry.
-/
import Derived.Test.YthbkfekbpjkhnaaChecked
import GoSem.Claim
import GoSem.ClaimJoined
import GoSem.ClaimMapViews
import Derived.JoinedTies
import Derived.KernelRfl
namespace Go.Proofs.Ythbkfekbpjkhnaa
/- THE CELL 'sum', in the pinned program and in every row, IS THE sha256 OF THE DUMP (.gsa) THAT YthbkfekbpjkhnaaProg.lean LOADS. Nothing in Lean hashes anything: it is a label: what it is worth is what the hold of that sum in a sandbox is worth. -/
noncomputable def Try.pinned : Pinned := { name := "ythbkfekbpjkhnaa", sum := "abf9c310f6d45ef684ce45793ca7c61050b8f5037cc1132b3f631cab55cdf65b", checked := Try.checked }
namespace Rows
def none {H : Type} : Left H := { results := [], args := [] }

/-- 'laws.FnExactIsHistory': WHATEVER THE INPUT: true; the input reads as it did. -/
def fnExactIsHistorySpec : ChangeSpec := { name := "fnExactIsHistory", fn := fun _ => fun
  | [d1, d2] => { results := [.lit (.bool true)], args := [d1, d2] }
  | _ => none }
def fnExactIsHistoryRow : OpenClaim := { program := "ythbkfekbpjkhnaa", sum := "abf9c310f6d45ef684ce45793ca7c61050b8f5037cc1132b3f631cab55cdf65b", func := "loop.example/g00912/laws.FnExactIsHistory", spec := "fnExactIsHistory", unfollowed := true, recurses := true, apart := false }
def FnExactIsHistorySaid : Prop := fnExactIsHistoryRow.holds Try.pinned (OpenSpec.ofChange fnExactIsHistorySpec)

/-- ITS FALSE NEIGHBOUR: 'it returns false'. Refute it at one input. -/
def fnExactIsHistoryWrong : ChangeSpec := { name := "fnExactIsHistory", fn := fun _ => fun
  | [d1, d2] => { results := [.lit (.bool false)], args := [d1, d2] }
  | _ => none }
def FnExactIsHistoryWrongFalsely : Prop := fnExactIsHistoryRow.holds Try.pinned (OpenSpec.ofChange fnExactIsHistoryWrong)

/-- 'laws.FnExactStateAt': WHATEVER THE INPUT: true; the input reads as it did. -/
def fnExactStateAtSpec : ChangeSpec := { name := "fnExactStateAt", fn := fun _ => fun
  | [d1, d2, d3] => { results := [.lit (.bool true)], args := [d1, d2, d3] }
  | _ => none }
def fnExactStateAtRow : OpenClaim := { program := "ythbkfekbpjkhnaa", sum := "abf9c310f6d45ef684ce45793ca7c61050b8f5037cc1132b3f631cab55cdf65b", func := "loop.example/g00912/laws.FnExactStateAt", spec := "fnExactStateAt", unfollowed := true, recurses := true, apart := false }
def FnExactStateAtSaid : Prop := fnExactStateAtRow.holds Try.pinned (OpenSpec.ofChange fnExactStateAtSpec)

/-- ITS FALSE NEIGHBOUR: 'it returns false'. Refute it at one input. -/
def fnExactStateAtWrong : ChangeSpec := { name := "fnExactStateAt", fn := fun _ => fun
  | [d1, d2, d3] => { results := [.lit (.bool false)], args := [d1, d2, d3] }
  | _ => none }
def FnExactStateAtWrongFalsely : Prop := fnExactStateAtRow.holds Try.pinned (OpenSpec.ofChange fnExactStateAtWrong)

/-- 'laws.FnExactFinalState': WHATEVER THE INPUT: true; the input reads as it did. -/
def fnExactFinalStateSpec : ChangeSpec := { name := "fnExactFinalState", fn := fun _ => fun
  | [d1, d2] => { results := [.lit (.bool true)], args := [d1, d2] }
  | _ => none }
def fnExactFinalStateRow : OpenClaim := { program := "ythbkfekbpjkhnaa", sum := "abf9c310f6d45ef684ce45793ca7c61050b8f5037cc1132b3f631cab55cdf65b", func := "loop.example/g00912/laws.FnExactFinalState", spec := "fnExactFinalState", unfollowed := true, recurses := true, apart := false }
def FnExactFinalStateSaid : Prop := fnExactFinalStateRow.holds Try.pinned (OpenSpec.ofChange fnExactFinalStateSpec)

/-- ITS FALSE NEIGHBOUR: 'it returns false'. Refute it at one input. -/
def fnExactFinalStateWrong : ChangeSpec := { name := "fnExactFinalState", fn := fun _ => fun
  | [d1, d2] => { results := [.lit (.bool false)], args := [d1, d2] }
  | _ => none }
def FnExactFinalStateWrongFalsely : Prop := fnExactFinalStateRow.holds Try.pinned (OpenSpec.ofChange fnExactFinalStateWrong)

/-- 'laws.FnExactOpenReviews': WHATEVER THE INPUT: true; the input reads as it did. -/
def fnExactOpenReviewsSpec : ChangeSpec := { name := "fnExactOpenReviews", fn := fun _ => fun
  | [d1, d2] => { results := [.lit (.bool true)], args := [d1, d2] }
  | _ => none }
def fnExactOpenReviewsRow : OpenClaim := { program := "ythbkfekbpjkhnaa", sum := "abf9c310f6d45ef684ce45793ca7c61050b8f5037cc1132b3f631cab55cdf65b", func := "loop.example/g00912/laws.FnExactOpenReviews", spec := "fnExactOpenReviews", unfollowed := true, recurses := true, apart := false }
def FnExactOpenReviewsSaid : Prop := fnExactOpenReviewsRow.holds Try.pinned (OpenSpec.ofChange fnExactOpenReviewsSpec)

/-- ITS FALSE NEIGHBOUR: 'it returns false'. Refute it at one input. -/
def fnExactOpenReviewsWrong : ChangeSpec := { name := "fnExactOpenReviews", fn := fun _ => fun
  | [d1, d2] => { results := [.lit (.bool false)], args := [d1, d2] }
  | _ => none }
def FnExactOpenReviewsWrongFalsely : Prop := fnExactOpenReviewsRow.holds Try.pinned (OpenSpec.ofChange fnExactOpenReviewsWrong)

/-- 'laws.FnExactAddChange': WHATEVER THE INPUT: true; the input reads as it did. -/
def fnExactAddChangeSpec : ChangeSpec := { name := "fnExactAddChange", fn := fun _ => fun
  | [d1, d2, d3] => { results := [.lit (.bool true)], args := [d1, d2, d3] }
  | _ => none }
def fnExactAddChangeRow : OpenClaim := { program := "ythbkfekbpjkhnaa", sum := "abf9c310f6d45ef684ce45793ca7c61050b8f5037cc1132b3f631cab55cdf65b", func := "loop.example/g00912/laws.FnExactAddChange", spec := "fnExactAddChange", unfollowed := true, recurses := true, apart := false }
def FnExactAddChangeSaid : Prop := fnExactAddChangeRow.holds Try.pinned (OpenSpec.ofChange fnExactAddChangeSpec)

/-- ITS FALSE NEIGHBOUR: 'it returns false'. Refute it at one input. -/
def fnExactAddChangeWrong : ChangeSpec := { name := "fnExactAddChange", fn := fun _ => fun
  | [d1, d2, d3] => { results := [.lit (.bool false)], args := [d1, d2, d3] }
  | _ => none }
def FnExactAddChangeWrongFalsely : Prop := fnExactAddChangeRow.holds Try.pinned (OpenSpec.ofChange fnExactAddChangeWrong)

/-- 'laws.FnExactCallersOf': WHATEVER THE INPUT: true; the input reads as it did. -/
def fnExactCallersOfSpec : ChangeSpec := { name := "fnExactCallersOf", fn := fun _ => fun
  | [d1, d2, d3, d4] => { results := [.lit (.bool true)], args := [d1, d2, d3, d4] }
  | _ => none }
def fnExactCallersOfRow : OpenClaim := { program := "ythbkfekbpjkhnaa", sum := "abf9c310f6d45ef684ce45793ca7c61050b8f5037cc1132b3f631cab55cdf65b", func := "loop.example/g00912/laws.FnExactCallersOf", spec := "fnExactCallersOf", unfollowed := true, recurses := true, apart := false }
def FnExactCallersOfSaid : Prop := fnExactCallersOfRow.holds Try.pinned (OpenSpec.ofChange fnExactCallersOfSpec)

/-- ITS FALSE NEIGHBOUR: 'it returns false'. Refute it at one input. -/
def fnExactCallersOfWrong : ChangeSpec := { name := "fnExactCallersOf", fn := fun _ => fun
  | [d1, d2, d3, d4] => { results := [.lit (.bool false)], args := [d1, d2, d3, d4] }
  | _ => none }
def FnExactCallersOfWrongFalsely : Prop := fnExactCallersOfRow.holds Try.pinned (OpenSpec.ofChange fnExactCallersOfWrong)

/-- 'laws.FnExactLastChange': WHATEVER THE INPUT: true; the input reads as it did. -/
def fnExactLastChangeSpec : ChangeSpec := { name := "fnExactLastChange", fn := fun _ => fun
  | [d1, d2, d3, d4] => { results := [.lit (.bool true)], args := [d1, d2, d3, d4] }
  | _ => none }
def fnExactLastChangeRow : OpenClaim := { program := "ythbkfekbpjkhnaa", sum := "abf9c310f6d45ef684ce45793ca7c61050b8f5037cc1132b3f631cab55cdf65b", func := "loop.example/g00912/laws.FnExactLastChange", spec := "fnExactLastChange", unfollowed := true, recurses := true, apart := false }
def FnExactLastChangeSaid : Prop := fnExactLastChangeRow.holds Try.pinned (OpenSpec.ofChange fnExactLastChangeSpec)

/-- ITS FALSE NEIGHBOUR: 'it returns false'. Refute it at one input. -/
def fnExactLastChangeWrong : ChangeSpec := { name := "fnExactLastChange", fn := fun _ => fun
  | [d1, d2, d3, d4] => { results := [.lit (.bool false)], args := [d1, d2, d3, d4] }
  | _ => none }
def FnExactLastChangeWrongFalsely : Prop := fnExactLastChangeRow.holds Try.pinned (OpenSpec.ofChange fnExactLastChangeWrong)

/-- 'laws.FnExactTakeBack': WHATEVER THE INPUT: true; the input reads as it did. -/
def fnExactTakeBackSpec : ChangeSpec := { name := "fnExactTakeBack", fn := fun _ => fun
  | [d1, d2, d3, d4] => { results := [.lit (.bool true)], args := [d1, d2, d3, d4] }
  | _ => none }
def fnExactTakeBackRow : OpenClaim := { program := "ythbkfekbpjkhnaa", sum := "abf9c310f6d45ef684ce45793ca7c61050b8f5037cc1132b3f631cab55cdf65b", func := "loop.example/g00912/laws.FnExactTakeBack", spec := "fnExactTakeBack", unfollowed := true, recurses := true, apart := false }
def FnExactTakeBackSaid : Prop := fnExactTakeBackRow.holds Try.pinned (OpenSpec.ofChange fnExactTakeBackSpec)

/-- ITS FALSE NEIGHBOUR: 'it returns false'. Refute it at one input. -/
def fnExactTakeBackWrong : ChangeSpec := { name := "fnExactTakeBack", fn := fun _ => fun
  | [d1, d2, d3, d4] => { results := [.lit (.bool false)], args := [d1, d2, d3, d4] }
  | _ => none }
def FnExactTakeBackWrongFalsely : Prop := fnExactTakeBackRow.holds Try.pinned (OpenSpec.ofChange fnExactTakeBackWrong)

/- THE SECOND FORM. 'bulk': how many values and letters a reading holds, each counted each time it is reached (what is shared counts as often as it is met; a slice's spare places count too). A statement '..UptoSaid' is the law's where the arguments, and the package variables that the reading takes, are together of bulk at most 1048576: NARROWER than '..Said'. Prove '..Said' where nothing that the law and all that it calls make is longer than what came in: it says more and counts as full. Else prove '..UptoSaid'. A law counts once. -/
mutual
def uptoBulk {H : Type} : DataW H → Nat
  | .lit (.string bytes) => bytes.length + 1
  | .lit _ => 1
  | .nil => 1
  | .ptr d => uptoBulk d + 1
  | .slice elems spare => uptoBulkAll elems + uptoBulkAll spare + 1
  | .agg parts => uptoBulkAll parts + 1
  | .iface _ d => uptoBulk d + 1
  | .map entries => uptoBulkEntries entries + 1
  | .held _ => 1
def uptoBulkAll {H : Type} : List (DataW H) → Nat
  | [] => 0
  | d :: r => uptoBulk d + uptoBulkAll r
def uptoBulkEntries {H : Type} : List (Lit × DataW H) → Nat
  | [] => 0
  | x :: r => uptoBulkEntry x + uptoBulkEntries r
def uptoBulkEntry {H : Type} : Lit × DataW H → Nat
  | (.string bytes, d) => bytes.length + uptoBulk d + 1
  | (_, d) => uptoBulk d + 1
 end
def uptoSmall : (H : Type) → List (DataW H) → Bool := fun _ ds => decide (uptoBulkAll ds ≤ 1048576)
def OpenSpec.upto (s : _root_.Go.ChangeSpec) : _root_.Go.OpenSpec := { _root_.Go.OpenSpec.ofChange s with cond := some uptoSmall }

/-- 'laws.FnExactIsHistory', WHERE WHAT IT READS IS OF BULK AT MOST 1048576: true; the input reads as it did. -/
def fnExactIsHistoryUptoRow : OpenClaim := { program := "ythbkfekbpjkhnaa", sum := "abf9c310f6d45ef684ce45793ca7c61050b8f5037cc1132b3f631cab55cdf65b", func := "loop.example/g00912/laws.FnExactIsHistory", spec := "fnExactIsHistory", unfollowed := true, recurses := true, apart := false, narrowed := true }
def FnExactIsHistoryUptoSaid : Prop := fnExactIsHistoryUptoRow.holds Try.pinned (OpenSpec.upto fnExactIsHistorySpec)

/-- 'laws.FnExactStateAt', WHERE WHAT IT READS IS OF BULK AT MOST 1048576: true; the input reads as it did. -/
def fnExactStateAtUptoRow : OpenClaim := { program := "ythbkfekbpjkhnaa", sum := "abf9c310f6d45ef684ce45793ca7c61050b8f5037cc1132b3f631cab55cdf65b", func := "loop.example/g00912/laws.FnExactStateAt", spec := "fnExactStateAt", unfollowed := true, recurses := true, apart := false, narrowed := true }
def FnExactStateAtUptoSaid : Prop := fnExactStateAtUptoRow.holds Try.pinned (OpenSpec.upto fnExactStateAtSpec)

/-- 'laws.FnExactFinalState', WHERE WHAT IT READS IS OF BULK AT MOST 1048576: true; the input reads as it did. -/
def fnExactFinalStateUptoRow : OpenClaim := { program := "ythbkfekbpjkhnaa", sum := "abf9c310f6d45ef684ce45793ca7c61050b8f5037cc1132b3f631cab55cdf65b", func := "loop.example/g00912/laws.FnExactFinalState", spec := "fnExactFinalState", unfollowed := true, recurses := true, apart := false, narrowed := true }
def FnExactFinalStateUptoSaid : Prop := fnExactFinalStateUptoRow.holds Try.pinned (OpenSpec.upto fnExactFinalStateSpec)

/-- 'laws.FnExactOpenReviews', WHERE WHAT IT READS IS OF BULK AT MOST 1048576: true; the input reads as it did. -/
def fnExactOpenReviewsUptoRow : OpenClaim := { program := "ythbkfekbpjkhnaa", sum := "abf9c310f6d45ef684ce45793ca7c61050b8f5037cc1132b3f631cab55cdf65b", func := "loop.example/g00912/laws.FnExactOpenReviews", spec := "fnExactOpenReviews", unfollowed := true, recurses := true, apart := false, narrowed := true }
def FnExactOpenReviewsUptoSaid : Prop := fnExactOpenReviewsUptoRow.holds Try.pinned (OpenSpec.upto fnExactOpenReviewsSpec)

/-- 'laws.FnExactAddChange', WHERE WHAT IT READS IS OF BULK AT MOST 1048576: true; the input reads as it did. -/
def fnExactAddChangeUptoRow : OpenClaim := { program := "ythbkfekbpjkhnaa", sum := "abf9c310f6d45ef684ce45793ca7c61050b8f5037cc1132b3f631cab55cdf65b", func := "loop.example/g00912/laws.FnExactAddChange", spec := "fnExactAddChange", unfollowed := true, recurses := true, apart := false, narrowed := true }
def FnExactAddChangeUptoSaid : Prop := fnExactAddChangeUptoRow.holds Try.pinned (OpenSpec.upto fnExactAddChangeSpec)

/-- 'laws.FnExactCallersOf', WHERE WHAT IT READS IS OF BULK AT MOST 1048576: true; the input reads as it did. -/
def fnExactCallersOfUptoRow : OpenClaim := { program := "ythbkfekbpjkhnaa", sum := "abf9c310f6d45ef684ce45793ca7c61050b8f5037cc1132b3f631cab55cdf65b", func := "loop.example/g00912/laws.FnExactCallersOf", spec := "fnExactCallersOf", unfollowed := true, recurses := true, apart := false, narrowed := true }
def FnExactCallersOfUptoSaid : Prop := fnExactCallersOfUptoRow.holds Try.pinned (OpenSpec.upto fnExactCallersOfSpec)

/-- 'laws.FnExactLastChange', WHERE WHAT IT READS IS OF BULK AT MOST 1048576: true; the input reads as it did. -/
def fnExactLastChangeUptoRow : OpenClaim := { program := "ythbkfekbpjkhnaa", sum := "abf9c310f6d45ef684ce45793ca7c61050b8f5037cc1132b3f631cab55cdf65b", func := "loop.example/g00912/laws.FnExactLastChange", spec := "fnExactLastChange", unfollowed := true, recurses := true, apart := false, narrowed := true }
def FnExactLastChangeUptoSaid : Prop := fnExactLastChangeUptoRow.holds Try.pinned (OpenSpec.upto fnExactLastChangeSpec)

/-- 'laws.FnExactTakeBack', WHERE WHAT IT READS IS OF BULK AT MOST 1048576: true; the input reads as it did. -/
def fnExactTakeBackUptoRow : OpenClaim := { program := "ythbkfekbpjkhnaa", sum := "abf9c310f6d45ef684ce45793ca7c61050b8f5037cc1132b3f631cab55cdf65b", func := "loop.example/g00912/laws.FnExactTakeBack", spec := "fnExactTakeBack", unfollowed := true, recurses := true, apart := false, narrowed := true }
def FnExactTakeBackUptoSaid : Prop := fnExactTakeBackUptoRow.holds Try.pinned (OpenSpec.upto fnExactTakeBackSpec)

end Rows
end Go.Proofs.Ythbkfekbpjkhnaa
