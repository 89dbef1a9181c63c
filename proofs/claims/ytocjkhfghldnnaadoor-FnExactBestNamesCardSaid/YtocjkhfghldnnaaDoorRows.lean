/-
  NARROWER THAN 'FOR EVERY INPUT', by the rows' own cells (each row's printed sentence says how): FnExactMostSingles: laid · FnExactBestNames: laid · FnExactCountSingles: laid · FnExactPlanBound: laid.
  DERIVED. THE GIVEN ROWS OF THIS SEAT. 4 by the template 'for every input the law returns true; each argument reads behind the call as it read before'; 0 by the template 'total and deterministic' (their statements: YtocjkhfghldnnaaDoorTotals.lean).
  GIVEN WITH THE SEED: the statements are not yours to turn. If you find one false, say at which input.
  Laid BY PROGRAM, IN A SANDBOX (cutbox-rows.mjs): the forced cells as the released guide's own fill.sh prints them over the translation 62f4719488943860… (all of the seat's roots in one cut). By AI agents, Wed Nov 11 2026. No macro, syntax, notation, axiom, sorry.
-/
import Derived.Test.YtocjkhfghldnnaaDoorChecked
import GoSem.Claim
import GoSem.ClaimJoined
import GoSem.ClaimMapViews
import Derived.JoinedTies
import Derived.KernelRfl
namespace Go.Proofs.YtocjkhfghldnnaaDoor
/- THE CELL 'sum', in the pinned program and in every row, IS THE sha256 OF THE DUMP (.gsa) THAT YtocjkhfghldnnaaDoorProg.lean LOADS. Nothing in Lean hashes anything: it is a label: what it is worth is what the hold of that sum in a sandbox is worth. -/
noncomputable def Tryd.pinned : Pinned := { name := "ytocjkhfghldnnaadoor", sum := "62f4719488943860a7f0bf338cdf6dd77734c27859ab5d38bbb22f30e5b95ad3", checked := Tryd.checked }
namespace Rows
def none {H : Type} : Left H := { results := [], args := [] }

/- WHAT THE LISTED PACKAGE-LEVEL VARIABLES READ AS WHEN THE CALL BEGINS. Each datum BY PROGRAM (the guide's laid-datum.mjs) off the statement by which the dump's own 'gosem.cut.vars' lays the variable. In a bare row this is a premise. The card (YtocjkhfghldnnaaDoorCards.lean) ties it to the program's text. -/
def laid_loop_example_g00912_impl_codeBounds {H : Type} : DataW H := .agg [.agg [.lit (.int .i64 0), .lit (.int .i64 4)], .agg [.lit (.int .i64 0), .lit (.int .i64 4)], .agg [.lit (.int .i64 1), .lit (.int .i64 2000)], .agg [.lit (.int .i64 0), .lit (.int .i64 9)], .agg [.lit (.int .i64 1), .lit (.int .i64 3)], .agg [.lit (.int .i64 0), .lit (.int .i64 20)], .agg [.lit (.int .i64 50), .lit (.int .i64 100)], .agg [.lit (.int .i64 0), .lit (.int .i64 500)], .agg [.lit (.int .i64 1), .lit (.int .i64 200)]]

/-- 'laws.FnExactMostSingles': WHATEVER THE INPUT: true; the input reads as it did. -/
def fnExactMostSinglesSpec : ChangeSpec := { name := "fnExactMostSingles", vars := ["loop.example/g00912/impl.codeBounds"], fn := fun _ => fun
  | [d, g1] => { results := [.lit (.bool true)], args := [d], vars := [g1] }
  | _ => none }
def fnExactMostSinglesRow : OpenClaim := { program := "ytocjkhfghldnnaadoor", sum := "62f4719488943860a7f0bf338cdf6dd77734c27859ab5d38bbb22f30e5b95ad3", func := "loop.example/g00912/laws.FnExactMostSingles", spec := "fnExactMostSingles", named := ["loop.example/g00912/impl.codeBounds"], apart := false, laid := [("loop.example/g00912/impl.codeBounds", laid_loop_example_g00912_impl_codeBounds)] }
def FnExactMostSinglesSaid : Prop := fnExactMostSinglesRow.holds Tryd.pinned (OpenSpec.ofChange fnExactMostSinglesSpec)

/-- ITS FALSE NEIGHBOUR: 'it returns false'. Refute it at one input. -/
def fnExactMostSinglesWrong : ChangeSpec := { name := "fnExactMostSingles", vars := ["loop.example/g00912/impl.codeBounds"], fn := fun _ => fun
  | [d, g1] => { results := [.lit (.bool false)], args := [d], vars := [g1] }
  | _ => none }
def FnExactMostSinglesWrongFalsely : Prop := fnExactMostSinglesRow.holds Tryd.pinned (OpenSpec.ofChange fnExactMostSinglesWrong)

/-- 'laws.FnExactBestNames': WHATEVER THE INPUT: true; the input reads as it did. -/
def fnExactBestNamesSpec : ChangeSpec := { name := "fnExactBestNames", vars := ["loop.example/g00912/impl.codeBounds"], fn := fun _ => fun
  | [d1, d2, g1] => { results := [.lit (.bool true)], args := [d1, d2], vars := [g1] }
  | _ => none }
def fnExactBestNamesRow : OpenClaim := { program := "ytocjkhfghldnnaadoor", sum := "62f4719488943860a7f0bf338cdf6dd77734c27859ab5d38bbb22f30e5b95ad3", func := "loop.example/g00912/laws.FnExactBestNames", spec := "fnExactBestNames", unfollowed := true, recurses := true, named := ["loop.example/g00912/impl.codeBounds"], apart := false, laid := [("loop.example/g00912/impl.codeBounds", laid_loop_example_g00912_impl_codeBounds)] }
def FnExactBestNamesSaid : Prop := fnExactBestNamesRow.holds Tryd.pinned (OpenSpec.ofChange fnExactBestNamesSpec)

/-- ITS FALSE NEIGHBOUR: 'it returns false'. Refute it at one input. -/
def fnExactBestNamesWrong : ChangeSpec := { name := "fnExactBestNames", vars := ["loop.example/g00912/impl.codeBounds"], fn := fun _ => fun
  | [d1, d2, g1] => { results := [.lit (.bool false)], args := [d1, d2], vars := [g1] }
  | _ => none }
def FnExactBestNamesWrongFalsely : Prop := fnExactBestNamesRow.holds Tryd.pinned (OpenSpec.ofChange fnExactBestNamesWrong)

/-- 'laws.FnExactCountSingles': WHATEVER THE INPUT: true; the input reads as it did. -/
def fnExactCountSinglesSpec : ChangeSpec := { name := "fnExactCountSingles", vars := ["loop.example/g00912/impl.codeBounds"], fn := fun _ => fun
  | [d1, d2, g1] => { results := [.lit (.bool true)], args := [d1, d2], vars := [g1] }
  | _ => none }
def fnExactCountSinglesRow : OpenClaim := { program := "ytocjkhfghldnnaadoor", sum := "62f4719488943860a7f0bf338cdf6dd77734c27859ab5d38bbb22f30e5b95ad3", func := "loop.example/g00912/laws.FnExactCountSingles", spec := "fnExactCountSingles", named := ["loop.example/g00912/impl.codeBounds"], apart := false, laid := [("loop.example/g00912/impl.codeBounds", laid_loop_example_g00912_impl_codeBounds)] }
def FnExactCountSinglesSaid : Prop := fnExactCountSinglesRow.holds Tryd.pinned (OpenSpec.ofChange fnExactCountSinglesSpec)

/-- ITS FALSE NEIGHBOUR: 'it returns false'. Refute it at one input. -/
def fnExactCountSinglesWrong : ChangeSpec := { name := "fnExactCountSingles", vars := ["loop.example/g00912/impl.codeBounds"], fn := fun _ => fun
  | [d1, d2, g1] => { results := [.lit (.bool false)], args := [d1, d2], vars := [g1] }
  | _ => none }
def FnExactCountSinglesWrongFalsely : Prop := fnExactCountSinglesRow.holds Tryd.pinned (OpenSpec.ofChange fnExactCountSinglesWrong)

/-- 'laws.FnExactPlanBound': WHATEVER THE INPUT: true; the input reads as it did. -/
def fnExactPlanBoundSpec : ChangeSpec := { name := "fnExactPlanBound", vars := ["loop.example/g00912/impl.codeBounds"], fn := fun _ => fun
  | [d1, d2, g1] => { results := [.lit (.bool true)], args := [d1, d2], vars := [g1] }
  | _ => none }
def fnExactPlanBoundRow : OpenClaim := { program := "ytocjkhfghldnnaadoor", sum := "62f4719488943860a7f0bf338cdf6dd77734c27859ab5d38bbb22f30e5b95ad3", func := "loop.example/g00912/laws.FnExactPlanBound", spec := "fnExactPlanBound", unfollowed := true, recurses := true, named := ["loop.example/g00912/impl.codeBounds"], apart := false, laid := [("loop.example/g00912/impl.codeBounds", laid_loop_example_g00912_impl_codeBounds)] }
def FnExactPlanBoundSaid : Prop := fnExactPlanBoundRow.holds Tryd.pinned (OpenSpec.ofChange fnExactPlanBoundSpec)

/-- ITS FALSE NEIGHBOUR: 'it returns false'. Refute it at one input. -/
def fnExactPlanBoundWrong : ChangeSpec := { name := "fnExactPlanBound", vars := ["loop.example/g00912/impl.codeBounds"], fn := fun _ => fun
  | [d1, d2, g1] => { results := [.lit (.bool false)], args := [d1, d2], vars := [g1] }
  | _ => none }
def FnExactPlanBoundWrongFalsely : Prop := fnExactPlanBoundRow.holds Tryd.pinned (OpenSpec.ofChange fnExactPlanBoundWrong)

/- THE SECOND FORM. 'bulk': how many values and letters a reading holds, each counted each time it is reached (what is shared counts as often as it is met; a slice's spare places count too). A statement '..UptoSaid' is the law's where the arguments, and the package variables that the reading takes, are together of bulk at most 1048576: NARROWER than '..Said'. Prove '..Said' where nothing that the law and all that it calls make is longer than what came in: it says more and counts as full. Else prove '..UptoSaid'. A law counts once. -/
mutual
def uptoBulk {H : Type} : DataW H → Nat
  | .lit (.string bytes) => bytes.length + 1
  | .lit _ => 1
  | .nil => 1
  | .ptr d => uptoBulk d + 1
  | .slice elems spare => uptoBulkAll elems + uptoBulkAll spare + 1
  | .agg parts => uptoBulkAll parts + 1
  | .iface _ d => uptoBulk d + 1
  | .map entries => uptoBulkEntries entries + 1
  | .held _ => 1
def uptoBulkAll {H : Type} : List (DataW H) → Nat
  | [] => 0
  | d :: r => uptoBulk d + uptoBulkAll r
def uptoBulkEntries {H : Type} : List (Lit × DataW H) → Nat
  | [] => 0
  | x :: r => uptoBulkEntry x + uptoBulkEntries r
def uptoBulkEntry {H : Type} : Lit × DataW H → Nat
  | (.string bytes, d) => bytes.length + uptoBulk d + 1
  | (_, d) => uptoBulk d + 1
 end
def uptoSmall : (H : Type) → List (DataW H) → Bool := fun _ ds => decide (uptoBulkAll ds ≤ 1048576)
def OpenSpec.upto (s : _root_.Go.ChangeSpec) : _root_.Go.OpenSpec := { _root_.Go.OpenSpec.ofChange s with cond := some uptoSmall }

/-- 'laws.FnExactMostSingles', WHERE WHAT IT READS IS OF BULK AT MOST 1048576: true; the input reads as it did. -/
def fnExactMostSinglesUptoRow : OpenClaim := { program := "ytocjkhfghldnnaadoor", sum := "62f4719488943860a7f0bf338cdf6dd77734c27859ab5d38bbb22f30e5b95ad3", func := "loop.example/g00912/laws.FnExactMostSingles", spec := "fnExactMostSingles", named := ["loop.example/g00912/impl.codeBounds"], apart := false, laid := [("loop.example/g00912/impl.codeBounds", laid_loop_example_g00912_impl_codeBounds)], narrowed := true }
def FnExactMostSinglesUptoSaid : Prop := fnExactMostSinglesUptoRow.holds Tryd.pinned (OpenSpec.upto fnExactMostSinglesSpec)

/-- 'laws.FnExactBestNames', WHERE WHAT IT READS IS OF BULK AT MOST 1048576: true; the input reads as it did. -/
def fnExactBestNamesUptoRow : OpenClaim := { program := "ytocjkhfghldnnaadoor", sum := "62f4719488943860a7f0bf338cdf6dd77734c27859ab5d38bbb22f30e5b95ad3", func := "loop.example/g00912/laws.FnExactBestNames", spec := "fnExactBestNames", unfollowed := true, recurses := true, named := ["loop.example/g00912/impl.codeBounds"], apart := false, laid := [("loop.example/g00912/impl.codeBounds", laid_loop_example_g00912_impl_codeBounds)], narrowed := true }
def FnExactBestNamesUptoSaid : Prop := fnExactBestNamesUptoRow.holds Tryd.pinned (OpenSpec.upto fnExactBestNamesSpec)

/-- 'laws.FnExactCountSingles', WHERE WHAT IT READS IS OF BULK AT MOST 1048576: true; the input reads as it did. -/
def fnExactCountSinglesUptoRow : OpenClaim := { program := "ytocjkhfghldnnaadoor", sum := "62f4719488943860a7f0bf338cdf6dd77734c27859ab5d38bbb22f30e5b95ad3", func := "loop.example/g00912/laws.FnExactCountSingles", spec := "fnExactCountSingles", named := ["loop.example/g00912/impl.codeBounds"], apart := false, laid := [("loop.example/g00912/impl.codeBounds", laid_loop_example_g00912_impl_codeBounds)], narrowed := true }
def FnExactCountSinglesUptoSaid : Prop := fnExactCountSinglesUptoRow.holds Tryd.pinned (OpenSpec.upto fnExactCountSinglesSpec)

/-- 'laws.FnExactPlanBound', WHERE WHAT IT READS IS OF BULK AT MOST 1048576: true; the input reads as it did. -/
def fnExactPlanBoundUptoRow : OpenClaim := { program := "ytocjkhfghldnnaadoor", sum := "62f4719488943860a7f0bf338cdf6dd77734c27859ab5d38bbb22f30e5b95ad3", func := "loop.example/g00912/laws.FnExactPlanBound", spec := "fnExactPlanBound", unfollowed := true, recurses := true, named := ["loop.example/g00912/impl.codeBounds"], apart := false, laid := [("loop.example/g00912/impl.codeBounds", laid_loop_example_g00912_impl_codeBounds)], narrowed := true }
def FnExactPlanBoundUptoSaid : Prop := fnExactPlanBoundUptoRow.holds Tryd.pinned (OpenSpec.upto fnExactPlanBoundSpec)

end Rows
end Go.Proofs.YtocjkhfghldnnaaDoor
