/-
  NARROWER THAN 'FOR EVERY INPUT', by the rows' own cells (each row's printed sentence says how): FnExactElementWorth: laid · FnExactKnowsItems: laid · FnExactItemFamily: laid · FnExactFullBase: laid · FnExactRepeatsOf: laid · FnExactItemBase: laid · FnExactBaseValues: laid · FnExactProgrammeBase: laid · FnExactMarkLosses: laid · FnExactLateGain: laid · FnExactFamilyBases: laid · FnExactRuleHolds: laid.
  DERIVED. THE GIVEN ROWS OF THIS SEAT. 12 by the template 'for every input the law returns true; each argument reads behind the call as it read before'; 0 by the template 'total and deterministic' (their statements: YtejchpieokaplaaDoorTotals.lean).
  GIVEN WITH THE SEED: the statements are not yours to turn. If you find one false, say at which input.
  Laid BY PROGRAM, IN A SANDBOX (cutbox-rows.mjs): the forced cells as the released guide's own fill.sh prints them over the translation 5beca788d7d50571… (all of the seat's roots in one cut). By AI agents, Wed Nov 11 2026. No macro, syntax, notation, axiom, sorry.
-/
import Derived.Test.YtejchpieokaplaaDoorChecked
import GoSem.Claim
import GoSem.ClaimJoined
import GoSem.ClaimMapViews
import Derived.JoinedTies
import Derived.KernelRfl
namespace Go.Proofs.YtejchpieokaplaaDoor
/- THE CELL 'sum', in the pinned program and in every row, IS THE sha256 OF THE DUMP (.gsa) THAT YtejchpieokaplaaDoorProg.lean LOADS. Nothing in Lean hashes anything: it is a label: what it is worth is what the hold of that sum in a sandbox is worth. -/
noncomputable def Tryd.pinned : Pinned := { name := "ytejchpieokaplaadoor", sum := "5beca788d7d50571beab7a1a45b6d90ca2686a4c8149248c026dc404dbf6cdd9", checked := Tryd.checked }
namespace Rows
def none {H : Type} : Left H := { results := [], args := [] }

/- WHAT THE LISTED PACKAGE-LEVEL VARIABLES READ AS WHEN THE CALL BEGINS. Each datum BY PROGRAM (the guide's laid-datum.mjs) off the statement by which the dump's own 'gosem.cut.vars' lays the variable. In a bare row this is a premise. The card (YtejchpieokaplaaDoorCards.lean) ties it to the program's text. -/
def laid_loop_example_g00912_impl_codeBounds {H : Type} : DataW H := .agg [.agg [.lit (.int .i64 0), .lit (.int .i64 4)], .agg [.lit (.int .i64 0), .lit (.int .i64 4)], .agg [.lit (.int .i64 1), .lit (.int .i64 2000)], .agg [.lit (.int .i64 0), .lit (.int .i64 9)], .agg [.lit (.int .i64 1), .lit (.int .i64 3)], .agg [.lit (.int .i64 0), .lit (.int .i64 20)], .agg [.lit (.int .i64 50), .lit (.int .i64 100)], .agg [.lit (.int .i64 0), .lit (.int .i64 500)], .agg [.lit (.int .i64 1), .lit (.int .i64 200)]]

/-- 'laws.FnExactElementWorth': WHATEVER THE INPUT: true; the input reads as it did. -/
def fnExactElementWorthSpec : ChangeSpec := { name := "fnExactElementWorth", vars := ["loop.example/g00912/impl.codeBounds"], fn := fun _ => fun
  | [d1, d2, d3, g1] => { results := [.lit (.bool true)], args := [d1, d2, d3], vars := [g1] }
  | _ => none }
def fnExactElementWorthRow : OpenClaim := { program := "ytejchpieokaplaadoor", sum := "5beca788d7d50571beab7a1a45b6d90ca2686a4c8149248c026dc404dbf6cdd9", func := "loop.example/g00912/laws.FnExactElementWorth", spec := "fnExactElementWorth", named := ["loop.example/g00912/impl.codeBounds"], apart := false, laid := [("loop.example/g00912/impl.codeBounds", laid_loop_example_g00912_impl_codeBounds)] }
def FnExactElementWorthSaid : Prop := fnExactElementWorthRow.holds Tryd.pinned (OpenSpec.ofChange fnExactElementWorthSpec)

/-- ITS FALSE NEIGHBOUR: 'it returns false'. Refute it at one input. -/
def fnExactElementWorthWrong : ChangeSpec := { name := "fnExactElementWorth", vars := ["loop.example/g00912/impl.codeBounds"], fn := fun _ => fun
  | [d1, d2, d3, g1] => { results := [.lit (.bool false)], args := [d1, d2, d3], vars := [g1] }
  | _ => none }
def FnExactElementWorthWrongFalsely : Prop := fnExactElementWorthRow.holds Tryd.pinned (OpenSpec.ofChange fnExactElementWorthWrong)

/-- 'laws.FnExactKnowsItems': WHATEVER THE INPUT: true; the input reads as it did. -/
def fnExactKnowsItemsSpec : ChangeSpec := { name := "fnExactKnowsItems", vars := ["loop.example/g00912/impl.codeBounds"], fn := fun _ => fun
  | [d1, d2, g1] => { results := [.lit (.bool true)], args := [d1, d2], vars := [g1] }
  | _ => none }
def fnExactKnowsItemsRow : OpenClaim := { program := "ytejchpieokaplaadoor", sum := "5beca788d7d50571beab7a1a45b6d90ca2686a4c8149248c026dc404dbf6cdd9", func := "loop.example/g00912/laws.FnExactKnowsItems", spec := "fnExactKnowsItems", named := ["loop.example/g00912/impl.codeBounds"], apart := false, laid := [("loop.example/g00912/impl.codeBounds", laid_loop_example_g00912_impl_codeBounds)] }
def FnExactKnowsItemsSaid : Prop := fnExactKnowsItemsRow.holds Tryd.pinned (OpenSpec.ofChange fnExactKnowsItemsSpec)

/-- ITS FALSE NEIGHBOUR: 'it returns false'. Refute it at one input. -/
def fnExactKnowsItemsWrong : ChangeSpec := { name := "fnExactKnowsItems", vars := ["loop.example/g00912/impl.codeBounds"], fn := fun _ => fun
  | [d1, d2, g1] => { results := [.lit (.bool false)], args := [d1, d2], vars := [g1] }
  | _ => none }
def FnExactKnowsItemsWrongFalsely : Prop := fnExactKnowsItemsRow.holds Tryd.pinned (OpenSpec.ofChange fnExactKnowsItemsWrong)

/-- 'laws.FnExactItemFamily': WHATEVER THE INPUT: true; the input reads as it did. -/
def fnExactItemFamilySpec : ChangeSpec := { name := "fnExactItemFamily", vars := ["loop.example/g00912/impl.codeBounds"], fn := fun _ => fun
  | [d1, d2, g1] => { results := [.lit (.bool true)], args := [d1, d2], vars := [g1] }
  | _ => none }
def fnExactItemFamilyRow : OpenClaim := { program := "ytejchpieokaplaadoor", sum := "5beca788d7d50571beab7a1a45b6d90ca2686a4c8149248c026dc404dbf6cdd9", func := "loop.example/g00912/laws.FnExactItemFamily", spec := "fnExactItemFamily", named := ["loop.example/g00912/impl.codeBounds"], apart := false, laid := [("loop.example/g00912/impl.codeBounds", laid_loop_example_g00912_impl_codeBounds)] }
def FnExactItemFamilySaid : Prop := fnExactItemFamilyRow.holds Tryd.pinned (OpenSpec.ofChange fnExactItemFamilySpec)

/-- ITS FALSE NEIGHBOUR: 'it returns false'. Refute it at one input. -/
def fnExactItemFamilyWrong : ChangeSpec := { name := "fnExactItemFamily", vars := ["loop.example/g00912/impl.codeBounds"], fn := fun _ => fun
  | [d1, d2, g1] => { results := [.lit (.bool false)], args := [d1, d2], vars := [g1] }
  | _ => none }
def FnExactItemFamilyWrongFalsely : Prop := fnExactItemFamilyRow.holds Tryd.pinned (OpenSpec.ofChange fnExactItemFamilyWrong)

/-- 'laws.FnExactFullBase': WHATEVER THE INPUT: true; the input reads as it did. -/
def fnExactFullBaseSpec : ChangeSpec := { name := "fnExactFullBase", vars := ["loop.example/g00912/impl.codeBounds"], fn := fun _ => fun
  | [d1, d2, g1] => { results := [.lit (.bool true)], args := [d1, d2], vars := [g1] }
  | _ => none }
def fnExactFullBaseRow : OpenClaim := { program := "ytejchpieokaplaadoor", sum := "5beca788d7d50571beab7a1a45b6d90ca2686a4c8149248c026dc404dbf6cdd9", func := "loop.example/g00912/laws.FnExactFullBase", spec := "fnExactFullBase", unfollowed := true, recurses := true, named := ["loop.example/g00912/impl.codeBounds"], apart := false, laid := [("loop.example/g00912/impl.codeBounds", laid_loop_example_g00912_impl_codeBounds)] }
def FnExactFullBaseSaid : Prop := fnExactFullBaseRow.holds Tryd.pinned (OpenSpec.ofChange fnExactFullBaseSpec)

/-- ITS FALSE NEIGHBOUR: 'it returns false'. Refute it at one input. -/
def fnExactFullBaseWrong : ChangeSpec := { name := "fnExactFullBase", vars := ["loop.example/g00912/impl.codeBounds"], fn := fun _ => fun
  | [d1, d2, g1] => { results := [.lit (.bool false)], args := [d1, d2], vars := [g1] }
  | _ => none }
def FnExactFullBaseWrongFalsely : Prop := fnExactFullBaseRow.holds Tryd.pinned (OpenSpec.ofChange fnExactFullBaseWrong)

/-- 'laws.FnExactRepeatsOf': WHATEVER THE INPUT: true; the input reads as it did. -/
def fnExactRepeatsOfSpec : ChangeSpec := { name := "fnExactRepeatsOf", vars := ["loop.example/g00912/impl.codeBounds"], fn := fun _ => fun
  | [d1, d2, d3, g1] => { results := [.lit (.bool true)], args := [d1, d2, d3], vars := [g1] }
  | _ => none }
def fnExactRepeatsOfRow : OpenClaim := { program := "ytejchpieokaplaadoor", sum := "5beca788d7d50571beab7a1a45b6d90ca2686a4c8149248c026dc404dbf6cdd9", func := "loop.example/g00912/laws.FnExactRepeatsOf", spec := "fnExactRepeatsOf", named := ["loop.example/g00912/impl.codeBounds"], apart := false, laid := [("loop.example/g00912/impl.codeBounds", laid_loop_example_g00912_impl_codeBounds)] }
def FnExactRepeatsOfSaid : Prop := fnExactRepeatsOfRow.holds Tryd.pinned (OpenSpec.ofChange fnExactRepeatsOfSpec)

/-- ITS FALSE NEIGHBOUR: 'it returns false'. Refute it at one input. -/
def fnExactRepeatsOfWrong : ChangeSpec := { name := "fnExactRepeatsOf", vars := ["loop.example/g00912/impl.codeBounds"], fn := fun _ => fun
  | [d1, d2, d3, g1] => { results := [.lit (.bool false)], args := [d1, d2, d3], vars := [g1] }
  | _ => none }
def FnExactRepeatsOfWrongFalsely : Prop := fnExactRepeatsOfRow.holds Tryd.pinned (OpenSpec.ofChange fnExactRepeatsOfWrong)

/-- 'laws.FnExactItemBase': WHATEVER THE INPUT: true; the input reads as it did. -/
def fnExactItemBaseSpec : ChangeSpec := { name := "fnExactItemBase", vars := ["loop.example/g00912/impl.codeBounds"], fn := fun _ => fun
  | [d1, d2, d3, g1] => { results := [.lit (.bool true)], args := [d1, d2, d3], vars := [g1] }
  | _ => none }
def fnExactItemBaseRow : OpenClaim := { program := "ytejchpieokaplaadoor", sum := "5beca788d7d50571beab7a1a45b6d90ca2686a4c8149248c026dc404dbf6cdd9", func := "loop.example/g00912/laws.FnExactItemBase", spec := "fnExactItemBase", unfollowed := true, recurses := true, named := ["loop.example/g00912/impl.codeBounds"], apart := false, laid := [("loop.example/g00912/impl.codeBounds", laid_loop_example_g00912_impl_codeBounds)] }
def FnExactItemBaseSaid : Prop := fnExactItemBaseRow.holds Tryd.pinned (OpenSpec.ofChange fnExactItemBaseSpec)

/-- ITS FALSE NEIGHBOUR: 'it returns false'. Refute it at one input. -/
def fnExactItemBaseWrong : ChangeSpec := { name := "fnExactItemBase", vars := ["loop.example/g00912/impl.codeBounds"], fn := fun _ => fun
  | [d1, d2, d3, g1] => { results := [.lit (.bool false)], args := [d1, d2, d3], vars := [g1] }
  | _ => none }
def FnExactItemBaseWrongFalsely : Prop := fnExactItemBaseRow.holds Tryd.pinned (OpenSpec.ofChange fnExactItemBaseWrong)

/-- 'laws.FnExactBaseValues': WHATEVER THE INPUT: true; the input reads as it did. -/
def fnExactBaseValuesSpec : ChangeSpec := { name := "fnExactBaseValues", vars := ["loop.example/g00912/impl.codeBounds"], fn := fun _ => fun
  | [d1, d2, g1] => { results := [.lit (.bool true)], args := [d1, d2], vars := [g1] }
  | _ => none }
def fnExactBaseValuesRow : OpenClaim := { program := "ytejchpieokaplaadoor", sum := "5beca788d7d50571beab7a1a45b6d90ca2686a4c8149248c026dc404dbf6cdd9", func := "loop.example/g00912/laws.FnExactBaseValues", spec := "fnExactBaseValues", unfollowed := true, recurses := true, named := ["loop.example/g00912/impl.codeBounds"], apart := false, laid := [("loop.example/g00912/impl.codeBounds", laid_loop_example_g00912_impl_codeBounds)] }
def FnExactBaseValuesSaid : Prop := fnExactBaseValuesRow.holds Tryd.pinned (OpenSpec.ofChange fnExactBaseValuesSpec)

/-- ITS FALSE NEIGHBOUR: 'it returns false'. Refute it at one input. -/
def fnExactBaseValuesWrong : ChangeSpec := { name := "fnExactBaseValues", vars := ["loop.example/g00912/impl.codeBounds"], fn := fun _ => fun
  | [d1, d2, g1] => { results := [.lit (.bool false)], args := [d1, d2], vars := [g1] }
  | _ => none }
def FnExactBaseValuesWrongFalsely : Prop := fnExactBaseValuesRow.holds Tryd.pinned (OpenSpec.ofChange fnExactBaseValuesWrong)

/-- 'laws.FnExactProgrammeBase': WHATEVER THE INPUT: true; the input reads as it did. -/
def fnExactProgrammeBaseSpec : ChangeSpec := { name := "fnExactProgrammeBase", vars := ["loop.example/g00912/impl.codeBounds"], fn := fun _ => fun
  | [d1, d2, g1] => { results := [.lit (.bool true)], args := [d1, d2], vars := [g1] }
  | _ => none }
def fnExactProgrammeBaseRow : OpenClaim := { program := "ytejchpieokaplaadoor", sum := "5beca788d7d50571beab7a1a45b6d90ca2686a4c8149248c026dc404dbf6cdd9", func := "loop.example/g00912/laws.FnExactProgrammeBase", spec := "fnExactProgrammeBase", unfollowed := true, recurses := true, named := ["loop.example/g00912/impl.codeBounds"], apart := false, laid := [("loop.example/g00912/impl.codeBounds", laid_loop_example_g00912_impl_codeBounds)] }
def FnExactProgrammeBaseSaid : Prop := fnExactProgrammeBaseRow.holds Tryd.pinned (OpenSpec.ofChange fnExactProgrammeBaseSpec)

/-- ITS FALSE NEIGHBOUR: 'it returns false'. Refute it at one input. -/
def fnExactProgrammeBaseWrong : ChangeSpec := { name := "fnExactProgrammeBase", vars := ["loop.example/g00912/impl.codeBounds"], fn := fun _ => fun
  | [d1, d2, g1] => { results := [.lit (.bool false)], args := [d1, d2], vars := [g1] }
  | _ => none }
def FnExactProgrammeBaseWrongFalsely : Prop := fnExactProgrammeBaseRow.holds Tryd.pinned (OpenSpec.ofChange fnExactProgrammeBaseWrong)

/-- 'laws.FnExactMarkLosses': WHATEVER THE INPUT: true; the input reads as it did. -/
def fnExactMarkLossesSpec : ChangeSpec := { name := "fnExactMarkLosses", vars := ["loop.example/g00912/impl.codeBounds"], fn := fun _ => fun
  | [d1, d2, g1] => { results := [.lit (.bool true)], args := [d1, d2], vars := [g1] }
  | _ => none }
def fnExactMarkLossesRow : OpenClaim := { program := "ytejchpieokaplaadoor", sum := "5beca788d7d50571beab7a1a45b6d90ca2686a4c8149248c026dc404dbf6cdd9", func := "loop.example/g00912/laws.FnExactMarkLosses", spec := "fnExactMarkLosses", unfollowed := true, recurses := true, named := ["loop.example/g00912/impl.codeBounds"], apart := false, laid := [("loop.example/g00912/impl.codeBounds", laid_loop_example_g00912_impl_codeBounds)] }
def FnExactMarkLossesSaid : Prop := fnExactMarkLossesRow.holds Tryd.pinned (OpenSpec.ofChange fnExactMarkLossesSpec)

/-- ITS FALSE NEIGHBOUR: 'it returns false'. Refute it at one input. -/
def fnExactMarkLossesWrong : ChangeSpec := { name := "fnExactMarkLosses", vars := ["loop.example/g00912/impl.codeBounds"], fn := fun _ => fun
  | [d1, d2, g1] => { results := [.lit (.bool false)], args := [d1, d2], vars := [g1] }
  | _ => none }
def FnExactMarkLossesWrongFalsely : Prop := fnExactMarkLossesRow.holds Tryd.pinned (OpenSpec.ofChange fnExactMarkLossesWrong)

/-- 'laws.FnExactLateGain': WHATEVER THE INPUT: true; the input reads as it did. -/
def fnExactLateGainSpec : ChangeSpec := { name := "fnExactLateGain", vars := ["loop.example/g00912/impl.codeBounds"], fn := fun _ => fun
  | [d1, d2, d3, g1] => { results := [.lit (.bool true)], args := [d1, d2, d3], vars := [g1] }
  | _ => none }
def fnExactLateGainRow : OpenClaim := { program := "ytejchpieokaplaadoor", sum := "5beca788d7d50571beab7a1a45b6d90ca2686a4c8149248c026dc404dbf6cdd9", func := "loop.example/g00912/laws.FnExactLateGain", spec := "fnExactLateGain", unfollowed := true, recurses := true, named := ["loop.example/g00912/impl.codeBounds"], apart := false, laid := [("loop.example/g00912/impl.codeBounds", laid_loop_example_g00912_impl_codeBounds)] }
def FnExactLateGainSaid : Prop := fnExactLateGainRow.holds Tryd.pinned (OpenSpec.ofChange fnExactLateGainSpec)

/-- ITS FALSE NEIGHBOUR: 'it returns false'. Refute it at one input. -/
def fnExactLateGainWrong : ChangeSpec := { name := "fnExactLateGain", vars := ["loop.example/g00912/impl.codeBounds"], fn := fun _ => fun
  | [d1, d2, d3, g1] => { results := [.lit (.bool false)], args := [d1, d2, d3], vars := [g1] }
  | _ => none }
def FnExactLateGainWrongFalsely : Prop := fnExactLateGainRow.holds Tryd.pinned (OpenSpec.ofChange fnExactLateGainWrong)

/-- 'laws.FnExactFamilyBases': WHATEVER THE INPUT: true; the input reads as it did. -/
def fnExactFamilyBasesSpec : ChangeSpec := { name := "fnExactFamilyBases", vars := ["loop.example/g00912/impl.codeBounds"], fn := fun _ => fun
  | [d1, d2, g1] => { results := [.lit (.bool true)], args := [d1, d2], vars := [g1] }
  | _ => none }
def fnExactFamilyBasesRow : OpenClaim := { program := "ytejchpieokaplaadoor", sum := "5beca788d7d50571beab7a1a45b6d90ca2686a4c8149248c026dc404dbf6cdd9", func := "loop.example/g00912/laws.FnExactFamilyBases", spec := "fnExactFamilyBases", unfollowed := true, recurses := true, named := ["loop.example/g00912/impl.codeBounds"], apart := false, laid := [("loop.example/g00912/impl.codeBounds", laid_loop_example_g00912_impl_codeBounds)] }
def FnExactFamilyBasesSaid : Prop := fnExactFamilyBasesRow.holds Tryd.pinned (OpenSpec.ofChange fnExactFamilyBasesSpec)

/-- ITS FALSE NEIGHBOUR: 'it returns false'. Refute it at one input. -/
def fnExactFamilyBasesWrong : ChangeSpec := { name := "fnExactFamilyBases", vars := ["loop.example/g00912/impl.codeBounds"], fn := fun _ => fun
  | [d1, d2, g1] => { results := [.lit (.bool false)], args := [d1, d2], vars := [g1] }
  | _ => none }
def FnExactFamilyBasesWrongFalsely : Prop := fnExactFamilyBasesRow.holds Tryd.pinned (OpenSpec.ofChange fnExactFamilyBasesWrong)

/-- 'laws.FnExactRuleHolds': WHATEVER THE INPUT: true; the input reads as it did. -/
def fnExactRuleHoldsSpec : ChangeSpec := { name := "fnExactRuleHolds", vars := ["loop.example/g00912/impl.codeBounds"], fn := fun _ => fun
  | [d1, d2, d3, g1] => { results := [.lit (.bool true)], args := [d1, d2, d3], vars := [g1] }
  | _ => none }
def fnExactRuleHoldsRow : OpenClaim := { program := "ytejchpieokaplaadoor", sum := "5beca788d7d50571beab7a1a45b6d90ca2686a4c8149248c026dc404dbf6cdd9", func := "loop.example/g00912/laws.FnExactRuleHolds", spec := "fnExactRuleHolds", unfollowed := true, recurses := true, named := ["loop.example/g00912/impl.codeBounds"], apart := false, laid := [("loop.example/g00912/impl.codeBounds", laid_loop_example_g00912_impl_codeBounds)] }
def FnExactRuleHoldsSaid : Prop := fnExactRuleHoldsRow.holds Tryd.pinned (OpenSpec.ofChange fnExactRuleHoldsSpec)

/-- ITS FALSE NEIGHBOUR: 'it returns false'. Refute it at one input. -/
def fnExactRuleHoldsWrong : ChangeSpec := { name := "fnExactRuleHolds", vars := ["loop.example/g00912/impl.codeBounds"], fn := fun _ => fun
  | [d1, d2, d3, g1] => { results := [.lit (.bool false)], args := [d1, d2, d3], vars := [g1] }
  | _ => none }
def FnExactRuleHoldsWrongFalsely : Prop := fnExactRuleHoldsRow.holds Tryd.pinned (OpenSpec.ofChange fnExactRuleHoldsWrong)

/- THE SECOND FORM. 'bulk': how many values and letters a reading holds, each counted each time it is reached (what is shared counts as often as it is met; a slice's spare places count too). A statement '..UptoSaid' is the law's where the arguments, and the package variables that the reading takes, are together of bulk at most 1048576: NARROWER than '..Said'. Prove '..Said' where nothing that the law and all that it calls make is longer than what came in: it says more and counts as full. Else prove '..UptoSaid'. A law counts once. -/
mutual
def uptoBulk {H : Type} : DataW H → Nat
  | .lit (.string bytes) => bytes.length + 1
  | .lit _ => 1
  | .nil => 1
  | .ptr d => uptoBulk d + 1
  | .slice elems spare => uptoBulkAll elems + uptoBulkAll spare + 1
  | .agg parts => uptoBulkAll parts + 1
  | .iface _ d => uptoBulk d + 1
  | .map entries => uptoBulkEntries entries + 1
  | .held _ => 1
def uptoBulkAll {H : Type} : List (DataW H) → Nat
  | [] => 0
  | d :: r => uptoBulk d + uptoBulkAll r
def uptoBulkEntries {H : Type} : List (Lit × DataW H) → Nat
  | [] => 0
  | x :: r => uptoBulkEntry x + uptoBulkEntries r
def uptoBulkEntry {H : Type} : Lit × DataW H → Nat
  | (.string bytes, d) => bytes.length + uptoBulk d + 1
  | (_, d) => uptoBulk d + 1
 end
def uptoSmall : (H : Type) → List (DataW H) → Bool := fun _ ds => decide (uptoBulkAll ds ≤ 1048576)
def OpenSpec.upto (s : _root_.Go.ChangeSpec) : _root_.Go.OpenSpec := { _root_.Go.OpenSpec.ofChange s with cond := some uptoSmall }

/-- 'laws.FnExactElementWorth', WHERE WHAT IT READS IS OF BULK AT MOST 1048576: true; the input reads as it did. -/
def fnExactElementWorthUptoRow : OpenClaim := { program := "ytejchpieokaplaadoor", sum := "5beca788d7d50571beab7a1a45b6d90ca2686a4c8149248c026dc404dbf6cdd9", func := "loop.example/g00912/laws.FnExactElementWorth", spec := "fnExactElementWorth", named := ["loop.example/g00912/impl.codeBounds"], apart := false, laid := [("loop.example/g00912/impl.codeBounds", laid_loop_example_g00912_impl_codeBounds)], narrowed := true }
def FnExactElementWorthUptoSaid : Prop := fnExactElementWorthUptoRow.holds Tryd.pinned (OpenSpec.upto fnExactElementWorthSpec)

/-- 'laws.FnExactKnowsItems', WHERE WHAT IT READS IS OF BULK AT MOST 1048576: true; the input reads as it did. -/
def fnExactKnowsItemsUptoRow : OpenClaim := { program := "ytejchpieokaplaadoor", sum := "5beca788d7d50571beab7a1a45b6d90ca2686a4c8149248c026dc404dbf6cdd9", func := "loop.example/g00912/laws.FnExactKnowsItems", spec := "fnExactKnowsItems", named := ["loop.example/g00912/impl.codeBounds"], apart := false, laid := [("loop.example/g00912/impl.codeBounds", laid_loop_example_g00912_impl_codeBounds)], narrowed := true }
def FnExactKnowsItemsUptoSaid : Prop := fnExactKnowsItemsUptoRow.holds Tryd.pinned (OpenSpec.upto fnExactKnowsItemsSpec)

/-- 'laws.FnExactItemFamily', WHERE WHAT IT READS IS OF BULK AT MOST 1048576: true; the input reads as it did. -/
def fnExactItemFamilyUptoRow : OpenClaim := { program := "ytejchpieokaplaadoor", sum := "5beca788d7d50571beab7a1a45b6d90ca2686a4c8149248c026dc404dbf6cdd9", func := "loop.example/g00912/laws.FnExactItemFamily", spec := "fnExactItemFamily", named := ["loop.example/g00912/impl.codeBounds"], apart := false, laid := [("loop.example/g00912/impl.codeBounds", laid_loop_example_g00912_impl_codeBounds)], narrowed := true }
def FnExactItemFamilyUptoSaid : Prop := fnExactItemFamilyUptoRow.holds Tryd.pinned (OpenSpec.upto fnExactItemFamilySpec)

/-- 'laws.FnExactFullBase', WHERE WHAT IT READS IS OF BULK AT MOST 1048576: true; the input reads as it did. -/
def fnExactFullBaseUptoRow : OpenClaim := { program := "ytejchpieokaplaadoor", sum := "5beca788d7d50571beab7a1a45b6d90ca2686a4c8149248c026dc404dbf6cdd9", func := "loop.example/g00912/laws.FnExactFullBase", spec := "fnExactFullBase", unfollowed := true, recurses := true, named := ["loop.example/g00912/impl.codeBounds"], apart := false, laid := [("loop.example/g00912/impl.codeBounds", laid_loop_example_g00912_impl_codeBounds)], narrowed := true }
def FnExactFullBaseUptoSaid : Prop := fnExactFullBaseUptoRow.holds Tryd.pinned (OpenSpec.upto fnExactFullBaseSpec)

/-- 'laws.FnExactRepeatsOf', WHERE WHAT IT READS IS OF BULK AT MOST 1048576: true; the input reads as it did. -/
def fnExactRepeatsOfUptoRow : OpenClaim := { program := "ytejchpieokaplaadoor", sum := "5beca788d7d50571beab7a1a45b6d90ca2686a4c8149248c026dc404dbf6cdd9", func := "loop.example/g00912/laws.FnExactRepeatsOf", spec := "fnExactRepeatsOf", named := ["loop.example/g00912/impl.codeBounds"], apart := false, laid := [("loop.example/g00912/impl.codeBounds", laid_loop_example_g00912_impl_codeBounds)], narrowed := true }
def FnExactRepeatsOfUptoSaid : Prop := fnExactRepeatsOfUptoRow.holds Tryd.pinned (OpenSpec.upto fnExactRepeatsOfSpec)

/-- 'laws.FnExactItemBase', WHERE WHAT IT READS IS OF BULK AT MOST 1048576: true; the input reads as it did. -/
def fnExactItemBaseUptoRow : OpenClaim := { program := "ytejchpieokaplaadoor", sum := "5beca788d7d50571beab7a1a45b6d90ca2686a4c8149248c026dc404dbf6cdd9", func := "loop.example/g00912/laws.FnExactItemBase", spec := "fnExactItemBase", unfollowed := true, recurses := true, named := ["loop.example/g00912/impl.codeBounds"], apart := false, laid := [("loop.example/g00912/impl.codeBounds", laid_loop_example_g00912_impl_codeBounds)], narrowed := true }
def FnExactItemBaseUptoSaid : Prop := fnExactItemBaseUptoRow.holds Tryd.pinned (OpenSpec.upto fnExactItemBaseSpec)

/-- 'laws.FnExactBaseValues', WHERE WHAT IT READS IS OF BULK AT MOST 1048576: true; the input reads as it did. -/
def fnExactBaseValuesUptoRow : OpenClaim := { program := "ytejchpieokaplaadoor", sum := "5beca788d7d50571beab7a1a45b6d90ca2686a4c8149248c026dc404dbf6cdd9", func := "loop.example/g00912/laws.FnExactBaseValues", spec := "fnExactBaseValues", unfollowed := true, recurses := true, named := ["loop.example/g00912/impl.codeBounds"], apart := false, laid := [("loop.example/g00912/impl.codeBounds", laid_loop_example_g00912_impl_codeBounds)], narrowed := true }
def FnExactBaseValuesUptoSaid : Prop := fnExactBaseValuesUptoRow.holds Tryd.pinned (OpenSpec.upto fnExactBaseValuesSpec)

/-- 'laws.FnExactProgrammeBase', WHERE WHAT IT READS IS OF BULK AT MOST 1048576: true; the input reads as it did. -/
def fnExactProgrammeBaseUptoRow : OpenClaim := { program := "ytejchpieokaplaadoor", sum := "5beca788d7d50571beab7a1a45b6d90ca2686a4c8149248c026dc404dbf6cdd9", func := "loop.example/g00912/laws.FnExactProgrammeBase", spec := "fnExactProgrammeBase", unfollowed := true, recurses := true, named := ["loop.example/g00912/impl.codeBounds"], apart := false, laid := [("loop.example/g00912/impl.codeBounds", laid_loop_example_g00912_impl_codeBounds)], narrowed := true }
def FnExactProgrammeBaseUptoSaid : Prop := fnExactProgrammeBaseUptoRow.holds Tryd.pinned (OpenSpec.upto fnExactProgrammeBaseSpec)

/-- 'laws.FnExactMarkLosses', WHERE WHAT IT READS IS OF BULK AT MOST 1048576: true; the input reads as it did. -/
def fnExactMarkLossesUptoRow : OpenClaim := { program := "ytejchpieokaplaadoor", sum := "5beca788d7d50571beab7a1a45b6d90ca2686a4c8149248c026dc404dbf6cdd9", func := "loop.example/g00912/laws.FnExactMarkLosses", spec := "fnExactMarkLosses", unfollowed := true, recurses := true, named := ["loop.example/g00912/impl.codeBounds"], apart := false, laid := [("loop.example/g00912/impl.codeBounds", laid_loop_example_g00912_impl_codeBounds)], narrowed := true }
def FnExactMarkLossesUptoSaid : Prop := fnExactMarkLossesUptoRow.holds Tryd.pinned (OpenSpec.upto fnExactMarkLossesSpec)

/-- 'laws.FnExactLateGain', WHERE WHAT IT READS IS OF BULK AT MOST 1048576: true; the input reads as it did. -/
def fnExactLateGainUptoRow : OpenClaim := { program := "ytejchpieokaplaadoor", sum := "5beca788d7d50571beab7a1a45b6d90ca2686a4c8149248c026dc404dbf6cdd9", func := "loop.example/g00912/laws.FnExactLateGain", spec := "fnExactLateGain", unfollowed := true, recurses := true, named := ["loop.example/g00912/impl.codeBounds"], apart := false, laid := [("loop.example/g00912/impl.codeBounds", laid_loop_example_g00912_impl_codeBounds)], narrowed := true }
def FnExactLateGainUptoSaid : Prop := fnExactLateGainUptoRow.holds Tryd.pinned (OpenSpec.upto fnExactLateGainSpec)

/-- 'laws.FnExactFamilyBases', WHERE WHAT IT READS IS OF BULK AT MOST 1048576: true; the input reads as it did. -/
def fnExactFamilyBasesUptoRow : OpenClaim := { program := "ytejchpieokaplaadoor", sum := "5beca788d7d50571beab7a1a45b6d90ca2686a4c8149248c026dc404dbf6cdd9", func := "loop.example/g00912/laws.FnExactFamilyBases", spec := "fnExactFamilyBases", unfollowed := true, recurses := true, named := ["loop.example/g00912/impl.codeBounds"], apart := false, laid := [("loop.example/g00912/impl.codeBounds", laid_loop_example_g00912_impl_codeBounds)], narrowed := true }
def FnExactFamilyBasesUptoSaid : Prop := fnExactFamilyBasesUptoRow.holds Tryd.pinned (OpenSpec.upto fnExactFamilyBasesSpec)

/-- 'laws.FnExactRuleHolds', WHERE WHAT IT READS IS OF BULK AT MOST 1048576: true; the input reads as it did. -/
def fnExactRuleHoldsUptoRow : OpenClaim := { program := "ytejchpieokaplaadoor", sum := "5beca788d7d50571beab7a1a45b6d90ca2686a4c8149248c026dc404dbf6cdd9", func := "loop.example/g00912/laws.FnExactRuleHolds", spec := "fnExactRuleHolds", unfollowed := true, recurses := true, named := ["loop.example/g00912/impl.codeBounds"], apart := false, laid := [("loop.example/g00912/impl.codeBounds", laid_loop_example_g00912_impl_codeBounds)], narrowed := true }
def FnExactRuleHoldsUptoSaid : Prop := fnExactRuleHoldsUptoRow.holds Tryd.pinned (OpenSpec.upto fnExactRuleHoldsSpec)

end Rows
end Go.Proofs.YtejchpieokaplaaDoor
