/-
  NARROWER THAN 'FOR EVERY INPUT', by the rows' own cells (each row's printed sentence says how): FnExactBrokenRules: laid · FnExactIsProgramme: laid · FnExactInsertItem: laid · FnExactDropItem: laid · FnExactMoveItem: laid.
  DERIVED. THE GIVEN ROWS OF THIS SEAT. 5 by the template 'for every input the law returns true; each argument reads behind the call as it read before'; 0 by the template 'total and deterministic' (their statements: YtlghpbkchagoiaaGreatDoorTotals.lean).
  GIVEN WITH THE SEED: the statements are not yours to turn. If you find one false, say at which input.
  Laid BY PROGRAM, IN A SANDBOX (cutbox-rows.mjs): the forced cells as the released guide's own fill.sh prints them over the translation 7046d8fe159bee8b… (all of the seat's roots in one cut). By AI agents, Wed Nov 11 2026. No macro, syntax, notation, axiom, sorry.
-/
import Derived.Test.YtlghpbkchagoiaaGreatDoorChecked
import GoSem.Claim
import GoSem.ClaimJoined
import GoSem.ClaimMapViews
import Derived.JoinedTies
import Derived.KernelRfl
namespace Go.Proofs.YtlghpbkchagoiaaGreatDoor
/- THE CELL 'sum', in the pinned program and in every row, IS THE sha256 OF THE DUMP (.gsa) THAT YtlghpbkchagoiaaGreatDoorProg.lean LOADS. Nothing in Lean hashes anything: it is a label: what it is worth is what the hold of that sum in a sandbox is worth. -/
noncomputable def Tryz.pinned : Pinned := { name := "ytlghpbkchagoiaagreatdoor", sum := "7046d8fe159bee8bb749fdcb6895ed7c095f27bf4787a904c88127c07e1fe430", checked := Tryz.checked }
namespace Rows
def none {H : Type} : Left H := { results := [], args := [] }

/- WHAT THE LISTED PACKAGE-LEVEL VARIABLES READ AS WHEN THE CALL BEGINS. Each datum BY PROGRAM (the guide's laid-datum.mjs) off the statement by which the dump's own 'gosem.cut.vars' lays the variable. In a bare row this is a premise. The card (YtlghpbkchagoiaaGreatDoorCards.lean) ties it to the program's text. -/
def laid_loop_example_g00912_impl_codeBounds {H : Type} : DataW H := .agg [.agg [.lit (.int .i64 0), .lit (.int .i64 4)], .agg [.lit (.int .i64 0), .lit (.int .i64 4)], .agg [.lit (.int .i64 1), .lit (.int .i64 2000)], .agg [.lit (.int .i64 0), .lit (.int .i64 9)], .agg [.lit (.int .i64 1), .lit (.int .i64 3)], .agg [.lit (.int .i64 0), .lit (.int .i64 20)], .agg [.lit (.int .i64 50), .lit (.int .i64 100)], .agg [.lit (.int .i64 0), .lit (.int .i64 500)], .agg [.lit (.int .i64 1), .lit (.int .i64 200)]]

/-- 'laws.FnExactBrokenRules': WHATEVER THE INPUT: true; the input reads as it did. -/
def fnExactBrokenRulesSpec : ChangeSpec := { name := "fnExactBrokenRules", vars := ["loop.example/g00912/impl.codeBounds"], fn := fun _ => fun
  | [d1, d2, g1] => { results := [.lit (.bool true)], args := [d1, d2], vars := [g1] }
  | _ => none }
def fnExactBrokenRulesRow : OpenClaim := { program := "ytlghpbkchagoiaagreatdoor", sum := "7046d8fe159bee8bb749fdcb6895ed7c095f27bf4787a904c88127c07e1fe430", func := "loop.example/g00912/laws.FnExactBrokenRules", spec := "fnExactBrokenRules", unfollowed := true, recurses := true, named := ["loop.example/g00912/impl.codeBounds"], apart := false, laid := [("loop.example/g00912/impl.codeBounds", laid_loop_example_g00912_impl_codeBounds)] }
def FnExactBrokenRulesSaid : Prop := fnExactBrokenRulesRow.holds Tryz.pinned (OpenSpec.ofChange fnExactBrokenRulesSpec)

/-- ITS FALSE NEIGHBOUR: 'it returns false'. Refute it at one input. -/
def fnExactBrokenRulesWrong : ChangeSpec := { name := "fnExactBrokenRules", vars := ["loop.example/g00912/impl.codeBounds"], fn := fun _ => fun
  | [d1, d2, g1] => { results := [.lit (.bool false)], args := [d1, d2], vars := [g1] }
  | _ => none }
def FnExactBrokenRulesWrongFalsely : Prop := fnExactBrokenRulesRow.holds Tryz.pinned (OpenSpec.ofChange fnExactBrokenRulesWrong)

/-- 'laws.FnExactIsProgramme': WHATEVER THE INPUT: true; the input reads as it did. -/
def fnExactIsProgrammeSpec : ChangeSpec := { name := "fnExactIsProgramme", vars := ["loop.example/g00912/impl.codeBounds"], fn := fun _ => fun
  | [d1, d2, g1] => { results := [.lit (.bool true)], args := [d1, d2], vars := [g1] }
  | _ => none }
def fnExactIsProgrammeRow : OpenClaim := { program := "ytlghpbkchagoiaagreatdoor", sum := "7046d8fe159bee8bb749fdcb6895ed7c095f27bf4787a904c88127c07e1fe430", func := "loop.example/g00912/laws.FnExactIsProgramme", spec := "fnExactIsProgramme", unfollowed := true, recurses := true, named := ["loop.example/g00912/impl.codeBounds"], apart := false, laid := [("loop.example/g00912/impl.codeBounds", laid_loop_example_g00912_impl_codeBounds)] }
def FnExactIsProgrammeSaid : Prop := fnExactIsProgrammeRow.holds Tryz.pinned (OpenSpec.ofChange fnExactIsProgrammeSpec)

/-- ITS FALSE NEIGHBOUR: 'it returns false'. Refute it at one input. -/
def fnExactIsProgrammeWrong : ChangeSpec := { name := "fnExactIsProgramme", vars := ["loop.example/g00912/impl.codeBounds"], fn := fun _ => fun
  | [d1, d2, g1] => { results := [.lit (.bool false)], args := [d1, d2], vars := [g1] }
  | _ => none }
def FnExactIsProgrammeWrongFalsely : Prop := fnExactIsProgrammeRow.holds Tryz.pinned (OpenSpec.ofChange fnExactIsProgrammeWrong)

/-- 'laws.FnExactInsertItem': WHATEVER THE INPUT: true; the input reads as it did. -/
def fnExactInsertItemSpec : ChangeSpec := { name := "fnExactInsertItem", vars := ["loop.example/g00912/impl.codeBounds"], fn := fun _ => fun
  | [d1, d2, d3, d4, g1] => { results := [.lit (.bool true)], args := [d1, d2, d3, d4], vars := [g1] }
  | _ => none }
def fnExactInsertItemRow : OpenClaim := { program := "ytlghpbkchagoiaagreatdoor", sum := "7046d8fe159bee8bb749fdcb6895ed7c095f27bf4787a904c88127c07e1fe430", func := "loop.example/g00912/laws.FnExactInsertItem", spec := "fnExactInsertItem", unfollowed := true, recurses := true, named := ["loop.example/g00912/impl.codeBounds"], apart := false, laid := [("loop.example/g00912/impl.codeBounds", laid_loop_example_g00912_impl_codeBounds)] }
def FnExactInsertItemSaid : Prop := fnExactInsertItemRow.holds Tryz.pinned (OpenSpec.ofChange fnExactInsertItemSpec)

/-- ITS FALSE NEIGHBOUR: 'it returns false'. Refute it at one input. -/
def fnExactInsertItemWrong : ChangeSpec := { name := "fnExactInsertItem", vars := ["loop.example/g00912/impl.codeBounds"], fn := fun _ => fun
  | [d1, d2, d3, d4, g1] => { results := [.lit (.bool false)], args := [d1, d2, d3, d4], vars := [g1] }
  | _ => none }
def FnExactInsertItemWrongFalsely : Prop := fnExactInsertItemRow.holds Tryz.pinned (OpenSpec.ofChange fnExactInsertItemWrong)

/-- 'laws.FnExactDropItem': WHATEVER THE INPUT: true; the input reads as it did. -/
def fnExactDropItemSpec : ChangeSpec := { name := "fnExactDropItem", vars := ["loop.example/g00912/impl.codeBounds"], fn := fun _ => fun
  | [d1, d2, d3, g1] => { results := [.lit (.bool true)], args := [d1, d2, d3], vars := [g1] }
  | _ => none }
def fnExactDropItemRow : OpenClaim := { program := "ytlghpbkchagoiaagreatdoor", sum := "7046d8fe159bee8bb749fdcb6895ed7c095f27bf4787a904c88127c07e1fe430", func := "loop.example/g00912/laws.FnExactDropItem", spec := "fnExactDropItem", unfollowed := true, recurses := true, named := ["loop.example/g00912/impl.codeBounds"], apart := false, laid := [("loop.example/g00912/impl.codeBounds", laid_loop_example_g00912_impl_codeBounds)] }
def FnExactDropItemSaid : Prop := fnExactDropItemRow.holds Tryz.pinned (OpenSpec.ofChange fnExactDropItemSpec)

/-- ITS FALSE NEIGHBOUR: 'it returns false'. Refute it at one input. -/
def fnExactDropItemWrong : ChangeSpec := { name := "fnExactDropItem", vars := ["loop.example/g00912/impl.codeBounds"], fn := fun _ => fun
  | [d1, d2, d3, g1] => { results := [.lit (.bool false)], args := [d1, d2, d3], vars := [g1] }
  | _ => none }
def FnExactDropItemWrongFalsely : Prop := fnExactDropItemRow.holds Tryz.pinned (OpenSpec.ofChange fnExactDropItemWrong)

/-- 'laws.FnExactMoveItem': WHATEVER THE INPUT: true; the input reads as it did. -/
def fnExactMoveItemSpec : ChangeSpec := { name := "fnExactMoveItem", vars := ["loop.example/g00912/impl.codeBounds"], fn := fun _ => fun
  | [d1, d2, d3, d4, g1] => { results := [.lit (.bool true)], args := [d1, d2, d3, d4], vars := [g1] }
  | _ => none }
def fnExactMoveItemRow : OpenClaim := { program := "ytlghpbkchagoiaagreatdoor", sum := "7046d8fe159bee8bb749fdcb6895ed7c095f27bf4787a904c88127c07e1fe430", func := "loop.example/g00912/laws.FnExactMoveItem", spec := "fnExactMoveItem", unfollowed := true, recurses := true, named := ["loop.example/g00912/impl.codeBounds"], apart := false, laid := [("loop.example/g00912/impl.codeBounds", laid_loop_example_g00912_impl_codeBounds)] }
def FnExactMoveItemSaid : Prop := fnExactMoveItemRow.holds Tryz.pinned (OpenSpec.ofChange fnExactMoveItemSpec)

/-- ITS FALSE NEIGHBOUR: 'it returns false'. Refute it at one input. -/
def fnExactMoveItemWrong : ChangeSpec := { name := "fnExactMoveItem", vars := ["loop.example/g00912/impl.codeBounds"], fn := fun _ => fun
  | [d1, d2, d3, d4, g1] => { results := [.lit (.bool false)], args := [d1, d2, d3, d4], vars := [g1] }
  | _ => none }
def FnExactMoveItemWrongFalsely : Prop := fnExactMoveItemRow.holds Tryz.pinned (OpenSpec.ofChange fnExactMoveItemWrong)

/- THE SECOND FORM. 'bulk': how many values and letters a reading holds, each counted each time it is reached (what is shared counts as often as it is met; a slice's spare places count too). A statement '..UptoSaid' is the law's where the arguments, and the package variables that the reading takes, are together of bulk at most 1048576: NARROWER than '..Said'. Prove '..Said' where nothing that the law and all that it calls make is longer than what came in: it says more and counts as full. Else prove '..UptoSaid'. A law counts once. -/
mutual
def uptoBulk {H : Type} : DataW H → Nat
  | .lit (.string bytes) => bytes.length + 1
  | .lit _ => 1
  | .nil => 1
  | .ptr d => uptoBulk d + 1
  | .slice elems spare => uptoBulkAll elems + uptoBulkAll spare + 1
  | .agg parts => uptoBulkAll parts + 1
  | .iface _ d => uptoBulk d + 1
  | .map entries => uptoBulkEntries entries + 1
  | .held _ => 1
def uptoBulkAll {H : Type} : List (DataW H) → Nat
  | [] => 0
  | d :: r => uptoBulk d + uptoBulkAll r
def uptoBulkEntries {H : Type} : List (Lit × DataW H) → Nat
  | [] => 0
  | x :: r => uptoBulkEntry x + uptoBulkEntries r
def uptoBulkEntry {H : Type} : Lit × DataW H → Nat
  | (.string bytes, d) => bytes.length + uptoBulk d + 1
  | (_, d) => uptoBulk d + 1
 end
def uptoSmall : (H : Type) → List (DataW H) → Bool := fun _ ds => decide (uptoBulkAll ds ≤ 1048576)
def OpenSpec.upto (s : _root_.Go.ChangeSpec) : _root_.Go.OpenSpec := { _root_.Go.OpenSpec.ofChange s with cond := some uptoSmall }

/-- 'laws.FnExactBrokenRules', WHERE WHAT IT READS IS OF BULK AT MOST 1048576: true; the input reads as it did. -/
def fnExactBrokenRulesUptoRow : OpenClaim := { program := "ytlghpbkchagoiaagreatdoor", sum := "7046d8fe159bee8bb749fdcb6895ed7c095f27bf4787a904c88127c07e1fe430", func := "loop.example/g00912/laws.FnExactBrokenRules", spec := "fnExactBrokenRules", unfollowed := true, recurses := true, named := ["loop.example/g00912/impl.codeBounds"], apart := false, laid := [("loop.example/g00912/impl.codeBounds", laid_loop_example_g00912_impl_codeBounds)], narrowed := true }
def FnExactBrokenRulesUptoSaid : Prop := fnExactBrokenRulesUptoRow.holds Tryz.pinned (OpenSpec.upto fnExactBrokenRulesSpec)

/-- 'laws.FnExactIsProgramme', WHERE WHAT IT READS IS OF BULK AT MOST 1048576: true; the input reads as it did. -/
def fnExactIsProgrammeUptoRow : OpenClaim := { program := "ytlghpbkchagoiaagreatdoor", sum := "7046d8fe159bee8bb749fdcb6895ed7c095f27bf4787a904c88127c07e1fe430", func := "loop.example/g00912/laws.FnExactIsProgramme", spec := "fnExactIsProgramme", unfollowed := true, recurses := true, named := ["loop.example/g00912/impl.codeBounds"], apart := false, laid := [("loop.example/g00912/impl.codeBounds", laid_loop_example_g00912_impl_codeBounds)], narrowed := true }
def FnExactIsProgrammeUptoSaid : Prop := fnExactIsProgrammeUptoRow.holds Tryz.pinned (OpenSpec.upto fnExactIsProgrammeSpec)

/-- 'laws.FnExactInsertItem', WHERE WHAT IT READS IS OF BULK AT MOST 1048576: true; the input reads as it did. -/
def fnExactInsertItemUptoRow : OpenClaim := { program := "ytlghpbkchagoiaagreatdoor", sum := "7046d8fe159bee8bb749fdcb6895ed7c095f27bf4787a904c88127c07e1fe430", func := "loop.example/g00912/laws.FnExactInsertItem", spec := "fnExactInsertItem", unfollowed := true, recurses := true, named := ["loop.example/g00912/impl.codeBounds"], apart := false, laid := [("loop.example/g00912/impl.codeBounds", laid_loop_example_g00912_impl_codeBounds)], narrowed := true }
def FnExactInsertItemUptoSaid : Prop := fnExactInsertItemUptoRow.holds Tryz.pinned (OpenSpec.upto fnExactInsertItemSpec)

/-- 'laws.FnExactDropItem', WHERE WHAT IT READS IS OF BULK AT MOST 1048576: true; the input reads as it did. -/
def fnExactDropItemUptoRow : OpenClaim := { program := "ytlghpbkchagoiaagreatdoor", sum := "7046d8fe159bee8bb749fdcb6895ed7c095f27bf4787a904c88127c07e1fe430", func := "loop.example/g00912/laws.FnExactDropItem", spec := "fnExactDropItem", unfollowed := true, recurses := true, named := ["loop.example/g00912/impl.codeBounds"], apart := false, laid := [("loop.example/g00912/impl.codeBounds", laid_loop_example_g00912_impl_codeBounds)], narrowed := true }
def FnExactDropItemUptoSaid : Prop := fnExactDropItemUptoRow.holds Tryz.pinned (OpenSpec.upto fnExactDropItemSpec)

/-- 'laws.FnExactMoveItem', WHERE WHAT IT READS IS OF BULK AT MOST 1048576: true; the input reads as it did. -/
def fnExactMoveItemUptoRow : OpenClaim := { program := "ytlghpbkchagoiaagreatdoor", sum := "7046d8fe159bee8bb749fdcb6895ed7c095f27bf4787a904c88127c07e1fe430", func := "loop.example/g00912/laws.FnExactMoveItem", spec := "fnExactMoveItem", unfollowed := true, recurses := true, named := ["loop.example/g00912/impl.codeBounds"], apart := false, laid := [("loop.example/g00912/impl.codeBounds", laid_loop_example_g00912_impl_codeBounds)], narrowed := true }
def FnExactMoveItemUptoSaid : Prop := fnExactMoveItemUptoRow.holds Tryz.pinned (OpenSpec.upto fnExactMoveItemSpec)

end Rows
end Go.Proofs.YtlghpbkchagoiaaGreatDoor
