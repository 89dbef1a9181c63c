/-
  NARROWER THAN 'FOR EVERY INPUT', by the rows' own cells (each row's printed sentence says how): FnExactBestSingles: laid · FnExactSinglesBase: laid · FnExactOrderForLate: laid · FnExactReplaceGain: laid · FnExactBestReplace: laid.
  DERIVED. THE GIVEN ROWS OF THIS SEAT. 5 by the template 'for every input the law returns true; each argument reads behind the call as it read before'; 0 by the template 'total and deterministic' (their statements: YtjmdaecjgiafoaaGreatDoorTotals.lean).
  GIVEN WITH THE SEED: the statements are not yours to turn. If you find one false, say at which input.
  Laid BY PROGRAM, IN A SANDBOX (cutbox-rows.mjs): the forced cells as the released guide's own fill.sh prints them over the translation b66c22951b3cd7bb… (all of the seat's roots in one cut). By AI agents, Wed Nov 11 2026. No macro, syntax, notation, axiom, sorry.
-/
import Derived.Test.YtjmdaecjgiafoaaGreatDoorChecked
import GoSem.Claim
import GoSem.ClaimJoined
import GoSem.ClaimMapViews
import Derived.JoinedTies
import Derived.KernelRfl
namespace Go.Proofs.YtjmdaecjgiafoaaGreatDoor
/- THE CELL 'sum', in the pinned program and in every row, IS THE sha256 OF THE DUMP (.gsa) THAT YtjmdaecjgiafoaaGreatDoorProg.lean LOADS. Nothing in Lean hashes anything: it is a label: what it is worth is what the hold of that sum in a sandbox is worth. -/
noncomputable def Tryz.pinned : Pinned := { name := "ytjmdaecjgiafoaagreatdoor", sum := "b66c22951b3cd7bb936783e0f00c86ba6a29bf76ae25dbfc3b144d8b9f0e3259", checked := Tryz.checked }
namespace Rows
def none {H : Type} : Left H := { results := [], args := [] }

/- WHAT THE LISTED PACKAGE-LEVEL VARIABLES READ AS WHEN THE CALL BEGINS. Each datum BY PROGRAM (the guide's laid-datum.mjs) off the statement by which the dump's own 'gosem.cut.vars' lays the variable. In a bare row this is a premise. The card (YtjmdaecjgiafoaaGreatDoorCards.lean) ties it to the program's text. -/
def laid_loop_example_g00912_impl_codeBounds {H : Type} : DataW H := .agg [.agg [.lit (.int .i64 0), .lit (.int .i64 4)], .agg [.lit (.int .i64 0), .lit (.int .i64 4)], .agg [.lit (.int .i64 1), .lit (.int .i64 2000)], .agg [.lit (.int .i64 0), .lit (.int .i64 9)], .agg [.lit (.int .i64 1), .lit (.int .i64 3)], .agg [.lit (.int .i64 0), .lit (.int .i64 20)], .agg [.lit (.int .i64 50), .lit (.int .i64 100)], .agg [.lit (.int .i64 0), .lit (.int .i64 500)], .agg [.lit (.int .i64 1), .lit (.int .i64 200)]]

/-- 'laws.FnExactBestSingles': WHATEVER THE INPUT: true; the input reads as it did. -/
def fnExactBestSinglesSpec : ChangeSpec := { name := "fnExactBestSingles", vars := ["loop.example/g00912/impl.codeBounds"], fn := fun _ => fun
  | [d1, d2, g1] => { results := [.lit (.bool true)], args := [d1, d2], vars := [g1] }
  | _ => none }
def fnExactBestSinglesRow : OpenClaim := { program := "ytjmdaecjgiafoaagreatdoor", sum := "b66c22951b3cd7bb936783e0f00c86ba6a29bf76ae25dbfc3b144d8b9f0e3259", func := "loop.example/g00912/laws.FnExactBestSingles", spec := "fnExactBestSingles", unfollowed := true, recurses := true, named := ["loop.example/g00912/impl.codeBounds"], apart := false, laid := [("loop.example/g00912/impl.codeBounds", laid_loop_example_g00912_impl_codeBounds)] }
def FnExactBestSinglesSaid : Prop := fnExactBestSinglesRow.holds Tryz.pinned (OpenSpec.ofChange fnExactBestSinglesSpec)

/-- ITS FALSE NEIGHBOUR: 'it returns false'. Refute it at one input. -/
def fnExactBestSinglesWrong : ChangeSpec := { name := "fnExactBestSingles", vars := ["loop.example/g00912/impl.codeBounds"], fn := fun _ => fun
  | [d1, d2, g1] => { results := [.lit (.bool false)], args := [d1, d2], vars := [g1] }
  | _ => none }
def FnExactBestSinglesWrongFalsely : Prop := fnExactBestSinglesRow.holds Tryz.pinned (OpenSpec.ofChange fnExactBestSinglesWrong)

/-- 'laws.FnExactSinglesBase': WHATEVER THE INPUT: true; the input reads as it did. -/
def fnExactSinglesBaseSpec : ChangeSpec := { name := "fnExactSinglesBase", vars := ["loop.example/g00912/impl.codeBounds"], fn := fun _ => fun
  | [d1, d2, g1] => { results := [.lit (.bool true)], args := [d1, d2], vars := [g1] }
  | _ => none }
def fnExactSinglesBaseRow : OpenClaim := { program := "ytjmdaecjgiafoaagreatdoor", sum := "b66c22951b3cd7bb936783e0f00c86ba6a29bf76ae25dbfc3b144d8b9f0e3259", func := "loop.example/g00912/laws.FnExactSinglesBase", spec := "fnExactSinglesBase", unfollowed := true, recurses := true, named := ["loop.example/g00912/impl.codeBounds"], apart := false, laid := [("loop.example/g00912/impl.codeBounds", laid_loop_example_g00912_impl_codeBounds)] }
def FnExactSinglesBaseSaid : Prop := fnExactSinglesBaseRow.holds Tryz.pinned (OpenSpec.ofChange fnExactSinglesBaseSpec)

/-- ITS FALSE NEIGHBOUR: 'it returns false'. Refute it at one input. -/
def fnExactSinglesBaseWrong : ChangeSpec := { name := "fnExactSinglesBase", vars := ["loop.example/g00912/impl.codeBounds"], fn := fun _ => fun
  | [d1, d2, g1] => { results := [.lit (.bool false)], args := [d1, d2], vars := [g1] }
  | _ => none }
def FnExactSinglesBaseWrongFalsely : Prop := fnExactSinglesBaseRow.holds Tryz.pinned (OpenSpec.ofChange fnExactSinglesBaseWrong)

/-- 'laws.FnExactOrderForLate': WHATEVER THE INPUT: true; the input reads as it did. -/
def fnExactOrderForLateSpec : ChangeSpec := { name := "fnExactOrderForLate", vars := ["loop.example/g00912/impl.codeBounds"], fn := fun _ => fun
  | [d1, d2, g1] => { results := [.lit (.bool true)], args := [d1, d2], vars := [g1] }
  | _ => none }
def fnExactOrderForLateRow : OpenClaim := { program := "ytjmdaecjgiafoaagreatdoor", sum := "b66c22951b3cd7bb936783e0f00c86ba6a29bf76ae25dbfc3b144d8b9f0e3259", func := "loop.example/g00912/laws.FnExactOrderForLate", spec := "fnExactOrderForLate", unfollowed := true, recurses := true, named := ["loop.example/g00912/impl.codeBounds"], apart := false, laid := [("loop.example/g00912/impl.codeBounds", laid_loop_example_g00912_impl_codeBounds)] }
def FnExactOrderForLateSaid : Prop := fnExactOrderForLateRow.holds Tryz.pinned (OpenSpec.ofChange fnExactOrderForLateSpec)

/-- ITS FALSE NEIGHBOUR: 'it returns false'. Refute it at one input. -/
def fnExactOrderForLateWrong : ChangeSpec := { name := "fnExactOrderForLate", vars := ["loop.example/g00912/impl.codeBounds"], fn := fun _ => fun
  | [d1, d2, g1] => { results := [.lit (.bool false)], args := [d1, d2], vars := [g1] }
  | _ => none }
def FnExactOrderForLateWrongFalsely : Prop := fnExactOrderForLateRow.holds Tryz.pinned (OpenSpec.ofChange fnExactOrderForLateWrong)

/-- 'laws.FnExactReplaceGain': WHATEVER THE INPUT: true; the input reads as it did. -/
def fnExactReplaceGainSpec : ChangeSpec := { name := "fnExactReplaceGain", vars := ["loop.example/g00912/impl.codeBounds"], fn := fun _ => fun
  | [d1, d2, d3, d4, g1] => { results := [.lit (.bool true)], args := [d1, d2, d3, d4], vars := [g1] }
  | _ => none }
def fnExactReplaceGainRow : OpenClaim := { program := "ytjmdaecjgiafoaagreatdoor", sum := "b66c22951b3cd7bb936783e0f00c86ba6a29bf76ae25dbfc3b144d8b9f0e3259", func := "loop.example/g00912/laws.FnExactReplaceGain", spec := "fnExactReplaceGain", unfollowed := true, recurses := true, named := ["loop.example/g00912/impl.codeBounds"], apart := false, laid := [("loop.example/g00912/impl.codeBounds", laid_loop_example_g00912_impl_codeBounds)] }
def FnExactReplaceGainSaid : Prop := fnExactReplaceGainRow.holds Tryz.pinned (OpenSpec.ofChange fnExactReplaceGainSpec)

/-- ITS FALSE NEIGHBOUR: 'it returns false'. Refute it at one input. -/
def fnExactReplaceGainWrong : ChangeSpec := { name := "fnExactReplaceGain", vars := ["loop.example/g00912/impl.codeBounds"], fn := fun _ => fun
  | [d1, d2, d3, d4, g1] => { results := [.lit (.bool false)], args := [d1, d2, d3, d4], vars := [g1] }
  | _ => none }
def FnExactReplaceGainWrongFalsely : Prop := fnExactReplaceGainRow.holds Tryz.pinned (OpenSpec.ofChange fnExactReplaceGainWrong)

/-- 'laws.FnExactBestReplace': WHATEVER THE INPUT: true; the input reads as it did. -/
def fnExactBestReplaceSpec : ChangeSpec := { name := "fnExactBestReplace", vars := ["loop.example/g00912/impl.codeBounds"], fn := fun _ => fun
  | [d1, d2, g1] => { results := [.lit (.bool true)], args := [d1, d2], vars := [g1] }
  | _ => none }
def fnExactBestReplaceRow : OpenClaim := { program := "ytjmdaecjgiafoaagreatdoor", sum := "b66c22951b3cd7bb936783e0f00c86ba6a29bf76ae25dbfc3b144d8b9f0e3259", func := "loop.example/g00912/laws.FnExactBestReplace", spec := "fnExactBestReplace", unfollowed := true, recurses := true, named := ["loop.example/g00912/impl.codeBounds"], apart := false, laid := [("loop.example/g00912/impl.codeBounds", laid_loop_example_g00912_impl_codeBounds)] }
def FnExactBestReplaceSaid : Prop := fnExactBestReplaceRow.holds Tryz.pinned (OpenSpec.ofChange fnExactBestReplaceSpec)

/-- ITS FALSE NEIGHBOUR: 'it returns false'. Refute it at one input. -/
def fnExactBestReplaceWrong : ChangeSpec := { name := "fnExactBestReplace", vars := ["loop.example/g00912/impl.codeBounds"], fn := fun _ => fun
  | [d1, d2, g1] => { results := [.lit (.bool false)], args := [d1, d2], vars := [g1] }
  | _ => none }
def FnExactBestReplaceWrongFalsely : Prop := fnExactBestReplaceRow.holds Tryz.pinned (OpenSpec.ofChange fnExactBestReplaceWrong)

/- THE SECOND FORM. 'bulk': how many values and letters a reading holds, each counted each time it is reached (what is shared counts as often as it is met; a slice's spare places count too). A statement '..UptoSaid' is the law's where the arguments, and the package variables that the reading takes, are together of bulk at most 1048576: NARROWER than '..Said'. Prove '..Said' where nothing that the law and all that it calls make is longer than what came in: it says more and counts as full. Else prove '..UptoSaid'. A law counts once. -/
mutual
def uptoBulk {H : Type} : DataW H → Nat
  | .lit (.string bytes) => bytes.length + 1
  | .lit _ => 1
  | .nil => 1
  | .ptr d => uptoBulk d + 1
  | .slice elems spare => uptoBulkAll elems + uptoBulkAll spare + 1
  | .agg parts => uptoBulkAll parts + 1
  | .iface _ d => uptoBulk d + 1
  | .map entries => uptoBulkEntries entries + 1
  | .held _ => 1
def uptoBulkAll {H : Type} : List (DataW H) → Nat
  | [] => 0
  | d :: r => uptoBulk d + uptoBulkAll r
def uptoBulkEntries {H : Type} : List (Lit × DataW H) → Nat
  | [] => 0
  | x :: r => uptoBulkEntry x + uptoBulkEntries r
def uptoBulkEntry {H : Type} : Lit × DataW H → Nat
  | (.string bytes, d) => bytes.length + uptoBulk d + 1
  | (_, d) => uptoBulk d + 1
 end
def uptoSmall : (H : Type) → List (DataW H) → Bool := fun _ ds => decide (uptoBulkAll ds ≤ 1048576)
def OpenSpec.upto (s : _root_.Go.ChangeSpec) : _root_.Go.OpenSpec := { _root_.Go.OpenSpec.ofChange s with cond := some uptoSmall }

/-- 'laws.FnExactBestSingles', WHERE WHAT IT READS IS OF BULK AT MOST 1048576: true; the input reads as it did. -/
def fnExactBestSinglesUptoRow : OpenClaim := { program := "ytjmdaecjgiafoaagreatdoor", sum := "b66c22951b3cd7bb936783e0f00c86ba6a29bf76ae25dbfc3b144d8b9f0e3259", func := "loop.example/g00912/laws.FnExactBestSingles", spec := "fnExactBestSingles", unfollowed := true, recurses := true, named := ["loop.example/g00912/impl.codeBounds"], apart := false, laid := [("loop.example/g00912/impl.codeBounds", laid_loop_example_g00912_impl_codeBounds)], narrowed := true }
def FnExactBestSinglesUptoSaid : Prop := fnExactBestSinglesUptoRow.holds Tryz.pinned (OpenSpec.upto fnExactBestSinglesSpec)

/-- 'laws.FnExactSinglesBase', WHERE WHAT IT READS IS OF BULK AT MOST 1048576: true; the input reads as it did. -/
def fnExactSinglesBaseUptoRow : OpenClaim := { program := "ytjmdaecjgiafoaagreatdoor", sum := "b66c22951b3cd7bb936783e0f00c86ba6a29bf76ae25dbfc3b144d8b9f0e3259", func := "loop.example/g00912/laws.FnExactSinglesBase", spec := "fnExactSinglesBase", unfollowed := true, recurses := true, named := ["loop.example/g00912/impl.codeBounds"], apart := false, laid := [("loop.example/g00912/impl.codeBounds", laid_loop_example_g00912_impl_codeBounds)], narrowed := true }
def FnExactSinglesBaseUptoSaid : Prop := fnExactSinglesBaseUptoRow.holds Tryz.pinned (OpenSpec.upto fnExactSinglesBaseSpec)

/-- 'laws.FnExactOrderForLate', WHERE WHAT IT READS IS OF BULK AT MOST 1048576: true; the input reads as it did. -/
def fnExactOrderForLateUptoRow : OpenClaim := { program := "ytjmdaecjgiafoaagreatdoor", sum := "b66c22951b3cd7bb936783e0f00c86ba6a29bf76ae25dbfc3b144d8b9f0e3259", func := "loop.example/g00912/laws.FnExactOrderForLate", spec := "fnExactOrderForLate", unfollowed := true, recurses := true, named := ["loop.example/g00912/impl.codeBounds"], apart := false, laid := [("loop.example/g00912/impl.codeBounds", laid_loop_example_g00912_impl_codeBounds)], narrowed := true }
def FnExactOrderForLateUptoSaid : Prop := fnExactOrderForLateUptoRow.holds Tryz.pinned (OpenSpec.upto fnExactOrderForLateSpec)

/-- 'laws.FnExactReplaceGain', WHERE WHAT IT READS IS OF BULK AT MOST 1048576: true; the input reads as it did. -/
def fnExactReplaceGainUptoRow : OpenClaim := { program := "ytjmdaecjgiafoaagreatdoor", sum := "b66c22951b3cd7bb936783e0f00c86ba6a29bf76ae25dbfc3b144d8b9f0e3259", func := "loop.example/g00912/laws.FnExactReplaceGain", spec := "fnExactReplaceGain", unfollowed := true, recurses := true, named := ["loop.example/g00912/impl.codeBounds"], apart := false, laid := [("loop.example/g00912/impl.codeBounds", laid_loop_example_g00912_impl_codeBounds)], narrowed := true }
def FnExactReplaceGainUptoSaid : Prop := fnExactReplaceGainUptoRow.holds Tryz.pinned (OpenSpec.upto fnExactReplaceGainSpec)

/-- 'laws.FnExactBestReplace', WHERE WHAT IT READS IS OF BULK AT MOST 1048576: true; the input reads as it did. -/
def fnExactBestReplaceUptoRow : OpenClaim := { program := "ytjmdaecjgiafoaagreatdoor", sum := "b66c22951b3cd7bb936783e0f00c86ba6a29bf76ae25dbfc3b144d8b9f0e3259", func := "loop.example/g00912/laws.FnExactBestReplace", spec := "fnExactBestReplace", unfollowed := true, recurses := true, named := ["loop.example/g00912/impl.codeBounds"], apart := false, laid := [("loop.example/g00912/impl.codeBounds", laid_loop_example_g00912_impl_codeBounds)], narrowed := true }
def FnExactBestReplaceUptoSaid : Prop := fnExactBestReplaceUptoRow.holds Tryz.pinned (OpenSpec.upto fnExactBestReplaceSpec)

end Rows
end Go.Proofs.YtjmdaecjgiafoaaGreatDoor
