/-
  NARROWER THAN 'FOR EVERY INPUT', by the rows' own cells (each row's printed sentence says how): FnExactIsCode: laid · FnExactFindElement: laid · FnExactOfFamily: laid · FnExactLevelsOf: laid · FnExactGreatestBase: laid · FnExactAddElement: laid · FnExactDropElement: laid · FnExactScaleCode: laid · FnExactCodeText: laid.
  DERIVED. THE GIVEN ROWS OF THIS SEAT. 9 by the template 'for every input the law returns true; each argument reads behind the call as it read before'; 0 by the template 'total and deterministic' (their statements: YtmncigeelfappaaDoorTotals.lean).
  GIVEN WITH THE SEED: the statements are not yours to turn. If you find one false, say at which input.
  Laid BY PROGRAM, IN A SANDBOX (cutbox-rows.mjs): the forced cells as the released guide's own fill.sh prints them over the translation a16a641a4368c511… (all of the seat's roots in one cut). By AI agents, Wed Nov 11 2026. No macro, syntax, notation, axiom, sorry.
-/
import Derived.Test.YtmncigeelfappaaDoorChecked
import GoSem.Claim
import GoSem.ClaimJoined
import GoSem.ClaimMapViews
import Derived.JoinedTies
import Derived.KernelRfl
namespace Go.Proofs.YtmncigeelfappaaDoor
/- THE CELL 'sum', in the pinned program and in every row, IS THE sha256 OF THE DUMP (.gsa) THAT YtmncigeelfappaaDoorProg.lean LOADS. Nothing in Lean hashes anything: it is a label: what it is worth is what the hold of that sum in a sandbox is worth. -/
noncomputable def Tryd.pinned : Pinned := { name := "ytmncigeelfappaadoor", sum := "a16a641a4368c511e7d4a70798b252e91e93eacff2cf9cd60a2b69535d3b7582", checked := Tryd.checked }
namespace Rows
def none {H : Type} : Left H := { results := [], args := [] }

/- WHAT THE LISTED PACKAGE-LEVEL VARIABLES READ AS WHEN THE CALL BEGINS. Each datum BY PROGRAM (the guide's laid-datum.mjs) off the statement by which the dump's own 'gosem.cut.vars' lays the variable. In a bare row this is a premise. The card (YtmncigeelfappaaDoorCards.lean) ties it to the program's text. -/
def laid_loop_example_g00912_impl_codeBounds {H : Type} : DataW H := .agg [.agg [.lit (.int .i64 0), .lit (.int .i64 4)], .agg [.lit (.int .i64 0), .lit (.int .i64 4)], .agg [.lit (.int .i64 1), .lit (.int .i64 2000)], .agg [.lit (.int .i64 0), .lit (.int .i64 9)], .agg [.lit (.int .i64 1), .lit (.int .i64 3)], .agg [.lit (.int .i64 0), .lit (.int .i64 20)], .agg [.lit (.int .i64 50), .lit (.int .i64 100)], .agg [.lit (.int .i64 0), .lit (.int .i64 500)], .agg [.lit (.int .i64 1), .lit (.int .i64 200)]]
def laid_math_bits_deBruijn32tab {H : Type} : DataW H := .agg [.lit (.int .u8 0), .lit (.int .u8 1), .lit (.int .u8 28), .lit (.int .u8 2), .lit (.int .u8 29), .lit (.int .u8 14), .lit (.int .u8 24), .lit (.int .u8 3), .lit (.int .u8 30), .lit (.int .u8 22), .lit (.int .u8 20), .lit (.int .u8 15), .lit (.int .u8 25), .lit (.int .u8 17), .lit (.int .u8 4), .lit (.int .u8 8), .lit (.int .u8 31), .lit (.int .u8 27), .lit (.int .u8 13), .lit (.int .u8 23), .lit (.int .u8 21), .lit (.int .u8 19), .lit (.int .u8 16), .lit (.int .u8 7), .lit (.int .u8 26), .lit (.int .u8 12), .lit (.int .u8 18), .lit (.int .u8 6), .lit (.int .u8 11), .lit (.int .u8 5), .lit (.int .u8 10), .lit (.int .u8 9)]
def laid_math_bits_deBruijn64tab {H : Type} : DataW H := .agg [.lit (.int .u8 0), .lit (.int .u8 1), .lit (.int .u8 56), .lit (.int .u8 2), .lit (.int .u8 57), .lit (.int .u8 49), .lit (.int .u8 28), .lit (.int .u8 3), .lit (.int .u8 61), .lit (.int .u8 58), .lit (.int .u8 42), .lit (.int .u8 50), .lit (.int .u8 38), .lit (.int .u8 29), .lit (.int .u8 17), .lit (.int .u8 4), .lit (.int .u8 62), .lit (.int .u8 47), .lit (.int .u8 59), .lit (.int .u8 36), .lit (.int .u8 45), .lit (.int .u8 43), .lit (.int .u8 51), .lit (.int .u8 22), .lit (.int .u8 53), .lit (.int .u8 39), .lit (.int .u8 33), .lit (.int .u8 30), .lit (.int .u8 24), .lit (.int .u8 18), .lit (.int .u8 12), .lit (.int .u8 5), .lit (.int .u8 63), .lit (.int .u8 55), .lit (.int .u8 48), .lit (.int .u8 27), .lit (.int .u8 60), .lit (.int .u8 41), .lit (.int .u8 37), .lit (.int .u8 16), .lit (.int .u8 46), .lit (.int .u8 35), .lit (.int .u8 44), .lit (.int .u8 21), .lit (.int .u8 52), .lit (.int .u8 32), .lit (.int .u8 23), .lit (.int .u8 11), .lit (.int .u8 54), .lit (.int .u8 26), .lit (.int .u8 40), .lit (.int .u8 15), .lit (.int .u8 34), .lit (.int .u8 20), .lit (.int .u8 31), .lit (.int .u8 10), .lit (.int .u8 25), .lit (.int .u8 14), .lit (.int .u8 19), .lit (.int .u8 9), .lit (.int .u8 13), .lit (.int .u8 8), .lit (.int .u8 7), .lit (.int .u8 6)]
def laid_internal_strconv_uint64pow10 {H : Type} : DataW H := .agg [.lit (.int .u64 1), .lit (.int .u64 10), .lit (.int .u64 100), .lit (.int .u64 1000), .lit (.int .u64 10000), .lit (.int .u64 100000), .lit (.int .u64 1000000), .lit (.int .u64 10000000), .lit (.int .u64 100000000), .lit (.int .u64 1000000000), .lit (.int .u64 10000000000), .lit (.int .u64 100000000000), .lit (.int .u64 1000000000000), .lit (.int .u64 10000000000000), .lit (.int .u64 100000000000000), .lit (.int .u64 1000000000000000), .lit (.int .u64 10000000000000000), .lit (.int .u64 100000000000000000), .lit (.int .u64 1000000000000000000), .lit (.int .u64 10000000000000000000)]

/-- 'laws.FnExactIsCode': WHATEVER THE INPUT: true; the input reads as it did. -/
def fnExactIsCodeSpec : ChangeSpec := { name := "fnExactIsCode", vars := ["loop.example/g00912/impl.codeBounds"], fn := fun _ => fun
  | [d, g1] => { results := [.lit (.bool true)], args := [d], vars := [g1] }
  | _ => none }
def fnExactIsCodeRow : OpenClaim := { program := "ytmncigeelfappaadoor", sum := "a16a641a4368c511e7d4a70798b252e91e93eacff2cf9cd60a2b69535d3b7582", func := "loop.example/g00912/laws.FnExactIsCode", spec := "fnExactIsCode", named := ["loop.example/g00912/impl.codeBounds"], apart := false, laid := [("loop.example/g00912/impl.codeBounds", laid_loop_example_g00912_impl_codeBounds)] }
def FnExactIsCodeSaid : Prop := fnExactIsCodeRow.holds Tryd.pinned (OpenSpec.ofChange fnExactIsCodeSpec)

/-- ITS FALSE NEIGHBOUR: 'it returns false'. Refute it at one input. -/
def fnExactIsCodeWrong : ChangeSpec := { name := "fnExactIsCode", vars := ["loop.example/g00912/impl.codeBounds"], fn := fun _ => fun
  | [d, g1] => { results := [.lit (.bool false)], args := [d], vars := [g1] }
  | _ => none }
def FnExactIsCodeWrongFalsely : Prop := fnExactIsCodeRow.holds Tryd.pinned (OpenSpec.ofChange fnExactIsCodeWrong)

/-- 'laws.FnExactFindElement': WHATEVER THE INPUT: true; the input reads as it did. -/
def fnExactFindElementSpec : ChangeSpec := { name := "fnExactFindElement", vars := ["loop.example/g00912/impl.codeBounds"], fn := fun _ => fun
  | [d1, d2, g1] => { results := [.lit (.bool true)], args := [d1, d2], vars := [g1] }
  | _ => none }
def fnExactFindElementRow : OpenClaim := { program := "ytmncigeelfappaadoor", sum := "a16a641a4368c511e7d4a70798b252e91e93eacff2cf9cd60a2b69535d3b7582", func := "loop.example/g00912/laws.FnExactFindElement", spec := "fnExactFindElement", named := ["loop.example/g00912/impl.codeBounds"], apart := false, laid := [("loop.example/g00912/impl.codeBounds", laid_loop_example_g00912_impl_codeBounds)] }
def FnExactFindElementSaid : Prop := fnExactFindElementRow.holds Tryd.pinned (OpenSpec.ofChange fnExactFindElementSpec)

/-- ITS FALSE NEIGHBOUR: 'it returns false'. Refute it at one input. -/
def fnExactFindElementWrong : ChangeSpec := { name := "fnExactFindElement", vars := ["loop.example/g00912/impl.codeBounds"], fn := fun _ => fun
  | [d1, d2, g1] => { results := [.lit (.bool false)], args := [d1, d2], vars := [g1] }
  | _ => none }
def FnExactFindElementWrongFalsely : Prop := fnExactFindElementRow.holds Tryd.pinned (OpenSpec.ofChange fnExactFindElementWrong)

/-- 'laws.FnExactOfFamily': WHATEVER THE INPUT: true; the input reads as it did. -/
def fnExactOfFamilySpec : ChangeSpec := { name := "fnExactOfFamily", vars := ["loop.example/g00912/impl.codeBounds"], fn := fun _ => fun
  | [d1, d2, g1] => { results := [.lit (.bool true)], args := [d1, d2], vars := [g1] }
  | _ => none }
def fnExactOfFamilyRow : OpenClaim := { program := "ytmncigeelfappaadoor", sum := "a16a641a4368c511e7d4a70798b252e91e93eacff2cf9cd60a2b69535d3b7582", func := "loop.example/g00912/laws.FnExactOfFamily", spec := "fnExactOfFamily", named := ["loop.example/g00912/impl.codeBounds"], apart := false, laid := [("loop.example/g00912/impl.codeBounds", laid_loop_example_g00912_impl_codeBounds)] }
def FnExactOfFamilySaid : Prop := fnExactOfFamilyRow.holds Tryd.pinned (OpenSpec.ofChange fnExactOfFamilySpec)

/-- ITS FALSE NEIGHBOUR: 'it returns false'. Refute it at one input. -/
def fnExactOfFamilyWrong : ChangeSpec := { name := "fnExactOfFamily", vars := ["loop.example/g00912/impl.codeBounds"], fn := fun _ => fun
  | [d1, d2, g1] => { results := [.lit (.bool false)], args := [d1, d2], vars := [g1] }
  | _ => none }
def FnExactOfFamilyWrongFalsely : Prop := fnExactOfFamilyRow.holds Tryd.pinned (OpenSpec.ofChange fnExactOfFamilyWrong)

/-- 'laws.FnExactLevelsOf': WHATEVER THE INPUT: true; the input reads as it did. -/
def fnExactLevelsOfSpec : ChangeSpec := { name := "fnExactLevelsOf", vars := ["loop.example/g00912/impl.codeBounds"], fn := fun _ => fun
  | [d1, d2, g1] => { results := [.lit (.bool true)], args := [d1, d2], vars := [g1] }
  | _ => none }
def fnExactLevelsOfRow : OpenClaim := { program := "ytmncigeelfappaadoor", sum := "a16a641a4368c511e7d4a70798b252e91e93eacff2cf9cd60a2b69535d3b7582", func := "loop.example/g00912/laws.FnExactLevelsOf", spec := "fnExactLevelsOf", named := ["loop.example/g00912/impl.codeBounds"], apart := false, laid := [("loop.example/g00912/impl.codeBounds", laid_loop_example_g00912_impl_codeBounds)] }
def FnExactLevelsOfSaid : Prop := fnExactLevelsOfRow.holds Tryd.pinned (OpenSpec.ofChange fnExactLevelsOfSpec)

/-- ITS FALSE NEIGHBOUR: 'it returns false'. Refute it at one input. -/
def fnExactLevelsOfWrong : ChangeSpec := { name := "fnExactLevelsOf", vars := ["loop.example/g00912/impl.codeBounds"], fn := fun _ => fun
  | [d1, d2, g1] => { results := [.lit (.bool false)], args := [d1, d2], vars := [g1] }
  | _ => none }
def FnExactLevelsOfWrongFalsely : Prop := fnExactLevelsOfRow.holds Tryd.pinned (OpenSpec.ofChange fnExactLevelsOfWrong)

/-- 'laws.FnExactGreatestBase': WHATEVER THE INPUT: true; the input reads as it did. -/
def fnExactGreatestBaseSpec : ChangeSpec := { name := "fnExactGreatestBase", vars := ["loop.example/g00912/impl.codeBounds"], fn := fun _ => fun
  | [d1, d2, g1] => { results := [.lit (.bool true)], args := [d1, d2], vars := [g1] }
  | _ => none }
def fnExactGreatestBaseRow : OpenClaim := { program := "ytmncigeelfappaadoor", sum := "a16a641a4368c511e7d4a70798b252e91e93eacff2cf9cd60a2b69535d3b7582", func := "loop.example/g00912/laws.FnExactGreatestBase", spec := "fnExactGreatestBase", named := ["loop.example/g00912/impl.codeBounds"], apart := false, laid := [("loop.example/g00912/impl.codeBounds", laid_loop_example_g00912_impl_codeBounds)] }
def FnExactGreatestBaseSaid : Prop := fnExactGreatestBaseRow.holds Tryd.pinned (OpenSpec.ofChange fnExactGreatestBaseSpec)

/-- ITS FALSE NEIGHBOUR: 'it returns false'. Refute it at one input. -/
def fnExactGreatestBaseWrong : ChangeSpec := { name := "fnExactGreatestBase", vars := ["loop.example/g00912/impl.codeBounds"], fn := fun _ => fun
  | [d1, d2, g1] => { results := [.lit (.bool false)], args := [d1, d2], vars := [g1] }
  | _ => none }
def FnExactGreatestBaseWrongFalsely : Prop := fnExactGreatestBaseRow.holds Tryd.pinned (OpenSpec.ofChange fnExactGreatestBaseWrong)

/-- 'laws.FnExactAddElement': WHATEVER THE INPUT: true; the input reads as it did. -/
def fnExactAddElementSpec : ChangeSpec := { name := "fnExactAddElement", vars := ["loop.example/g00912/impl.codeBounds"], fn := fun _ => fun
  | [d1, d2, g1] => { results := [.lit (.bool true)], args := [d1, d2], vars := [g1] }
  | _ => none }
def fnExactAddElementRow : OpenClaim := { program := "ytmncigeelfappaadoor", sum := "a16a641a4368c511e7d4a70798b252e91e93eacff2cf9cd60a2b69535d3b7582", func := "loop.example/g00912/laws.FnExactAddElement", spec := "fnExactAddElement", inPlace := ["slices.overlaps[loop.example/g00912/impl.Element]"], named := ["loop.example/g00912/impl.codeBounds"], apart := false, laid := [("loop.example/g00912/impl.codeBounds", laid_loop_example_g00912_impl_codeBounds)] }
def FnExactAddElementSaid : Prop := fnExactAddElementRow.holds Tryd.pinned (OpenSpec.ofChange fnExactAddElementSpec)

/-- ITS FALSE NEIGHBOUR: 'it returns false'. Refute it at one input. -/
def fnExactAddElementWrong : ChangeSpec := { name := "fnExactAddElement", vars := ["loop.example/g00912/impl.codeBounds"], fn := fun _ => fun
  | [d1, d2, g1] => { results := [.lit (.bool false)], args := [d1, d2], vars := [g1] }
  | _ => none }
def FnExactAddElementWrongFalsely : Prop := fnExactAddElementRow.holds Tryd.pinned (OpenSpec.ofChange fnExactAddElementWrong)

/-- 'laws.FnExactDropElement': WHATEVER THE INPUT: true; the input reads as it did. -/
def fnExactDropElementSpec : ChangeSpec := { name := "fnExactDropElement", vars := ["loop.example/g00912/impl.codeBounds"], fn := fun _ => fun
  | [d1, d2, g1] => { results := [.lit (.bool true)], args := [d1, d2], vars := [g1] }
  | _ => none }
def fnExactDropElementRow : OpenClaim := { program := "ytmncigeelfappaadoor", sum := "a16a641a4368c511e7d4a70798b252e91e93eacff2cf9cd60a2b69535d3b7582", func := "loop.example/g00912/laws.FnExactDropElement", spec := "fnExactDropElement", named := ["loop.example/g00912/impl.codeBounds"], apart := false, laid := [("loop.example/g00912/impl.codeBounds", laid_loop_example_g00912_impl_codeBounds)] }
def FnExactDropElementSaid : Prop := fnExactDropElementRow.holds Tryd.pinned (OpenSpec.ofChange fnExactDropElementSpec)

/-- ITS FALSE NEIGHBOUR: 'it returns false'. Refute it at one input. -/
def fnExactDropElementWrong : ChangeSpec := { name := "fnExactDropElement", vars := ["loop.example/g00912/impl.codeBounds"], fn := fun _ => fun
  | [d1, d2, g1] => { results := [.lit (.bool false)], args := [d1, d2], vars := [g1] }
  | _ => none }
def FnExactDropElementWrongFalsely : Prop := fnExactDropElementRow.holds Tryd.pinned (OpenSpec.ofChange fnExactDropElementWrong)

/-- 'laws.FnExactScaleCode': WHATEVER THE INPUT: true; the input reads as it did. -/
def fnExactScaleCodeSpec : ChangeSpec := { name := "fnExactScaleCode", vars := ["loop.example/g00912/impl.codeBounds"], fn := fun _ => fun
  | [d1, d2, g1] => { results := [.lit (.bool true)], args := [d1, d2], vars := [g1] }
  | _ => none }
def fnExactScaleCodeRow : OpenClaim := { program := "ytmncigeelfappaadoor", sum := "a16a641a4368c511e7d4a70798b252e91e93eacff2cf9cd60a2b69535d3b7582", func := "loop.example/g00912/laws.FnExactScaleCode", spec := "fnExactScaleCode", named := ["loop.example/g00912/impl.codeBounds"], apart := false, laid := [("loop.example/g00912/impl.codeBounds", laid_loop_example_g00912_impl_codeBounds)] }
def FnExactScaleCodeSaid : Prop := fnExactScaleCodeRow.holds Tryd.pinned (OpenSpec.ofChange fnExactScaleCodeSpec)

/-- ITS FALSE NEIGHBOUR: 'it returns false'. Refute it at one input. -/
def fnExactScaleCodeWrong : ChangeSpec := { name := "fnExactScaleCode", vars := ["loop.example/g00912/impl.codeBounds"], fn := fun _ => fun
  | [d1, d2, g1] => { results := [.lit (.bool false)], args := [d1, d2], vars := [g1] }
  | _ => none }
def FnExactScaleCodeWrongFalsely : Prop := fnExactScaleCodeRow.holds Tryd.pinned (OpenSpec.ofChange fnExactScaleCodeWrong)

/-- 'laws.FnExactCodeText': WHATEVER THE INPUT: true; the input reads as it did. -/
def fnExactCodeTextSpec : ChangeSpec := { name := "fnExactCodeText", vars := ["loop.example/g00912/impl.codeBounds"], fn := fun _ => fun
  | [d, g1] => { results := [.lit (.bool true)], args := [d], vars := [g1] }
  | _ => none }
def fnExactCodeTextRow : OpenClaim := { program := "ytmncigeelfappaadoor", sum := "a16a641a4368c511e7d4a70798b252e91e93eacff2cf9cd60a2b69535d3b7582", func := "loop.example/g00912/laws.FnExactCodeText", spec := "fnExactCodeText", recurses := true, named := ["loop.example/g00912/impl.codeBounds", "internal/strconv.uint64pow10", "math/bits.deBruijn32tab", "math/bits.deBruijn64tab"], apart := false, laid := [("math/bits.deBruijn32tab", laid_math_bits_deBruijn32tab), ("math/bits.deBruijn64tab", laid_math_bits_deBruijn64tab), ("internal/strconv.uint64pow10", laid_internal_strconv_uint64pow10), ("loop.example/g00912/impl.codeBounds", laid_loop_example_g00912_impl_codeBounds)] }
def FnExactCodeTextSaid : Prop := fnExactCodeTextRow.holds Tryd.pinned (OpenSpec.ofChange fnExactCodeTextSpec)

/-- ITS FALSE NEIGHBOUR: 'it returns false'. Refute it at one input. -/
def fnExactCodeTextWrong : ChangeSpec := { name := "fnExactCodeText", vars := ["loop.example/g00912/impl.codeBounds"], fn := fun _ => fun
  | [d, g1] => { results := [.lit (.bool false)], args := [d], vars := [g1] }
  | _ => none }
def FnExactCodeTextWrongFalsely : Prop := fnExactCodeTextRow.holds Tryd.pinned (OpenSpec.ofChange fnExactCodeTextWrong)

/- THE SECOND FORM. 'bulk': how many values and letters a reading holds, each counted each time it is reached (what is shared counts as often as it is met; a slice's spare places count too). A statement '..UptoSaid' is the law's where the arguments, and the package variables that the reading takes, are together of bulk at most 1048576: NARROWER than '..Said'. Prove '..Said' where nothing that the law and all that it calls make is longer than what came in: it says more and counts as full. Else prove '..UptoSaid'. A law counts once. -/
mutual
def uptoBulk {H : Type} : DataW H → Nat
  | .lit (.string bytes) => bytes.length + 1
  | .lit _ => 1
  | .nil => 1
  | .ptr d => uptoBulk d + 1
  | .slice elems spare => uptoBulkAll elems + uptoBulkAll spare + 1
  | .agg parts => uptoBulkAll parts + 1
  | .iface _ d => uptoBulk d + 1
  | .map entries => uptoBulkEntries entries + 1
  | .held _ => 1
def uptoBulkAll {H : Type} : List (DataW H) → Nat
  | [] => 0
  | d :: r => uptoBulk d + uptoBulkAll r
def uptoBulkEntries {H : Type} : List (Lit × DataW H) → Nat
  | [] => 0
  | x :: r => uptoBulkEntry x + uptoBulkEntries r
def uptoBulkEntry {H : Type} : Lit × DataW H → Nat
  | (.string bytes, d) => bytes.length + uptoBulk d + 1
  | (_, d) => uptoBulk d + 1
 end
def uptoSmall : (H : Type) → List (DataW H) → Bool := fun _ ds => decide (uptoBulkAll ds ≤ 1048576)
def OpenSpec.upto (s : _root_.Go.ChangeSpec) : _root_.Go.OpenSpec := { _root_.Go.OpenSpec.ofChange s with cond := some uptoSmall }

/-- 'laws.FnExactIsCode', WHERE WHAT IT READS IS OF BULK AT MOST 1048576: true; the input reads as it did. -/
def fnExactIsCodeUptoRow : OpenClaim := { program := "ytmncigeelfappaadoor", sum := "a16a641a4368c511e7d4a70798b252e91e93eacff2cf9cd60a2b69535d3b7582", func := "loop.example/g00912/laws.FnExactIsCode", spec := "fnExactIsCode", named := ["loop.example/g00912/impl.codeBounds"], apart := false, laid := [("loop.example/g00912/impl.codeBounds", laid_loop_example_g00912_impl_codeBounds)], narrowed := true }
def FnExactIsCodeUptoSaid : Prop := fnExactIsCodeUptoRow.holds Tryd.pinned (OpenSpec.upto fnExactIsCodeSpec)

/-- 'laws.FnExactFindElement', WHERE WHAT IT READS IS OF BULK AT MOST 1048576: true; the input reads as it did. -/
def fnExactFindElementUptoRow : OpenClaim := { program := "ytmncigeelfappaadoor", sum := "a16a641a4368c511e7d4a70798b252e91e93eacff2cf9cd60a2b69535d3b7582", func := "loop.example/g00912/laws.FnExactFindElement", spec := "fnExactFindElement", named := ["loop.example/g00912/impl.codeBounds"], apart := false, laid := [("loop.example/g00912/impl.codeBounds", laid_loop_example_g00912_impl_codeBounds)], narrowed := true }
def FnExactFindElementUptoSaid : Prop := fnExactFindElementUptoRow.holds Tryd.pinned (OpenSpec.upto fnExactFindElementSpec)

/-- 'laws.FnExactOfFamily', WHERE WHAT IT READS IS OF BULK AT MOST 1048576: true; the input reads as it did. -/
def fnExactOfFamilyUptoRow : OpenClaim := { program := "ytmncigeelfappaadoor", sum := "a16a641a4368c511e7d4a70798b252e91e93eacff2cf9cd60a2b69535d3b7582", func := "loop.example/g00912/laws.FnExactOfFamily", spec := "fnExactOfFamily", named := ["loop.example/g00912/impl.codeBounds"], apart := false, laid := [("loop.example/g00912/impl.codeBounds", laid_loop_example_g00912_impl_codeBounds)], narrowed := true }
def FnExactOfFamilyUptoSaid : Prop := fnExactOfFamilyUptoRow.holds Tryd.pinned (OpenSpec.upto fnExactOfFamilySpec)

/-- 'laws.FnExactLevelsOf', WHERE WHAT IT READS IS OF BULK AT MOST 1048576: true; the input reads as it did. -/
def fnExactLevelsOfUptoRow : OpenClaim := { program := "ytmncigeelfappaadoor", sum := "a16a641a4368c511e7d4a70798b252e91e93eacff2cf9cd60a2b69535d3b7582", func := "loop.example/g00912/laws.FnExactLevelsOf", spec := "fnExactLevelsOf", named := ["loop.example/g00912/impl.codeBounds"], apart := false, laid := [("loop.example/g00912/impl.codeBounds", laid_loop_example_g00912_impl_codeBounds)], narrowed := true }
def FnExactLevelsOfUptoSaid : Prop := fnExactLevelsOfUptoRow.holds Tryd.pinned (OpenSpec.upto fnExactLevelsOfSpec)

/-- 'laws.FnExactGreatestBase', WHERE WHAT IT READS IS OF BULK AT MOST 1048576: true; the input reads as it did. -/
def fnExactGreatestBaseUptoRow : OpenClaim := { program := "ytmncigeelfappaadoor", sum := "a16a641a4368c511e7d4a70798b252e91e93eacff2cf9cd60a2b69535d3b7582", func := "loop.example/g00912/laws.FnExactGreatestBase", spec := "fnExactGreatestBase", named := ["loop.example/g00912/impl.codeBounds"], apart := false, laid := [("loop.example/g00912/impl.codeBounds", laid_loop_example_g00912_impl_codeBounds)], narrowed := true }
def FnExactGreatestBaseUptoSaid : Prop := fnExactGreatestBaseUptoRow.holds Tryd.pinned (OpenSpec.upto fnExactGreatestBaseSpec)

/-- 'laws.FnExactAddElement', WHERE WHAT IT READS IS OF BULK AT MOST 1048576: true; the input reads as it did. -/
def fnExactAddElementUptoRow : OpenClaim := { program := "ytmncigeelfappaadoor", sum := "a16a641a4368c511e7d4a70798b252e91e93eacff2cf9cd60a2b69535d3b7582", func := "loop.example/g00912/laws.FnExactAddElement", spec := "fnExactAddElement", inPlace := ["slices.overlaps[loop.example/g00912/impl.Element]"], named := ["loop.example/g00912/impl.codeBounds"], apart := false, laid := [("loop.example/g00912/impl.codeBounds", laid_loop_example_g00912_impl_codeBounds)], narrowed := true }
def FnExactAddElementUptoSaid : Prop := fnExactAddElementUptoRow.holds Tryd.pinned (OpenSpec.upto fnExactAddElementSpec)

/-- 'laws.FnExactDropElement', WHERE WHAT IT READS IS OF BULK AT MOST 1048576: true; the input reads as it did. -/
def fnExactDropElementUptoRow : OpenClaim := { program := "ytmncigeelfappaadoor", sum := "a16a641a4368c511e7d4a70798b252e91e93eacff2cf9cd60a2b69535d3b7582", func := "loop.example/g00912/laws.FnExactDropElement", spec := "fnExactDropElement", named := ["loop.example/g00912/impl.codeBounds"], apart := false, laid := [("loop.example/g00912/impl.codeBounds", laid_loop_example_g00912_impl_codeBounds)], narrowed := true }
def FnExactDropElementUptoSaid : Prop := fnExactDropElementUptoRow.holds Tryd.pinned (OpenSpec.upto fnExactDropElementSpec)

/-- 'laws.FnExactScaleCode', WHERE WHAT IT READS IS OF BULK AT MOST 1048576: true; the input reads as it did. -/
def fnExactScaleCodeUptoRow : OpenClaim := { program := "ytmncigeelfappaadoor", sum := "a16a641a4368c511e7d4a70798b252e91e93eacff2cf9cd60a2b69535d3b7582", func := "loop.example/g00912/laws.FnExactScaleCode", spec := "fnExactScaleCode", named := ["loop.example/g00912/impl.codeBounds"], apart := false, laid := [("loop.example/g00912/impl.codeBounds", laid_loop_example_g00912_impl_codeBounds)], narrowed := true }
def FnExactScaleCodeUptoSaid : Prop := fnExactScaleCodeUptoRow.holds Tryd.pinned (OpenSpec.upto fnExactScaleCodeSpec)

/-- 'laws.FnExactCodeText', WHERE WHAT IT READS IS OF BULK AT MOST 1048576: true; the input reads as it did. -/
def fnExactCodeTextUptoRow : OpenClaim := { program := "ytmncigeelfappaadoor", sum := "a16a641a4368c511e7d4a70798b252e91e93eacff2cf9cd60a2b69535d3b7582", func := "loop.example/g00912/laws.FnExactCodeText", spec := "fnExactCodeText", recurses := true, named := ["loop.example/g00912/impl.codeBounds", "internal/strconv.uint64pow10", "math/bits.deBruijn32tab", "math/bits.deBruijn64tab"], apart := false, laid := [("math/bits.deBruijn32tab", laid_math_bits_deBruijn32tab), ("math/bits.deBruijn64tab", laid_math_bits_deBruijn64tab), ("internal/strconv.uint64pow10", laid_internal_strconv_uint64pow10), ("loop.example/g00912/impl.codeBounds", laid_loop_example_g00912_impl_codeBounds)], narrowed := true }
def FnExactCodeTextUptoSaid : Prop := fnExactCodeTextUptoRow.holds Tryd.pinned (OpenSpec.upto fnExactCodeTextSpec)

end Rows
end Go.Proofs.YtmncigeelfappaaDoor
