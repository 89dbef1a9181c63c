/-
  No cell of these rows narrows 'for every input' (looked for: loops, veiled, ifaces, maps, wideKeys, modest, calm, conditions, laid).
  DERIVED. THE GIVEN ROWS OF THIS SEAT. 10 by the template 'for every input the law returns true; each argument reads behind the call as it read before'; 0 by the template 'total and deterministic' (their statements: YtjnimmjlmfhpdaaTotals.lean).
  GIVEN WITH THE SEED: the statements are not yours to turn. If you find one false, say at which input.
  Laid BY PROGRAM, IN A SANDBOX (cutbox-rows.mjs): the forced cells as the released guide's own fill.sh prints them over the translation ce086070aefd56cc… (all of the seat's roots in one cut). By AI agents, Wed Nov 11 2026. No macro, syntax, notation, axiom, sorry.
-/
import Derived.Test.YtjnimmjlmfhpdaaChecked
import GoSem.Claim
import GoSem.ClaimJoined
import GoSem.ClaimMapViews
import Derived.JoinedTies
import Derived.KernelRfl
namespace Go.Proofs.Ytjnimmjlmfhpdaa
/- THE CELL 'sum', in the pinned program and in every row, IS THE sha256 OF THE DUMP (.gsa) THAT YtjnimmjlmfhpdaaProg.lean LOADS. Nothing in Lean hashes anything: it is a label: what it is worth is what the hold of that sum in a sandbox is worth. -/
noncomputable def Try.pinned : Pinned := { name := "ytjnimmjlmfhpdaa", sum := "ce086070aefd56cc87a0ae1110ff55c44f966f39a36f81c537c65e4560873d0f", checked := Try.checked }
namespace Rows
def none {H : Type} : Left H := { results := [], args := [] }

/-- 'laws.FnExactIsName': WHATEVER THE INPUT: true; the input reads as it did. -/
def fnExactIsNameSpec : ChangeSpec := { name := "fnExactIsName", fn := fun _ => fun
  | [d] => { results := [.lit (.bool true)], args := [d] }
  | _ => none }
def fnExactIsNameRow : OpenClaim := { program := "ytjnimmjlmfhpdaa", sum := "ce086070aefd56cc87a0ae1110ff55c44f966f39a36f81c537c65e4560873d0f", func := "loop.example/g00912/laws.FnExactIsName", spec := "fnExactIsName", apart := false }
def FnExactIsNameSaid : Prop := fnExactIsNameRow.holds Try.pinned (OpenSpec.ofChange fnExactIsNameSpec)

/-- ITS FALSE NEIGHBOUR: 'it returns false'. Refute it at one input. -/
def fnExactIsNameWrong : ChangeSpec := { name := "fnExactIsName", fn := fun _ => fun
  | [d] => { results := [.lit (.bool false)], args := [d] }
  | _ => none }
def FnExactIsNameWrongFalsely : Prop := fnExactIsNameRow.holds Try.pinned (OpenSpec.ofChange fnExactIsNameWrong)

/-- 'laws.FnExactIsItem': WHATEVER THE INPUT: true; the input reads as it did. -/
def fnExactIsItemSpec : ChangeSpec := { name := "fnExactIsItem", fn := fun _ => fun
  | [d] => { results := [.lit (.bool true)], args := [d] }
  | _ => none }
def fnExactIsItemRow : OpenClaim := { program := "ytjnimmjlmfhpdaa", sum := "ce086070aefd56cc87a0ae1110ff55c44f966f39a36f81c537c65e4560873d0f", func := "loop.example/g00912/laws.FnExactIsItem", spec := "fnExactIsItem", apart := false }
def FnExactIsItemSaid : Prop := fnExactIsItemRow.holds Try.pinned (OpenSpec.ofChange fnExactIsItemSpec)

/-- ITS FALSE NEIGHBOUR: 'it returns false'. Refute it at one input. -/
def fnExactIsItemWrong : ChangeSpec := { name := "fnExactIsItem", fn := fun _ => fun
  | [d] => { results := [.lit (.bool false)], args := [d] }
  | _ => none }
def FnExactIsItemWrongFalsely : Prop := fnExactIsItemRow.holds Try.pinned (OpenSpec.ofChange fnExactIsItemWrong)

/-- 'laws.FnExactAreItems': WHATEVER THE INPUT: true; the input reads as it did. -/
def fnExactAreItemsSpec : ChangeSpec := { name := "fnExactAreItems", fn := fun _ => fun
  | [d] => { results := [.lit (.bool true)], args := [d] }
  | _ => none }
def fnExactAreItemsRow : OpenClaim := { program := "ytjnimmjlmfhpdaa", sum := "ce086070aefd56cc87a0ae1110ff55c44f966f39a36f81c537c65e4560873d0f", func := "loop.example/g00912/laws.FnExactAreItems", spec := "fnExactAreItems", apart := false }
def FnExactAreItemsSaid : Prop := fnExactAreItemsRow.holds Try.pinned (OpenSpec.ofChange fnExactAreItemsSpec)

/-- ITS FALSE NEIGHBOUR: 'it returns false'. Refute it at one input. -/
def fnExactAreItemsWrong : ChangeSpec := { name := "fnExactAreItems", fn := fun _ => fun
  | [d] => { results := [.lit (.bool false)], args := [d] }
  | _ => none }
def FnExactAreItemsWrongFalsely : Prop := fnExactAreItemsRow.holds Try.pinned (OpenSpec.ofChange fnExactAreItemsWrong)

/-- 'laws.FnExactItemText': WHATEVER THE INPUT: true; the input reads as it did. -/
def fnExactItemTextSpec : ChangeSpec := { name := "fnExactItemText", fn := fun _ => fun
  | [d] => { results := [.lit (.bool true)], args := [d] }
  | _ => none }
def fnExactItemTextRow : OpenClaim := { program := "ytjnimmjlmfhpdaa", sum := "ce086070aefd56cc87a0ae1110ff55c44f966f39a36f81c537c65e4560873d0f", func := "loop.example/g00912/laws.FnExactItemText", spec := "fnExactItemText", inPlace := ["internal/abi.NoEscape", "internal/bytealg.MakeNoZero"], apart := false }
def FnExactItemTextSaid : Prop := fnExactItemTextRow.holds Try.pinned (OpenSpec.ofChange fnExactItemTextSpec)

/-- ITS FALSE NEIGHBOUR: 'it returns false'. Refute it at one input. -/
def fnExactItemTextWrong : ChangeSpec := { name := "fnExactItemText", fn := fun _ => fun
  | [d] => { results := [.lit (.bool false)], args := [d] }
  | _ => none }
def FnExactItemTextWrongFalsely : Prop := fnExactItemTextRow.holds Try.pinned (OpenSpec.ofChange fnExactItemTextWrong)

/-- 'laws.FnExactItemsText': WHATEVER THE INPUT: true; the input reads as it did. -/
def fnExactItemsTextSpec : ChangeSpec := { name := "fnExactItemsText", fn := fun _ => fun
  | [d] => { results := [.lit (.bool true)], args := [d] }
  | _ => none }
def fnExactItemsTextRow : OpenClaim := { program := "ytjnimmjlmfhpdaa", sum := "ce086070aefd56cc87a0ae1110ff55c44f966f39a36f81c537c65e4560873d0f", func := "loop.example/g00912/laws.FnExactItemsText", spec := "fnExactItemsText", inPlace := ["internal/abi.NoEscape", "internal/bytealg.MakeNoZero"], apart := false }
def FnExactItemsTextSaid : Prop := fnExactItemsTextRow.holds Try.pinned (OpenSpec.ofChange fnExactItemsTextSpec)

/-- ITS FALSE NEIGHBOUR: 'it returns false'. Refute it at one input. -/
def fnExactItemsTextWrong : ChangeSpec := { name := "fnExactItemsText", fn := fun _ => fun
  | [d] => { results := [.lit (.bool false)], args := [d] }
  | _ => none }
def FnExactItemsTextWrongFalsely : Prop := fnExactItemsTextRow.holds Try.pinned (OpenSpec.ofChange fnExactItemsTextWrong)

/-- 'laws.FnExactFirstWrong': WHATEVER THE INPUT: true; the input reads as it did. -/
def fnExactFirstWrongSpec : ChangeSpec := { name := "fnExactFirstWrong", fn := fun _ => fun
  | [d] => { results := [.lit (.bool true)], args := [d] }
  | _ => none }
def fnExactFirstWrongRow : OpenClaim := { program := "ytjnimmjlmfhpdaa", sum := "ce086070aefd56cc87a0ae1110ff55c44f966f39a36f81c537c65e4560873d0f", func := "loop.example/g00912/laws.FnExactFirstWrong", spec := "fnExactFirstWrong", inPlace := ["internal/bytealg.IndexByteString", "internal/bytealg.CountString", "internal/bytealg.IndexString"], unfollowed := true, recurses := true, named := ["internal/bytealg.MaxLen"], apart := false }
def FnExactFirstWrongSaid : Prop := fnExactFirstWrongRow.holds Try.pinned (OpenSpec.ofChange fnExactFirstWrongSpec)

/-- ITS FALSE NEIGHBOUR: 'it returns false'. Refute it at one input. -/
def fnExactFirstWrongWrong : ChangeSpec := { name := "fnExactFirstWrong", fn := fun _ => fun
  | [d] => { results := [.lit (.bool false)], args := [d] }
  | _ => none }
def FnExactFirstWrongWrongFalsely : Prop := fnExactFirstWrongRow.holds Try.pinned (OpenSpec.ofChange fnExactFirstWrongWrong)

/-- 'laws.FnExactCleanItems': WHATEVER THE INPUT: true; the input reads as it did. -/
def fnExactCleanItemsSpec : ChangeSpec := { name := "fnExactCleanItems", fn := fun _ => fun
  | [d] => { results := [.lit (.bool true)], args := [d] }
  | _ => none }
def fnExactCleanItemsRow : OpenClaim := { program := "ytjnimmjlmfhpdaa", sum := "ce086070aefd56cc87a0ae1110ff55c44f966f39a36f81c537c65e4560873d0f", func := "loop.example/g00912/laws.FnExactCleanItems", spec := "fnExactCleanItems", apart := false }
def FnExactCleanItemsSaid : Prop := fnExactCleanItemsRow.holds Try.pinned (OpenSpec.ofChange fnExactCleanItemsSpec)

/-- ITS FALSE NEIGHBOUR: 'it returns false'. Refute it at one input. -/
def fnExactCleanItemsWrong : ChangeSpec := { name := "fnExactCleanItems", fn := fun _ => fun
  | [d] => { results := [.lit (.bool false)], args := [d] }
  | _ => none }
def FnExactCleanItemsWrongFalsely : Prop := fnExactCleanItemsRow.holds Try.pinned (OpenSpec.ofChange fnExactCleanItemsWrong)

/-- 'laws.FnExactCountMarks': WHATEVER THE INPUT: true; the input reads as it did. -/
def fnExactCountMarksSpec : ChangeSpec := { name := "fnExactCountMarks", fn := fun _ => fun
  | [d] => { results := [.lit (.bool true)], args := [d] }
  | _ => none }
def fnExactCountMarksRow : OpenClaim := { program := "ytjnimmjlmfhpdaa", sum := "ce086070aefd56cc87a0ae1110ff55c44f966f39a36f81c537c65e4560873d0f", func := "loop.example/g00912/laws.FnExactCountMarks", spec := "fnExactCountMarks", apart := false }
def FnExactCountMarksSaid : Prop := fnExactCountMarksRow.holds Try.pinned (OpenSpec.ofChange fnExactCountMarksSpec)

/-- ITS FALSE NEIGHBOUR: 'it returns false'. Refute it at one input. -/
def fnExactCountMarksWrong : ChangeSpec := { name := "fnExactCountMarks", fn := fun _ => fun
  | [d] => { results := [.lit (.bool false)], args := [d] }
  | _ => none }
def FnExactCountMarksWrongFalsely : Prop := fnExactCountMarksRow.holds Try.pinned (OpenSpec.ofChange fnExactCountMarksWrong)

/-- 'laws.FnExactNamesIn': WHATEVER THE INPUT: true; the input reads as it did. -/
def fnExactNamesInSpec : ChangeSpec := { name := "fnExactNamesIn", fn := fun _ => fun
  | [d] => { results := [.lit (.bool true)], args := [d] }
  | _ => none }
def fnExactNamesInRow : OpenClaim := { program := "ytjnimmjlmfhpdaa", sum := "ce086070aefd56cc87a0ae1110ff55c44f966f39a36f81c537c65e4560873d0f", func := "loop.example/g00912/laws.FnExactNamesIn", spec := "fnExactNamesIn", recurses := true, apart := false }
def FnExactNamesInSaid : Prop := fnExactNamesInRow.holds Try.pinned (OpenSpec.ofChange fnExactNamesInSpec)

/-- ITS FALSE NEIGHBOUR: 'it returns false'. Refute it at one input. -/
def fnExactNamesInWrong : ChangeSpec := { name := "fnExactNamesIn", fn := fun _ => fun
  | [d] => { results := [.lit (.bool false)], args := [d] }
  | _ => none }
def FnExactNamesInWrongFalsely : Prop := fnExactNamesInRow.holds Try.pinned (OpenSpec.ofChange fnExactNamesInWrong)

/-- 'laws.FnExactSameCalls': WHATEVER THE INPUT: true; the input reads as it did. -/
def fnExactSameCallsSpec : ChangeSpec := { name := "fnExactSameCalls", fn := fun _ => fun
  | [d1, d2] => { results := [.lit (.bool true)], args := [d1, d2] }
  | _ => none }
def fnExactSameCallsRow : OpenClaim := { program := "ytjnimmjlmfhpdaa", sum := "ce086070aefd56cc87a0ae1110ff55c44f966f39a36f81c537c65e4560873d0f", func := "loop.example/g00912/laws.FnExactSameCalls", spec := "fnExactSameCalls", unfollowed := true, recurses := true, apart := false }
def FnExactSameCallsSaid : Prop := fnExactSameCallsRow.holds Try.pinned (OpenSpec.ofChange fnExactSameCallsSpec)

/-- ITS FALSE NEIGHBOUR: 'it returns false'. Refute it at one input. -/
def fnExactSameCallsWrong : ChangeSpec := { name := "fnExactSameCalls", fn := fun _ => fun
  | [d1, d2] => { results := [.lit (.bool false)], args := [d1, d2] }
  | _ => none }
def FnExactSameCallsWrongFalsely : Prop := fnExactSameCallsRow.holds Try.pinned (OpenSpec.ofChange fnExactSameCallsWrong)

/- THE SECOND FORM. 'bulk': how many values and letters a reading holds, each counted each time it is reached (what is shared counts as often as it is met; a slice's spare places count too). A statement '..UptoSaid' is the law's where the arguments, and the package variables that the reading takes, are together of bulk at most 1048576: NARROWER than '..Said'. Prove '..Said' where nothing that the law and all that it calls make is longer than what came in: it says more and counts as full. Else prove '..UptoSaid'. A law counts once. -/
mutual
def uptoBulk {H : Type} : DataW H → Nat
  | .lit (.string bytes) => bytes.length + 1
  | .lit _ => 1
  | .nil => 1
  | .ptr d => uptoBulk d + 1
  | .slice elems spare => uptoBulkAll elems + uptoBulkAll spare + 1
  | .agg parts => uptoBulkAll parts + 1
  | .iface _ d => uptoBulk d + 1
  | .map entries => uptoBulkEntries entries + 1
  | .held _ => 1
def uptoBulkAll {H : Type} : List (DataW H) → Nat
  | [] => 0
  | d :: r => uptoBulk d + uptoBulkAll r
def uptoBulkEntries {H : Type} : List (Lit × DataW H) → Nat
  | [] => 0
  | x :: r => uptoBulkEntry x + uptoBulkEntries r
def uptoBulkEntry {H : Type} : Lit × DataW H → Nat
  | (.string bytes, d) => bytes.length + uptoBulk d + 1
  | (_, d) => uptoBulk d + 1
 end
def uptoSmall : (H : Type) → List (DataW H) → Bool := fun _ ds => decide (uptoBulkAll ds ≤ 1048576)
def OpenSpec.upto (s : _root_.Go.ChangeSpec) : _root_.Go.OpenSpec := { _root_.Go.OpenSpec.ofChange s with cond := some uptoSmall }

/-- 'laws.FnExactIsName', WHERE WHAT IT READS IS OF BULK AT MOST 1048576: true; the input reads as it did. -/
def fnExactIsNameUptoRow : OpenClaim := { program := "ytjnimmjlmfhpdaa", sum := "ce086070aefd56cc87a0ae1110ff55c44f966f39a36f81c537c65e4560873d0f", func := "loop.example/g00912/laws.FnExactIsName", spec := "fnExactIsName", apart := false, narrowed := true }
def FnExactIsNameUptoSaid : Prop := fnExactIsNameUptoRow.holds Try.pinned (OpenSpec.upto fnExactIsNameSpec)

/-- 'laws.FnExactIsItem', WHERE WHAT IT READS IS OF BULK AT MOST 1048576: true; the input reads as it did. -/
def fnExactIsItemUptoRow : OpenClaim := { program := "ytjnimmjlmfhpdaa", sum := "ce086070aefd56cc87a0ae1110ff55c44f966f39a36f81c537c65e4560873d0f", func := "loop.example/g00912/laws.FnExactIsItem", spec := "fnExactIsItem", apart := false, narrowed := true }
def FnExactIsItemUptoSaid : Prop := fnExactIsItemUptoRow.holds Try.pinned (OpenSpec.upto fnExactIsItemSpec)

/-- 'laws.FnExactAreItems', WHERE WHAT IT READS IS OF BULK AT MOST 1048576: true; the input reads as it did. -/
def fnExactAreItemsUptoRow : OpenClaim := { program := "ytjnimmjlmfhpdaa", sum := "ce086070aefd56cc87a0ae1110ff55c44f966f39a36f81c537c65e4560873d0f", func := "loop.example/g00912/laws.FnExactAreItems", spec := "fnExactAreItems", apart := false, narrowed := true }
def FnExactAreItemsUptoSaid : Prop := fnExactAreItemsUptoRow.holds Try.pinned (OpenSpec.upto fnExactAreItemsSpec)

/-- 'laws.FnExactItemText', WHERE WHAT IT READS IS OF BULK AT MOST 1048576: true; the input reads as it did. -/
def fnExactItemTextUptoRow : OpenClaim := { program := "ytjnimmjlmfhpdaa", sum := "ce086070aefd56cc87a0ae1110ff55c44f966f39a36f81c537c65e4560873d0f", func := "loop.example/g00912/laws.FnExactItemText", spec := "fnExactItemText", inPlace := ["internal/abi.NoEscape", "internal/bytealg.MakeNoZero"], apart := false, narrowed := true }
def FnExactItemTextUptoSaid : Prop := fnExactItemTextUptoRow.holds Try.pinned (OpenSpec.upto fnExactItemTextSpec)

/-- 'laws.FnExactItemsText', WHERE WHAT IT READS IS OF BULK AT MOST 1048576: true; the input reads as it did. -/
def fnExactItemsTextUptoRow : OpenClaim := { program := "ytjnimmjlmfhpdaa", sum := "ce086070aefd56cc87a0ae1110ff55c44f966f39a36f81c537c65e4560873d0f", func := "loop.example/g00912/laws.FnExactItemsText", spec := "fnExactItemsText", inPlace := ["internal/abi.NoEscape", "internal/bytealg.MakeNoZero"], apart := false, narrowed := true }
def FnExactItemsTextUptoSaid : Prop := fnExactItemsTextUptoRow.holds Try.pinned (OpenSpec.upto fnExactItemsTextSpec)

/-- 'laws.FnExactFirstWrong', WHERE WHAT IT READS IS OF BULK AT MOST 1048576: true; the input reads as it did. -/
def fnExactFirstWrongUptoRow : OpenClaim := { program := "ytjnimmjlmfhpdaa", sum := "ce086070aefd56cc87a0ae1110ff55c44f966f39a36f81c537c65e4560873d0f", func := "loop.example/g00912/laws.FnExactFirstWrong", spec := "fnExactFirstWrong", inPlace := ["internal/bytealg.IndexByteString", "internal/bytealg.CountString", "internal/bytealg.IndexString"], unfollowed := true, recurses := true, named := ["internal/bytealg.MaxLen"], apart := false, narrowed := true }
def FnExactFirstWrongUptoSaid : Prop := fnExactFirstWrongUptoRow.holds Try.pinned (OpenSpec.upto fnExactFirstWrongSpec)

/-- 'laws.FnExactCleanItems', WHERE WHAT IT READS IS OF BULK AT MOST 1048576: true; the input reads as it did. -/
def fnExactCleanItemsUptoRow : OpenClaim := { program := "ytjnimmjlmfhpdaa", sum := "ce086070aefd56cc87a0ae1110ff55c44f966f39a36f81c537c65e4560873d0f", func := "loop.example/g00912/laws.FnExactCleanItems", spec := "fnExactCleanItems", apart := false, narrowed := true }
def FnExactCleanItemsUptoSaid : Prop := fnExactCleanItemsUptoRow.holds Try.pinned (OpenSpec.upto fnExactCleanItemsSpec)

/-- 'laws.FnExactCountMarks', WHERE WHAT IT READS IS OF BULK AT MOST 1048576: true; the input reads as it did. -/
def fnExactCountMarksUptoRow : OpenClaim := { program := "ytjnimmjlmfhpdaa", sum := "ce086070aefd56cc87a0ae1110ff55c44f966f39a36f81c537c65e4560873d0f", func := "loop.example/g00912/laws.FnExactCountMarks", spec := "fnExactCountMarks", apart := false, narrowed := true }
def FnExactCountMarksUptoSaid : Prop := fnExactCountMarksUptoRow.holds Try.pinned (OpenSpec.upto fnExactCountMarksSpec)

/-- 'laws.FnExactNamesIn', WHERE WHAT IT READS IS OF BULK AT MOST 1048576: true; the input reads as it did. -/
def fnExactNamesInUptoRow : OpenClaim := { program := "ytjnimmjlmfhpdaa", sum := "ce086070aefd56cc87a0ae1110ff55c44f966f39a36f81c537c65e4560873d0f", func := "loop.example/g00912/laws.FnExactNamesIn", spec := "fnExactNamesIn", recurses := true, apart := false, narrowed := true }
def FnExactNamesInUptoSaid : Prop := fnExactNamesInUptoRow.holds Try.pinned (OpenSpec.upto fnExactNamesInSpec)

/-- 'laws.FnExactSameCalls', WHERE WHAT IT READS IS OF BULK AT MOST 1048576: true; the input reads as it did. -/
def fnExactSameCallsUptoRow : OpenClaim := { program := "ytjnimmjlmfhpdaa", sum := "ce086070aefd56cc87a0ae1110ff55c44f966f39a36f81c537c65e4560873d0f", func := "loop.example/g00912/laws.FnExactSameCalls", spec := "fnExactSameCalls", unfollowed := true, recurses := true, apart := false, narrowed := true }
def FnExactSameCallsUptoSaid : Prop := fnExactSameCallsUptoRow.holds Try.pinned (OpenSpec.upto fnExactSameCallsSpec)

end Rows
end Go.Proofs.Ytjnimmjlmfhpdaa
