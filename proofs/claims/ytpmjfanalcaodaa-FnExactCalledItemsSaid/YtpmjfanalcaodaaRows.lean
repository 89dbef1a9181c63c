/-
  No cell of these rows narrows 'for every input' (looked for: loops, veiled, ifaces, maps, wideKeys, modest, calm, conditions, laid).
  DERIVED. THE GIVEN ROWS OF THIS SEAT. 10 by the template 'for every input the law returns true; each argument reads behind the call as it read before'; 0 by the template 'total and deterministic' (their statements: YtpmjfanalcaodaaTotals.lean).
  GIVEN WITH THE SEED: the statements are not yours to turn. If you find one false, say at which input.
  Laid BY PROGRAM, IN A SANDBOX (cutbox-rows.mjs): the forced cells as the released guide's own fill.sh prints them over the translation 726a5c1432d5cfe8… (all of the seat's roots in one cut). By AI agents, Wed Nov 11 2026. No macro, syntax, notation, axiom, sorry.
-/
import Derived.Test.YtpmjfanalcaodaaChecked
import GoSem.Claim
import GoSem.ClaimJoined
import GoSem.ClaimMapViews
import Derived.JoinedTies
import Derived.KernelRfl
namespace Go.Proofs.Ytpmjfanalcaodaa
/- THE CELL 'sum', in the pinned program and in every row, IS THE sha256 OF THE DUMP (.gsa) THAT YtpmjfanalcaodaaProg.lean LOADS. Nothing in Lean hashes anything: it is a label: what it is worth is what the hold of that sum in a sandbox is worth. -/
noncomputable def Try.pinned : Pinned := { name := "ytpmjfanalcaodaa", sum := "726a5c1432d5cfe85db4423100e708027cd488c292d6b5924796b3984ae9b855", checked := Try.checked }
namespace Rows
def none {H : Type} : Left H := { results := [], args := [] }

/-- 'laws.FnExactIsSheet': WHATEVER THE INPUT: true; the input reads as it did. -/
def fnExactIsSheetSpec : ChangeSpec := { name := "fnExactIsSheet", fn := fun _ => fun
  | [d] => { results := [.lit (.bool true)], args := [d] }
  | _ => none }
def fnExactIsSheetRow : OpenClaim := { program := "ytpmjfanalcaodaa", sum := "726a5c1432d5cfe85db4423100e708027cd488c292d6b5924796b3984ae9b855", func := "loop.example/g00912/laws.FnExactIsSheet", spec := "fnExactIsSheet", unfollowed := true, recurses := true, apart := false }
def FnExactIsSheetSaid : Prop := fnExactIsSheetRow.holds Try.pinned (OpenSpec.ofChange fnExactIsSheetSpec)

/-- ITS FALSE NEIGHBOUR: 'it returns false'. Refute it at one input. -/
def fnExactIsSheetWrong : ChangeSpec := { name := "fnExactIsSheet", fn := fun _ => fun
  | [d] => { results := [.lit (.bool false)], args := [d] }
  | _ => none }
def FnExactIsSheetWrongFalsely : Prop := fnExactIsSheetRow.holds Try.pinned (OpenSpec.ofChange fnExactIsSheetWrong)

/-- 'laws.FnExactNewSheet': WHATEVER THE INPUT: true; the input reads as it did. -/
def fnExactNewSheetSpec : ChangeSpec := { name := "fnExactNewSheet", fn := fun _ => fun
  | [d] => { results := [.lit (.bool true)], args := [d] }
  | _ => none }
def fnExactNewSheetRow : OpenClaim := { program := "ytpmjfanalcaodaa", sum := "726a5c1432d5cfe85db4423100e708027cd488c292d6b5924796b3984ae9b855", func := "loop.example/g00912/laws.FnExactNewSheet", spec := "fnExactNewSheet", apart := false }
def FnExactNewSheetSaid : Prop := fnExactNewSheetRow.holds Try.pinned (OpenSpec.ofChange fnExactNewSheetSpec)

/-- ITS FALSE NEIGHBOUR: 'it returns false'. Refute it at one input. -/
def fnExactNewSheetWrong : ChangeSpec := { name := "fnExactNewSheet", fn := fun _ => fun
  | [d] => { results := [.lit (.bool false)], args := [d] }
  | _ => none }
def FnExactNewSheetWrongFalsely : Prop := fnExactNewSheetRow.holds Try.pinned (OpenSpec.ofChange fnExactNewSheetWrong)

/-- 'laws.FnExactVoteCall': WHATEVER THE INPUT: true; the input reads as it did. -/
def fnExactVoteCallSpec : ChangeSpec := { name := "fnExactVoteCall", fn := fun _ => fun
  | [d1, d2, d3, d4, d5] => { results := [.lit (.bool true)], args := [d1, d2, d3, d4, d5] }
  | _ => none }
def fnExactVoteCallRow : OpenClaim := { program := "ytpmjfanalcaodaa", sum := "726a5c1432d5cfe85db4423100e708027cd488c292d6b5924796b3984ae9b855", func := "loop.example/g00912/laws.FnExactVoteCall", spec := "fnExactVoteCall", unfollowed := true, recurses := true, apart := false }
def FnExactVoteCallSaid : Prop := fnExactVoteCallRow.holds Try.pinned (OpenSpec.ofChange fnExactVoteCallSpec)

/-- ITS FALSE NEIGHBOUR: 'it returns false'. Refute it at one input. -/
def fnExactVoteCallWrong : ChangeSpec := { name := "fnExactVoteCall", fn := fun _ => fun
  | [d1, d2, d3, d4, d5] => { results := [.lit (.bool false)], args := [d1, d2, d3, d4, d5] }
  | _ => none }
def FnExactVoteCallWrongFalsely : Prop := fnExactVoteCallRow.holds Try.pinned (OpenSpec.ofChange fnExactVoteCallWrong)

/-- 'laws.FnExactCallOf': WHATEVER THE INPUT: true; the input reads as it did. -/
def fnExactCallOfSpec : ChangeSpec := { name := "fnExactCallOf", fn := fun _ => fun
  | [d1, d2, d3] => { results := [.lit (.bool true)], args := [d1, d2, d3] }
  | _ => none }
def fnExactCallOfRow : OpenClaim := { program := "ytpmjfanalcaodaa", sum := "726a5c1432d5cfe85db4423100e708027cd488c292d6b5924796b3984ae9b855", func := "loop.example/g00912/laws.FnExactCallOf", spec := "fnExactCallOf", unfollowed := true, recurses := true, apart := false }
def FnExactCallOfSaid : Prop := fnExactCallOfRow.holds Try.pinned (OpenSpec.ofChange fnExactCallOfSpec)

/-- ITS FALSE NEIGHBOUR: 'it returns false'. Refute it at one input. -/
def fnExactCallOfWrong : ChangeSpec := { name := "fnExactCallOf", fn := fun _ => fun
  | [d1, d2, d3] => { results := [.lit (.bool false)], args := [d1, d2, d3] }
  | _ => none }
def FnExactCallOfWrongFalsely : Prop := fnExactCallOfRow.holds Try.pinned (OpenSpec.ofChange fnExactCallOfWrong)

/-- 'laws.FnExactOpenCalls': WHATEVER THE INPUT: true; the input reads as it did. -/
def fnExactOpenCallsSpec : ChangeSpec := { name := "fnExactOpenCalls", fn := fun _ => fun
  | [d] => { results := [.lit (.bool true)], args := [d] }
  | _ => none }
def fnExactOpenCallsRow : OpenClaim := { program := "ytpmjfanalcaodaa", sum := "726a5c1432d5cfe85db4423100e708027cd488c292d6b5924796b3984ae9b855", func := "loop.example/g00912/laws.FnExactOpenCalls", spec := "fnExactOpenCalls", unfollowed := true, recurses := true, apart := false }
def FnExactOpenCallsSaid : Prop := fnExactOpenCallsRow.holds Try.pinned (OpenSpec.ofChange fnExactOpenCallsSpec)

/-- ITS FALSE NEIGHBOUR: 'it returns false'. Refute it at one input. -/
def fnExactOpenCallsWrong : ChangeSpec := { name := "fnExactOpenCalls", fn := fun _ => fun
  | [d] => { results := [.lit (.bool false)], args := [d] }
  | _ => none }
def FnExactOpenCallsWrongFalsely : Prop := fnExactOpenCallsRow.holds Try.pinned (OpenSpec.ofChange fnExactOpenCallsWrong)

/-- 'laws.FnExactAddReview': WHATEVER THE INPUT: true; the input reads as it did. -/
def fnExactAddReviewSpec : ChangeSpec := { name := "fnExactAddReview", fn := fun _ => fun
  | [d1, d2] => { results := [.lit (.bool true)], args := [d1, d2] }
  | _ => none }
def fnExactAddReviewRow : OpenClaim := { program := "ytpmjfanalcaodaa", sum := "726a5c1432d5cfe85db4423100e708027cd488c292d6b5924796b3984ae9b855", func := "loop.example/g00912/laws.FnExactAddReview", spec := "fnExactAddReview", unfollowed := true, recurses := true, apart := false }
def FnExactAddReviewSaid : Prop := fnExactAddReviewRow.holds Try.pinned (OpenSpec.ofChange fnExactAddReviewSpec)

/-- ITS FALSE NEIGHBOUR: 'it returns false'. Refute it at one input. -/
def fnExactAddReviewWrong : ChangeSpec := { name := "fnExactAddReview", fn := fun _ => fun
  | [d1, d2] => { results := [.lit (.bool false)], args := [d1, d2] }
  | _ => none }
def FnExactAddReviewWrongFalsely : Prop := fnExactAddReviewRow.holds Try.pinned (OpenSpec.ofChange fnExactAddReviewWrong)

/-- 'laws.FnExactCalledItems': WHATEVER THE INPUT: true; the input reads as it did. -/
def fnExactCalledItemsSpec : ChangeSpec := { name := "fnExactCalledItems", fn := fun _ => fun
  | [d] => { results := [.lit (.bool true)], args := [d] }
  | _ => none }
def fnExactCalledItemsRow : OpenClaim := { program := "ytpmjfanalcaodaa", sum := "726a5c1432d5cfe85db4423100e708027cd488c292d6b5924796b3984ae9b855", func := "loop.example/g00912/laws.FnExactCalledItems", spec := "fnExactCalledItems", unfollowed := true, recurses := true, apart := false }
def FnExactCalledItemsSaid : Prop := fnExactCalledItemsRow.holds Try.pinned (OpenSpec.ofChange fnExactCalledItemsSpec)

/-- ITS FALSE NEIGHBOUR: 'it returns false'. Refute it at one input. -/
def fnExactCalledItemsWrong : ChangeSpec := { name := "fnExactCalledItems", fn := fun _ => fun
  | [d] => { results := [.lit (.bool false)], args := [d] }
  | _ => none }
def FnExactCalledItemsWrongFalsely : Prop := fnExactCalledItemsRow.holds Try.pinned (OpenSpec.ofChange fnExactCalledItemsWrong)

/-- 'laws.FnExactDissents': WHATEVER THE INPUT: true; the input reads as it did. -/
def fnExactDissentsSpec : ChangeSpec := { name := "fnExactDissents", fn := fun _ => fun
  | [d] => { results := [.lit (.bool true)], args := [d] }
  | _ => none }
def fnExactDissentsRow : OpenClaim := { program := "ytpmjfanalcaodaa", sum := "726a5c1432d5cfe85db4423100e708027cd488c292d6b5924796b3984ae9b855", func := "loop.example/g00912/laws.FnExactDissents", spec := "fnExactDissents", unfollowed := true, recurses := true, apart := false }
def FnExactDissentsSaid : Prop := fnExactDissentsRow.holds Try.pinned (OpenSpec.ofChange fnExactDissentsSpec)

/-- ITS FALSE NEIGHBOUR: 'it returns false'. Refute it at one input. -/
def fnExactDissentsWrong : ChangeSpec := { name := "fnExactDissents", fn := fun _ => fun
  | [d] => { results := [.lit (.bool false)], args := [d] }
  | _ => none }
def FnExactDissentsWrongFalsely : Prop := fnExactDissentsRow.holds Try.pinned (OpenSpec.ofChange fnExactDissentsWrong)

/-- 'laws.FnExactIsFinal': WHATEVER THE INPUT: true; the input reads as it did. -/
def fnExactIsFinalSpec : ChangeSpec := { name := "fnExactIsFinal", fn := fun _ => fun
  | [d] => { results := [.lit (.bool true)], args := [d] }
  | _ => none }
def fnExactIsFinalRow : OpenClaim := { program := "ytpmjfanalcaodaa", sum := "726a5c1432d5cfe85db4423100e708027cd488c292d6b5924796b3984ae9b855", func := "loop.example/g00912/laws.FnExactIsFinal", spec := "fnExactIsFinal", unfollowed := true, recurses := true, apart := false }
def FnExactIsFinalSaid : Prop := fnExactIsFinalRow.holds Try.pinned (OpenSpec.ofChange fnExactIsFinalSpec)

/-- ITS FALSE NEIGHBOUR: 'it returns false'. Refute it at one input. -/
def fnExactIsFinalWrong : ChangeSpec := { name := "fnExactIsFinal", fn := fun _ => fun
  | [d] => { results := [.lit (.bool false)], args := [d] }
  | _ => none }
def FnExactIsFinalWrongFalsely : Prop := fnExactIsFinalRow.holds Try.pinned (OpenSpec.ofChange fnExactIsFinalWrong)

/-- 'laws.FnExactChangedCalls': WHATEVER THE INPUT: true; the input reads as it did. -/
def fnExactChangedCallsSpec : ChangeSpec := { name := "fnExactChangedCalls", fn := fun _ => fun
  | [d1, d2] => { results := [.lit (.bool true)], args := [d1, d2] }
  | _ => none }
def fnExactChangedCallsRow : OpenClaim := { program := "ytpmjfanalcaodaa", sum := "726a5c1432d5cfe85db4423100e708027cd488c292d6b5924796b3984ae9b855", func := "loop.example/g00912/laws.FnExactChangedCalls", spec := "fnExactChangedCalls", unfollowed := true, recurses := true, apart := false }
def FnExactChangedCallsSaid : Prop := fnExactChangedCallsRow.holds Try.pinned (OpenSpec.ofChange fnExactChangedCallsSpec)

/-- ITS FALSE NEIGHBOUR: 'it returns false'. Refute it at one input. -/
def fnExactChangedCallsWrong : ChangeSpec := { name := "fnExactChangedCalls", fn := fun _ => fun
  | [d1, d2] => { results := [.lit (.bool false)], args := [d1, d2] }
  | _ => none }
def FnExactChangedCallsWrongFalsely : Prop := fnExactChangedCallsRow.holds Try.pinned (OpenSpec.ofChange fnExactChangedCallsWrong)

/- THE SECOND FORM. 'bulk': how many values and letters a reading holds, each counted each time it is reached (what is shared counts as often as it is met; a slice's spare places count too). A statement '..UptoSaid' is the law's where the arguments, and the package variables that the reading takes, are together of bulk at most 1048576: NARROWER than '..Said'. Prove '..Said' where nothing that the law and all that it calls make is longer than what came in: it says more and counts as full. Else prove '..UptoSaid'. A law counts once. -/
mutual
def uptoBulk {H : Type} : DataW H → Nat
  | .lit (.string bytes) => bytes.length + 1
  | .lit _ => 1
  | .nil => 1
  | .ptr d => uptoBulk d + 1
  | .slice elems spare => uptoBulkAll elems + uptoBulkAll spare + 1
  | .agg parts => uptoBulkAll parts + 1
  | .iface _ d => uptoBulk d + 1
  | .map entries => uptoBulkEntries entries + 1
  | .held _ => 1
def uptoBulkAll {H : Type} : List (DataW H) → Nat
  | [] => 0
  | d :: r => uptoBulk d + uptoBulkAll r
def uptoBulkEntries {H : Type} : List (Lit × DataW H) → Nat
  | [] => 0
  | x :: r => uptoBulkEntry x + uptoBulkEntries r
def uptoBulkEntry {H : Type} : Lit × DataW H → Nat
  | (.string bytes, d) => bytes.length + uptoBulk d + 1
  | (_, d) => uptoBulk d + 1
 end
def uptoSmall : (H : Type) → List (DataW H) → Bool := fun _ ds => decide (uptoBulkAll ds ≤ 1048576)
def OpenSpec.upto (s : _root_.Go.ChangeSpec) : _root_.Go.OpenSpec := { _root_.Go.OpenSpec.ofChange s with cond := some uptoSmall }

/-- 'laws.FnExactIsSheet', WHERE WHAT IT READS IS OF BULK AT MOST 1048576: true; the input reads as it did. -/
def fnExactIsSheetUptoRow : OpenClaim := { program := "ytpmjfanalcaodaa", sum := "726a5c1432d5cfe85db4423100e708027cd488c292d6b5924796b3984ae9b855", func := "loop.example/g00912/laws.FnExactIsSheet", spec := "fnExactIsSheet", unfollowed := true, recurses := true, apart := false, narrowed := true }
def FnExactIsSheetUptoSaid : Prop := fnExactIsSheetUptoRow.holds Try.pinned (OpenSpec.upto fnExactIsSheetSpec)

/-- 'laws.FnExactNewSheet', WHERE WHAT IT READS IS OF BULK AT MOST 1048576: true; the input reads as it did. -/
def fnExactNewSheetUptoRow : OpenClaim := { program := "ytpmjfanalcaodaa", sum := "726a5c1432d5cfe85db4423100e708027cd488c292d6b5924796b3984ae9b855", func := "loop.example/g00912/laws.FnExactNewSheet", spec := "fnExactNewSheet", apart := false, narrowed := true }
def FnExactNewSheetUptoSaid : Prop := fnExactNewSheetUptoRow.holds Try.pinned (OpenSpec.upto fnExactNewSheetSpec)

/-- 'laws.FnExactVoteCall', WHERE WHAT IT READS IS OF BULK AT MOST 1048576: true; the input reads as it did. -/
def fnExactVoteCallUptoRow : OpenClaim := { program := "ytpmjfanalcaodaa", sum := "726a5c1432d5cfe85db4423100e708027cd488c292d6b5924796b3984ae9b855", func := "loop.example/g00912/laws.FnExactVoteCall", spec := "fnExactVoteCall", unfollowed := true, recurses := true, apart := false, narrowed := true }
def FnExactVoteCallUptoSaid : Prop := fnExactVoteCallUptoRow.holds Try.pinned (OpenSpec.upto fnExactVoteCallSpec)

/-- 'laws.FnExactCallOf', WHERE WHAT IT READS IS OF BULK AT MOST 1048576: true; the input reads as it did. -/
def fnExactCallOfUptoRow : OpenClaim := { program := "ytpmjfanalcaodaa", sum := "726a5c1432d5cfe85db4423100e708027cd488c292d6b5924796b3984ae9b855", func := "loop.example/g00912/laws.FnExactCallOf", spec := "fnExactCallOf", unfollowed := true, recurses := true, apart := false, narrowed := true }
def FnExactCallOfUptoSaid : Prop := fnExactCallOfUptoRow.holds Try.pinned (OpenSpec.upto fnExactCallOfSpec)

/-- 'laws.FnExactOpenCalls', WHERE WHAT IT READS IS OF BULK AT MOST 1048576: true; the input reads as it did. -/
def fnExactOpenCallsUptoRow : OpenClaim := { program := "ytpmjfanalcaodaa", sum := "726a5c1432d5cfe85db4423100e708027cd488c292d6b5924796b3984ae9b855", func := "loop.example/g00912/laws.FnExactOpenCalls", spec := "fnExactOpenCalls", unfollowed := true, recurses := true, apart := false, narrowed := true }
def FnExactOpenCallsUptoSaid : Prop := fnExactOpenCallsUptoRow.holds Try.pinned (OpenSpec.upto fnExactOpenCallsSpec)

/-- 'laws.FnExactAddReview', WHERE WHAT IT READS IS OF BULK AT MOST 1048576: true; the input reads as it did. -/
def fnExactAddReviewUptoRow : OpenClaim := { program := "ytpmjfanalcaodaa", sum := "726a5c1432d5cfe85db4423100e708027cd488c292d6b5924796b3984ae9b855", func := "loop.example/g00912/laws.FnExactAddReview", spec := "fnExactAddReview", unfollowed := true, recurses := true, apart := false, narrowed := true }
def FnExactAddReviewUptoSaid : Prop := fnExactAddReviewUptoRow.holds Try.pinned (OpenSpec.upto fnExactAddReviewSpec)

/-- 'laws.FnExactCalledItems', WHERE WHAT IT READS IS OF BULK AT MOST 1048576: true; the input reads as it did. -/
def fnExactCalledItemsUptoRow : OpenClaim := { program := "ytpmjfanalcaodaa", sum := "726a5c1432d5cfe85db4423100e708027cd488c292d6b5924796b3984ae9b855", func := "loop.example/g00912/laws.FnExactCalledItems", spec := "fnExactCalledItems", unfollowed := true, recurses := true, apart := false, narrowed := true }
def FnExactCalledItemsUptoSaid : Prop := fnExactCalledItemsUptoRow.holds Try.pinned (OpenSpec.upto fnExactCalledItemsSpec)

/-- 'laws.FnExactDissents', WHERE WHAT IT READS IS OF BULK AT MOST 1048576: true; the input reads as it did. -/
def fnExactDissentsUptoRow : OpenClaim := { program := "ytpmjfanalcaodaa", sum := "726a5c1432d5cfe85db4423100e708027cd488c292d6b5924796b3984ae9b855", func := "loop.example/g00912/laws.FnExactDissents", spec := "fnExactDissents", unfollowed := true, recurses := true, apart := false, narrowed := true }
def FnExactDissentsUptoSaid : Prop := fnExactDissentsUptoRow.holds Try.pinned (OpenSpec.upto fnExactDissentsSpec)

/-- 'laws.FnExactIsFinal', WHERE WHAT IT READS IS OF BULK AT MOST 1048576: true; the input reads as it did. -/
def fnExactIsFinalUptoRow : OpenClaim := { program := "ytpmjfanalcaodaa", sum := "726a5c1432d5cfe85db4423100e708027cd488c292d6b5924796b3984ae9b855", func := "loop.example/g00912/laws.FnExactIsFinal", spec := "fnExactIsFinal", unfollowed := true, recurses := true, apart := false, narrowed := true }
def FnExactIsFinalUptoSaid : Prop := fnExactIsFinalUptoRow.holds Try.pinned (OpenSpec.upto fnExactIsFinalSpec)

/-- 'laws.FnExactChangedCalls', WHERE WHAT IT READS IS OF BULK AT MOST 1048576: true; the input reads as it did. -/
def fnExactChangedCallsUptoRow : OpenClaim := { program := "ytpmjfanalcaodaa", sum := "726a5c1432d5cfe85db4423100e708027cd488c292d6b5924796b3984ae9b855", func := "loop.example/g00912/laws.FnExactChangedCalls", spec := "fnExactChangedCalls", unfollowed := true, recurses := true, apart := false, narrowed := true }
def FnExactChangedCallsUptoSaid : Prop := fnExactChangedCallsUptoRow.holds Try.pinned (OpenSpec.upto fnExactChangedCallsSpec)

end Rows
end Go.Proofs.Ytpmjfanalcaodaa
