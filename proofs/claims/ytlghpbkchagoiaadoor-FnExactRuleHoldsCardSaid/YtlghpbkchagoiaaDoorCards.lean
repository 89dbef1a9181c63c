/-
  DERIVED. GIVEN WITH THE SEED: THE CARDS: each row of YtlghpbkchagoiaaDoorRows.lean that lists a variable, with what it lists TIED to the program's text (the seventh form; the later family's looks); each row that meets fmt, with fmt's text TOLD by the authors' own Lean function (tested against real Go, not proved from fmt's source: count such statements apart). THE CARD IS WHAT COUNTS. Prove the row's statement (the work); the ties are given (YtlghpbkchagoiaaDoorTie.lean); close each card by the builder's one call (the guide's Derived/Test/ToyasCard.lean, 'card_holds'). Laid BY PROGRAM, IN A SANDBOX (cutbox-door.mjs). By AI agents, Wed Nov 11 2026. No macro, syntax, notation, axiom, sorry.
-/
import Derived.Test.YtlghpbkchagoiaaDoorRows
import GoSem.ClaimSeven
namespace Go.Proofs.YtlghpbkchagoiaaDoor
namespace Rows

/-- THE TIED CARD OF 'laws.FnExactRuleHolds'. -/
def fnExactRuleHoldsCard : Claim7 := { stood := { row := fnExactRuleHoldsRow, standIns := [], harness := (true, "c05efd08359f9b73cb2fc2f9271df410170e3c413e2ba78f9e118dddde04408a"), looks := false }, kinds := [], alts := [], laidByText := true, laidKinds := [.data], laidTests := true, laidLooks := .later }
def FnExactRuleHoldsCardSaid : Prop := Claim7.holds Tryd.pinned (.plain (OpenSpec.ofChange fnExactRuleHoldsSpec)) fnExactRuleHoldsCard

/-- THE SECOND FORM's CARD OF 'laws.FnExactRuleHolds'. -/
def fnExactRuleHoldsUptoCard : Claim7 := { stood := { row := fnExactRuleHoldsUptoRow, standIns := [], harness := (true, "c05efd08359f9b73cb2fc2f9271df410170e3c413e2ba78f9e118dddde04408a"), looks := false }, kinds := [], alts := [], laidByText := true, laidKinds := [.data], laidTests := true, laidLooks := .later }
def FnExactRuleHoldsUptoCardSaid : Prop := Claim7.holds Tryd.pinned (.plain (OpenSpec.upto fnExactRuleHoldsSpec)) fnExactRuleHoldsUptoCard
end Rows
end Go.Proofs.YtlghpbkchagoiaaDoor
