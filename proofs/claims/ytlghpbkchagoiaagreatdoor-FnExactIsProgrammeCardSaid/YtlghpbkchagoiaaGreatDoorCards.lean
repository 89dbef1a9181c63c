/-
  DERIVED. GIVEN WITH THE SEED: THE CARDS: each row of YtlghpbkchagoiaaGreatDoorRows.lean that lists a variable, with what it lists TIED to the program's text (the seventh form; the later family's looks); each row that meets fmt, with fmt's text TOLD by the authors' own Lean function (tested against real Go, not proved from fmt's source: count such statements apart). THE CARD IS WHAT COUNTS. Prove the row's statement (the work); the ties are given (YtlghpbkchagoiaaGreatDoorTie.lean); close each card by the builder's one call (the guide's Derived/Test/ToyasCard.lean, 'card_holds'). Laid BY PROGRAM, IN A SANDBOX (cutbox-door.mjs). By AI agents, Wed Nov 11 2026. No macro, syntax, notation, axiom, sorry.
-/
import Derived.Test.YtlghpbkchagoiaaGreatDoorRows
import GoSem.ClaimSeven
namespace Go.Proofs.YtlghpbkchagoiaaGreatDoor
namespace Rows

/-- THE TIED CARD OF 'laws.FnExactBrokenRules'. -/
def fnExactBrokenRulesCard : Claim7 := { stood := { row := fnExactBrokenRulesRow, standIns := [], harness := (true, "514831cbeebf905b023ce5e1e8c1b66dd3f7859c13bf6575c9ab51eaacb4a673"), looks := false }, kinds := [], alts := [], laidByText := true, laidKinds := [.data], laidTests := true, laidLooks := .later }
def FnExactBrokenRulesCardSaid : Prop := Claim7.holds Tryz.pinned (.plain (OpenSpec.ofChange fnExactBrokenRulesSpec)) fnExactBrokenRulesCard

/-- THE TIED CARD OF 'laws.FnExactIsProgramme'. -/
def fnExactIsProgrammeCard : Claim7 := { stood := { row := fnExactIsProgrammeRow, standIns := [], harness := (true, "514831cbeebf905b023ce5e1e8c1b66dd3f7859c13bf6575c9ab51eaacb4a673"), looks := false }, kinds := [], alts := [], laidByText := true, laidKinds := [.data], laidTests := true, laidLooks := .later }
def FnExactIsProgrammeCardSaid : Prop := Claim7.holds Tryz.pinned (.plain (OpenSpec.ofChange fnExactIsProgrammeSpec)) fnExactIsProgrammeCard

/-- THE TIED CARD OF 'laws.FnExactInsertItem'. -/
def fnExactInsertItemCard : Claim7 := { stood := { row := fnExactInsertItemRow, standIns := [], harness := (true, "514831cbeebf905b023ce5e1e8c1b66dd3f7859c13bf6575c9ab51eaacb4a673"), looks := false }, kinds := [], alts := [], laidByText := true, laidKinds := [.data], laidTests := true, laidLooks := .later }
def FnExactInsertItemCardSaid : Prop := Claim7.holds Tryz.pinned (.plain (OpenSpec.ofChange fnExactInsertItemSpec)) fnExactInsertItemCard

/-- THE TIED CARD OF 'laws.FnExactDropItem'. -/
def fnExactDropItemCard : Claim7 := { stood := { row := fnExactDropItemRow, standIns := [], harness := (true, "514831cbeebf905b023ce5e1e8c1b66dd3f7859c13bf6575c9ab51eaacb4a673"), looks := false }, kinds := [], alts := [], laidByText := true, laidKinds := [.data], laidTests := true, laidLooks := .later }
def FnExactDropItemCardSaid : Prop := Claim7.holds Tryz.pinned (.plain (OpenSpec.ofChange fnExactDropItemSpec)) fnExactDropItemCard

/-- THE TIED CARD OF 'laws.FnExactMoveItem'. -/
def fnExactMoveItemCard : Claim7 := { stood := { row := fnExactMoveItemRow, standIns := [], harness := (true, "514831cbeebf905b023ce5e1e8c1b66dd3f7859c13bf6575c9ab51eaacb4a673"), looks := false }, kinds := [], alts := [], laidByText := true, laidKinds := [.data], laidTests := true, laidLooks := .later }
def FnExactMoveItemCardSaid : Prop := Claim7.holds Tryz.pinned (.plain (OpenSpec.ofChange fnExactMoveItemSpec)) fnExactMoveItemCard

/-- THE SECOND FORM's CARD OF 'laws.FnExactBrokenRules'. -/
def fnExactBrokenRulesUptoCard : Claim7 := { stood := { row := fnExactBrokenRulesUptoRow, standIns := [], harness := (true, "514831cbeebf905b023ce5e1e8c1b66dd3f7859c13bf6575c9ab51eaacb4a673"), looks := false }, kinds := [], alts := [], laidByText := true, laidKinds := [.data], laidTests := true, laidLooks := .later }
def FnExactBrokenRulesUptoCardSaid : Prop := Claim7.holds Tryz.pinned (.plain (OpenSpec.upto fnExactBrokenRulesSpec)) fnExactBrokenRulesUptoCard

/-- THE SECOND FORM's CARD OF 'laws.FnExactIsProgramme'. -/
def fnExactIsProgrammeUptoCard : Claim7 := { stood := { row := fnExactIsProgrammeUptoRow, standIns := [], harness := (true, "514831cbeebf905b023ce5e1e8c1b66dd3f7859c13bf6575c9ab51eaacb4a673"), looks := false }, kinds := [], alts := [], laidByText := true, laidKinds := [.data], laidTests := true, laidLooks := .later }
def FnExactIsProgrammeUptoCardSaid : Prop := Claim7.holds Tryz.pinned (.plain (OpenSpec.upto fnExactIsProgrammeSpec)) fnExactIsProgrammeUptoCard

/-- THE SECOND FORM's CARD OF 'laws.FnExactInsertItem'. -/
def fnExactInsertItemUptoCard : Claim7 := { stood := { row := fnExactInsertItemUptoRow, standIns := [], harness := (true, "514831cbeebf905b023ce5e1e8c1b66dd3f7859c13bf6575c9ab51eaacb4a673"), looks := false }, kinds := [], alts := [], laidByText := true, laidKinds := [.data], laidTests := true, laidLooks := .later }
def FnExactInsertItemUptoCardSaid : Prop := Claim7.holds Tryz.pinned (.plain (OpenSpec.upto fnExactInsertItemSpec)) fnExactInsertItemUptoCard

/-- THE SECOND FORM's CARD OF 'laws.FnExactDropItem'. -/
def fnExactDropItemUptoCard : Claim7 := { stood := { row := fnExactDropItemUptoRow, standIns := [], harness := (true, "514831cbeebf905b023ce5e1e8c1b66dd3f7859c13bf6575c9ab51eaacb4a673"), looks := false }, kinds := [], alts := [], laidByText := true, laidKinds := [.data], laidTests := true, laidLooks := .later }
def FnExactDropItemUptoCardSaid : Prop := Claim7.holds Tryz.pinned (.plain (OpenSpec.upto fnExactDropItemSpec)) fnExactDropItemUptoCard

/-- THE SECOND FORM's CARD OF 'laws.FnExactMoveItem'. -/
def fnExactMoveItemUptoCard : Claim7 := { stood := { row := fnExactMoveItemUptoRow, standIns := [], harness := (true, "514831cbeebf905b023ce5e1e8c1b66dd3f7859c13bf6575c9ab51eaacb4a673"), looks := false }, kinds := [], alts := [], laidByText := true, laidKinds := [.data], laidTests := true, laidLooks := .later }
def FnExactMoveItemUptoCardSaid : Prop := Claim7.holds Tryz.pinned (.plain (OpenSpec.upto fnExactMoveItemSpec)) fnExactMoveItemUptoCard
end Rows
end Go.Proofs.YtlghpbkchagoiaaGreatDoor
