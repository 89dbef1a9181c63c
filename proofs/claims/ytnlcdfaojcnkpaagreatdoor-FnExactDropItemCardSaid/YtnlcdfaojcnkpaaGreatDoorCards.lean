/-
  DERIVED. GIVEN WITH THE SEED: THE CARDS: each row of YtnlcdfaojcnkpaaGreatDoorRows.lean that lists a variable, with what it lists TIED to the program's text (the seventh form; the later family's looks); each row that meets fmt, with fmt's text TOLD by the authors' own Lean function (tested against real Go, not proved from fmt's source: count such statements apart). THE CARD IS WHAT COUNTS. Prove the row's statement (the work); the ties are given (YtnlcdfaojcnkpaaGreatDoorTie.lean); close each card by the builder's one call (the guide's Derived/Test/ToyasCard.lean, 'card_holds'). Laid BY PROGRAM, IN A SANDBOX (cutbox-door.mjs). By AI agents, Wed Nov 11 2026. No macro, syntax, notation, axiom, sorry.
-/
import Derived.Test.YtnlcdfaojcnkpaaGreatDoorRows
import GoSem.ClaimSeven
namespace Go.Proofs.YtnlcdfaojcnkpaaGreatDoor
namespace Rows

/-- THE TIED CARD OF 'laws.FnExactInsertItem'. -/
def fnExactInsertItemCard : Claim7 := { stood := { row := fnExactInsertItemRow, standIns := [], harness := (true, "61400e0251b8c5cc4ee584dbab2eadc49fb3357260779febabe6afbcacfaaaa9"), looks := true }, kinds := [], alts := [], laidByText := true, laidKinds := [.data], laidTests := true, laidLooks := .later }
def FnExactInsertItemCardSaid : Prop := Claim7.holds Tryz.pinned (.plain (OpenSpec.ofChange fnExactInsertItemSpec)) fnExactInsertItemCard

/-- THE TIED CARD OF 'laws.FnExactDropItem'. -/
def fnExactDropItemCard : Claim7 := { stood := { row := fnExactDropItemRow, standIns := [], harness := (true, "61400e0251b8c5cc4ee584dbab2eadc49fb3357260779febabe6afbcacfaaaa9"), looks := true }, kinds := [], alts := [], laidByText := true, laidKinds := [.data], laidTests := true, laidLooks := .later }
def FnExactDropItemCardSaid : Prop := Claim7.holds Tryz.pinned (.plain (OpenSpec.ofChange fnExactDropItemSpec)) fnExactDropItemCard

/-- THE TIED CARD OF 'laws.FnExactMoveItem'. -/
def fnExactMoveItemCard : Claim7 := { stood := { row := fnExactMoveItemRow, standIns := [], harness := (true, "61400e0251b8c5cc4ee584dbab2eadc49fb3357260779febabe6afbcacfaaaa9"), looks := true }, kinds := [], alts := [], laidByText := true, laidKinds := [.data], laidTests := true, laidLooks := .later }
def FnExactMoveItemCardSaid : Prop := Claim7.holds Tryz.pinned (.plain (OpenSpec.ofChange fnExactMoveItemSpec)) fnExactMoveItemCard

/-- THE TIED CARD OF 'laws.FnExactParseHistory'. -/
def fnExactParseHistoryCard : Claim7 := { stood := { row := fnExactParseHistoryRow, standIns := [], harness := (true, "61400e0251b8c5cc4ee584dbab2eadc49fb3357260779febabe6afbcacfaaaa9"), looks := true }, kinds := [], alts := [], laidByText := true, laidKinds := [.data, .data, .data, .sentinel, .sentinel, .listed, .data, .data], laidTests := true, laidLooks := .later }
def FnExactParseHistoryCardSaid : Prop := Claim7.holds Tryz.pinned (.plain (OpenSpec.ofChange fnExactParseHistorySpec)) fnExactParseHistoryCard

/-- THE SECOND FORM's CARD OF 'laws.FnExactInsertItem'. -/
def fnExactInsertItemUptoCard : Claim7 := { stood := { row := fnExactInsertItemUptoRow, standIns := [], harness := (true, "61400e0251b8c5cc4ee584dbab2eadc49fb3357260779febabe6afbcacfaaaa9"), looks := true }, kinds := [], alts := [], laidByText := true, laidKinds := [.data], laidTests := true, laidLooks := .later }
def FnExactInsertItemUptoCardSaid : Prop := Claim7.holds Tryz.pinned (.plain (OpenSpec.upto fnExactInsertItemSpec)) fnExactInsertItemUptoCard

/-- THE SECOND FORM's CARD OF 'laws.FnExactDropItem'. -/
def fnExactDropItemUptoCard : Claim7 := { stood := { row := fnExactDropItemUptoRow, standIns := [], harness := (true, "61400e0251b8c5cc4ee584dbab2eadc49fb3357260779febabe6afbcacfaaaa9"), looks := true }, kinds := [], alts := [], laidByText := true, laidKinds := [.data], laidTests := true, laidLooks := .later }
def FnExactDropItemUptoCardSaid : Prop := Claim7.holds Tryz.pinned (.plain (OpenSpec.upto fnExactDropItemSpec)) fnExactDropItemUptoCard

/-- THE SECOND FORM's CARD OF 'laws.FnExactMoveItem'. -/
def fnExactMoveItemUptoCard : Claim7 := { stood := { row := fnExactMoveItemUptoRow, standIns := [], harness := (true, "61400e0251b8c5cc4ee584dbab2eadc49fb3357260779febabe6afbcacfaaaa9"), looks := true }, kinds := [], alts := [], laidByText := true, laidKinds := [.data], laidTests := true, laidLooks := .later }
def FnExactMoveItemUptoCardSaid : Prop := Claim7.holds Tryz.pinned (.plain (OpenSpec.upto fnExactMoveItemSpec)) fnExactMoveItemUptoCard

/-- THE SECOND FORM's CARD OF 'laws.FnExactParseHistory'. -/
def fnExactParseHistoryUptoCard : Claim7 := { stood := { row := fnExactParseHistoryUptoRow, standIns := [], harness := (true, "61400e0251b8c5cc4ee584dbab2eadc49fb3357260779febabe6afbcacfaaaa9"), looks := true }, kinds := [], alts := [], laidByText := true, laidKinds := [.data, .data, .data, .sentinel, .sentinel, .listed, .data, .data], laidTests := true, laidLooks := .later }
def FnExactParseHistoryUptoCardSaid : Prop := Claim7.holds Tryz.pinned (.plain (OpenSpec.upto fnExactParseHistorySpec)) fnExactParseHistoryUptoCard
end Rows
end Go.Proofs.YtnlcdfaojcnkpaaGreatDoor
