/-
  DERIVED. GIVEN WITH THE SEED: THE CARDS: each row of YthpipapgjjfalaaDoorRows.lean that lists a variable, with what it lists TIED to the program's text (the seventh form; the later family's looks); each row that meets fmt, with fmt's text TOLD by the authors' own Lean function (tested against real Go, not proved from fmt's source: count such statements apart). THE CARD IS WHAT COUNTS. Prove the row's statement (the work); the ties are given (YthpipapgjjfalaaDoorTie.lean); close each card by the builder's one call (the guide's Derived/Test/ToyasCard.lean, 'card_holds'). Laid BY PROGRAM, IN A SANDBOX (cutbox-door.mjs). By AI agents, Wed Nov 11 2026. No macro, syntax, notation, axiom, sorry.
-/
import Derived.Test.YthpipapgjjfalaaDoorRows
import GoSem.ClaimSeven
namespace Go.Proofs.YthpipapgjjfalaaDoor
namespace Rows

/-- THE TIED CARD OF 'laws.FnExactRuleHolds'. -/
def fnExactRuleHoldsCard : Claim7 := { stood := { row := fnExactRuleHoldsRow, standIns := [], harness := (true, "4f5f40e9b8f5fbcdd70257b6d378d59f6961fd71f64781d8c5ec04f9c4979ac5"), looks := false }, kinds := [], alts := [], laidByText := true, laidKinds := [.data], laidTests := true, laidLooks := .later }
def FnExactRuleHoldsCardSaid : Prop := Claim7.holds Tryd.pinned (.plain (OpenSpec.ofChange fnExactRuleHoldsSpec)) fnExactRuleHoldsCard

/-- THE TIED CARD OF 'laws.FnExactFamilyOf'. -/
def fnExactFamilyOfCard : Claim7 := { stood := { row := fnExactFamilyOfRow, standIns := [], harness := (true, "4f5f40e9b8f5fbcdd70257b6d378d59f6961fd71f64781d8c5ec04f9c4979ac5"), looks := false }, kinds := [], alts := [], laidByText := true, laidKinds := [.data], laidTests := true, laidLooks := .later }
def FnExactFamilyOfCardSaid : Prop := Claim7.holds Tryd.pinned (.plain (OpenSpec.ofChange fnExactFamilyOfSpec)) fnExactFamilyOfCard

/-- THE TIED CARD OF 'laws.FnExactFamilyCounts'. -/
def fnExactFamilyCountsCard : Claim7 := { stood := { row := fnExactFamilyCountsRow, standIns := [], harness := (true, "4f5f40e9b8f5fbcdd70257b6d378d59f6961fd71f64781d8c5ec04f9c4979ac5"), looks := false }, kinds := [], alts := [], laidByText := true, laidKinds := [.data], laidTests := true, laidLooks := .later }
def FnExactFamilyCountsCardSaid : Prop := Claim7.holds Tryd.pinned (.plain (OpenSpec.ofChange fnExactFamilyCountsSpec)) fnExactFamilyCountsCard

/-- THE TIED CARD OF 'laws.FnExactRoomIn'. -/
def fnExactRoomInCard : Claim7 := { stood := { row := fnExactRoomInRow, standIns := [], harness := (true, "4f5f40e9b8f5fbcdd70257b6d378d59f6961fd71f64781d8c5ec04f9c4979ac5"), looks := false }, kinds := [], alts := [], laidByText := true, laidKinds := [.data], laidTests := true, laidLooks := .later }
def FnExactRoomInCardSaid : Prop := Claim7.holds Tryd.pinned (.plain (OpenSpec.ofChange fnExactRoomInSpec)) fnExactRoomInCard

/-- THE SECOND FORM's CARD OF 'laws.FnExactRuleHolds'. -/
def fnExactRuleHoldsUptoCard : Claim7 := { stood := { row := fnExactRuleHoldsUptoRow, standIns := [], harness := (true, "4f5f40e9b8f5fbcdd70257b6d378d59f6961fd71f64781d8c5ec04f9c4979ac5"), looks := false }, kinds := [], alts := [], laidByText := true, laidKinds := [.data], laidTests := true, laidLooks := .later }
def FnExactRuleHoldsUptoCardSaid : Prop := Claim7.holds Tryd.pinned (.plain (OpenSpec.upto fnExactRuleHoldsSpec)) fnExactRuleHoldsUptoCard

/-- THE SECOND FORM's CARD OF 'laws.FnExactFamilyOf'. -/
def fnExactFamilyOfUptoCard : Claim7 := { stood := { row := fnExactFamilyOfUptoRow, standIns := [], harness := (true, "4f5f40e9b8f5fbcdd70257b6d378d59f6961fd71f64781d8c5ec04f9c4979ac5"), looks := false }, kinds := [], alts := [], laidByText := true, laidKinds := [.data], laidTests := true, laidLooks := .later }
def FnExactFamilyOfUptoCardSaid : Prop := Claim7.holds Tryd.pinned (.plain (OpenSpec.upto fnExactFamilyOfSpec)) fnExactFamilyOfUptoCard

/-- THE SECOND FORM's CARD OF 'laws.FnExactFamilyCounts'. -/
def fnExactFamilyCountsUptoCard : Claim7 := { stood := { row := fnExactFamilyCountsUptoRow, standIns := [], harness := (true, "4f5f40e9b8f5fbcdd70257b6d378d59f6961fd71f64781d8c5ec04f9c4979ac5"), looks := false }, kinds := [], alts := [], laidByText := true, laidKinds := [.data], laidTests := true, laidLooks := .later }
def FnExactFamilyCountsUptoCardSaid : Prop := Claim7.holds Tryd.pinned (.plain (OpenSpec.upto fnExactFamilyCountsSpec)) fnExactFamilyCountsUptoCard

/-- THE SECOND FORM's CARD OF 'laws.FnExactRoomIn'. -/
def fnExactRoomInUptoCard : Claim7 := { stood := { row := fnExactRoomInUptoRow, standIns := [], harness := (true, "4f5f40e9b8f5fbcdd70257b6d378d59f6961fd71f64781d8c5ec04f9c4979ac5"), looks := false }, kinds := [], alts := [], laidByText := true, laidKinds := [.data], laidTests := true, laidLooks := .later }
def FnExactRoomInUptoCardSaid : Prop := Claim7.holds Tryd.pinned (.plain (OpenSpec.upto fnExactRoomInSpec)) fnExactRoomInUptoCard
end Rows
end Go.Proofs.YthpipapgjjfalaaDoor
