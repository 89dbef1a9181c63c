/-
  DERIVED. GIVEN WITH THE SEED: THE CARDS: each row of YtejchpieokaplaaDoorRows.lean that lists a variable, with what it lists TIED to the program's text (the seventh form; the later family's looks); each row that meets fmt, with fmt's text TOLD by the authors' own Lean function (tested against real Go, not proved from fmt's source: count such statements apart). THE CARD IS WHAT COUNTS. Prove the row's statement (the work); the ties are given (YtejchpieokaplaaDoorTie.lean); close each card by the builder's one call (the guide's Derived/Test/ToyasCard.lean, 'card_holds'). Laid BY PROGRAM, IN A SANDBOX (cutbox-door.mjs). By AI agents, Wed Nov 11 2026. No macro, syntax, notation, axiom, sorry.
-/
import Derived.Test.YtejchpieokaplaaDoorRows
import GoSem.ClaimSeven
namespace Go.Proofs.YtejchpieokaplaaDoor
namespace Rows

/-- THE TIED CARD OF 'laws.FnExactElementWorth'. -/
def fnExactElementWorthCard : Claim7 := { stood := { row := fnExactElementWorthRow, standIns := [], harness := (true, "5d98897e2a348c1753d18c1eea958bc8e26f1494831b2bbe911cbb09bed7ae57"), looks := false }, kinds := [], alts := [], laidByText := true, laidKinds := [.data], laidTests := true, laidLooks := .later }
def FnExactElementWorthCardSaid : Prop := Claim7.holds Tryd.pinned (.plain (OpenSpec.ofChange fnExactElementWorthSpec)) fnExactElementWorthCard

/-- THE TIED CARD OF 'laws.FnExactKnowsItems'. -/
def fnExactKnowsItemsCard : Claim7 := { stood := { row := fnExactKnowsItemsRow, standIns := [], harness := (true, "5d98897e2a348c1753d18c1eea958bc8e26f1494831b2bbe911cbb09bed7ae57"), looks := false }, kinds := [], alts := [], laidByText := true, laidKinds := [.data], laidTests := true, laidLooks := .later }
def FnExactKnowsItemsCardSaid : Prop := Claim7.holds Tryd.pinned (.plain (OpenSpec.ofChange fnExactKnowsItemsSpec)) fnExactKnowsItemsCard

/-- THE TIED CARD OF 'laws.FnExactItemFamily'. -/
def fnExactItemFamilyCard : Claim7 := { stood := { row := fnExactItemFamilyRow, standIns := [], harness := (true, "5d98897e2a348c1753d18c1eea958bc8e26f1494831b2bbe911cbb09bed7ae57"), looks := false }, kinds := [], alts := [], laidByText := true, laidKinds := [.data], laidTests := true, laidLooks := .later }
def FnExactItemFamilyCardSaid : Prop := Claim7.holds Tryd.pinned (.plain (OpenSpec.ofChange fnExactItemFamilySpec)) fnExactItemFamilyCard

/-- THE TIED CARD OF 'laws.FnExactFullBase'. -/
def fnExactFullBaseCard : Claim7 := { stood := { row := fnExactFullBaseRow, standIns := [], harness := (true, "5d98897e2a348c1753d18c1eea958bc8e26f1494831b2bbe911cbb09bed7ae57"), looks := false }, kinds := [], alts := [], laidByText := true, laidKinds := [.data], laidTests := true, laidLooks := .later }
def FnExactFullBaseCardSaid : Prop := Claim7.holds Tryd.pinned (.plain (OpenSpec.ofChange fnExactFullBaseSpec)) fnExactFullBaseCard

/-- THE TIED CARD OF 'laws.FnExactRepeatsOf'. -/
def fnExactRepeatsOfCard : Claim7 := { stood := { row := fnExactRepeatsOfRow, standIns := [], harness := (true, "5d98897e2a348c1753d18c1eea958bc8e26f1494831b2bbe911cbb09bed7ae57"), looks := false }, kinds := [], alts := [], laidByText := true, laidKinds := [.data], laidTests := true, laidLooks := .later }
def FnExactRepeatsOfCardSaid : Prop := Claim7.holds Tryd.pinned (.plain (OpenSpec.ofChange fnExactRepeatsOfSpec)) fnExactRepeatsOfCard

/-- THE TIED CARD OF 'laws.FnExactItemBase'. -/
def fnExactItemBaseCard : Claim7 := { stood := { row := fnExactItemBaseRow, standIns := [], harness := (true, "5d98897e2a348c1753d18c1eea958bc8e26f1494831b2bbe911cbb09bed7ae57"), looks := false }, kinds := [], alts := [], laidByText := true, laidKinds := [.data], laidTests := true, laidLooks := .later }
def FnExactItemBaseCardSaid : Prop := Claim7.holds Tryd.pinned (.plain (OpenSpec.ofChange fnExactItemBaseSpec)) fnExactItemBaseCard

/-- THE TIED CARD OF 'laws.FnExactBaseValues'. -/
def fnExactBaseValuesCard : Claim7 := { stood := { row := fnExactBaseValuesRow, standIns := [], harness := (true, "5d98897e2a348c1753d18c1eea958bc8e26f1494831b2bbe911cbb09bed7ae57"), looks := false }, kinds := [], alts := [], laidByText := true, laidKinds := [.data], laidTests := true, laidLooks := .later }
def FnExactBaseValuesCardSaid : Prop := Claim7.holds Tryd.pinned (.plain (OpenSpec.ofChange fnExactBaseValuesSpec)) fnExactBaseValuesCard

/-- THE TIED CARD OF 'laws.FnExactProgrammeBase'. -/
def fnExactProgrammeBaseCard : Claim7 := { stood := { row := fnExactProgrammeBaseRow, standIns := [], harness := (true, "5d98897e2a348c1753d18c1eea958bc8e26f1494831b2bbe911cbb09bed7ae57"), looks := false }, kinds := [], alts := [], laidByText := true, laidKinds := [.data], laidTests := true, laidLooks := .later }
def FnExactProgrammeBaseCardSaid : Prop := Claim7.holds Tryd.pinned (.plain (OpenSpec.ofChange fnExactProgrammeBaseSpec)) fnExactProgrammeBaseCard

/-- THE TIED CARD OF 'laws.FnExactMarkLosses'. -/
def fnExactMarkLossesCard : Claim7 := { stood := { row := fnExactMarkLossesRow, standIns := [], harness := (true, "5d98897e2a348c1753d18c1eea958bc8e26f1494831b2bbe911cbb09bed7ae57"), looks := false }, kinds := [], alts := [], laidByText := true, laidKinds := [.data], laidTests := true, laidLooks := .later }
def FnExactMarkLossesCardSaid : Prop := Claim7.holds Tryd.pinned (.plain (OpenSpec.ofChange fnExactMarkLossesSpec)) fnExactMarkLossesCard

/-- THE TIED CARD OF 'laws.FnExactLateGain'. -/
def fnExactLateGainCard : Claim7 := { stood := { row := fnExactLateGainRow, standIns := [], harness := (true, "5d98897e2a348c1753d18c1eea958bc8e26f1494831b2bbe911cbb09bed7ae57"), looks := false }, kinds := [], alts := [], laidByText := true, laidKinds := [.data], laidTests := true, laidLooks := .later }
def FnExactLateGainCardSaid : Prop := Claim7.holds Tryd.pinned (.plain (OpenSpec.ofChange fnExactLateGainSpec)) fnExactLateGainCard

/-- THE TIED CARD OF 'laws.FnExactFamilyBases'. -/
def fnExactFamilyBasesCard : Claim7 := { stood := { row := fnExactFamilyBasesRow, standIns := [], harness := (true, "5d98897e2a348c1753d18c1eea958bc8e26f1494831b2bbe911cbb09bed7ae57"), looks := false }, kinds := [], alts := [], laidByText := true, laidKinds := [.data], laidTests := true, laidLooks := .later }
def FnExactFamilyBasesCardSaid : Prop := Claim7.holds Tryd.pinned (.plain (OpenSpec.ofChange fnExactFamilyBasesSpec)) fnExactFamilyBasesCard

/-- THE TIED CARD OF 'laws.FnExactRuleHolds'. -/
def fnExactRuleHoldsCard : Claim7 := { stood := { row := fnExactRuleHoldsRow, standIns := [], harness := (true, "5d98897e2a348c1753d18c1eea958bc8e26f1494831b2bbe911cbb09bed7ae57"), looks := false }, kinds := [], alts := [], laidByText := true, laidKinds := [.data], laidTests := true, laidLooks := .later }
def FnExactRuleHoldsCardSaid : Prop := Claim7.holds Tryd.pinned (.plain (OpenSpec.ofChange fnExactRuleHoldsSpec)) fnExactRuleHoldsCard

/-- THE SECOND FORM's CARD OF 'laws.FnExactElementWorth'. -/
def fnExactElementWorthUptoCard : Claim7 := { stood := { row := fnExactElementWorthUptoRow, standIns := [], harness := (true, "5d98897e2a348c1753d18c1eea958bc8e26f1494831b2bbe911cbb09bed7ae57"), looks := false }, kinds := [], alts := [], laidByText := true, laidKinds := [.data], laidTests := true, laidLooks := .later }
def FnExactElementWorthUptoCardSaid : Prop := Claim7.holds Tryd.pinned (.plain (OpenSpec.upto fnExactElementWorthSpec)) fnExactElementWorthUptoCard

/-- THE SECOND FORM's CARD OF 'laws.FnExactKnowsItems'. -/
def fnExactKnowsItemsUptoCard : Claim7 := { stood := { row := fnExactKnowsItemsUptoRow, standIns := [], harness := (true, "5d98897e2a348c1753d18c1eea958bc8e26f1494831b2bbe911cbb09bed7ae57"), looks := false }, kinds := [], alts := [], laidByText := true, laidKinds := [.data], laidTests := true, laidLooks := .later }
def FnExactKnowsItemsUptoCardSaid : Prop := Claim7.holds Tryd.pinned (.plain (OpenSpec.upto fnExactKnowsItemsSpec)) fnExactKnowsItemsUptoCard

/-- THE SECOND FORM's CARD OF 'laws.FnExactItemFamily'. -/
def fnExactItemFamilyUptoCard : Claim7 := { stood := { row := fnExactItemFamilyUptoRow, standIns := [], harness := (true, "5d98897e2a348c1753d18c1eea958bc8e26f1494831b2bbe911cbb09bed7ae57"), looks := false }, kinds := [], alts := [], laidByText := true, laidKinds := [.data], laidTests := true, laidLooks := .later }
def FnExactItemFamilyUptoCardSaid : Prop := Claim7.holds Tryd.pinned (.plain (OpenSpec.upto fnExactItemFamilySpec)) fnExactItemFamilyUptoCard

/-- THE SECOND FORM's CARD OF 'laws.FnExactFullBase'. -/
def fnExactFullBaseUptoCard : Claim7 := { stood := { row := fnExactFullBaseUptoRow, standIns := [], harness := (true, "5d98897e2a348c1753d18c1eea958bc8e26f1494831b2bbe911cbb09bed7ae57"), looks := false }, kinds := [], alts := [], laidByText := true, laidKinds := [.data], laidTests := true, laidLooks := .later }
def FnExactFullBaseUptoCardSaid : Prop := Claim7.holds Tryd.pinned (.plain (OpenSpec.upto fnExactFullBaseSpec)) fnExactFullBaseUptoCard

/-- THE SECOND FORM's CARD OF 'laws.FnExactRepeatsOf'. -/
def fnExactRepeatsOfUptoCard : Claim7 := { stood := { row := fnExactRepeatsOfUptoRow, standIns := [], harness := (true, "5d98897e2a348c1753d18c1eea958bc8e26f1494831b2bbe911cbb09bed7ae57"), looks := false }, kinds := [], alts := [], laidByText := true, laidKinds := [.data], laidTests := true, laidLooks := .later }
def FnExactRepeatsOfUptoCardSaid : Prop := Claim7.holds Tryd.pinned (.plain (OpenSpec.upto fnExactRepeatsOfSpec)) fnExactRepeatsOfUptoCard

/-- THE SECOND FORM's CARD OF 'laws.FnExactItemBase'. -/
def fnExactItemBaseUptoCard : Claim7 := { stood := { row := fnExactItemBaseUptoRow, standIns := [], harness := (true, "5d98897e2a348c1753d18c1eea958bc8e26f1494831b2bbe911cbb09bed7ae57"), looks := false }, kinds := [], alts := [], laidByText := true, laidKinds := [.data], laidTests := true, laidLooks := .later }
def FnExactItemBaseUptoCardSaid : Prop := Claim7.holds Tryd.pinned (.plain (OpenSpec.upto fnExactItemBaseSpec)) fnExactItemBaseUptoCard

/-- THE SECOND FORM's CARD OF 'laws.FnExactBaseValues'. -/
def fnExactBaseValuesUptoCard : Claim7 := { stood := { row := fnExactBaseValuesUptoRow, standIns := [], harness := (true, "5d98897e2a348c1753d18c1eea958bc8e26f1494831b2bbe911cbb09bed7ae57"), looks := false }, kinds := [], alts := [], laidByText := true, laidKinds := [.data], laidTests := true, laidLooks := .later }
def FnExactBaseValuesUptoCardSaid : Prop := Claim7.holds Tryd.pinned (.plain (OpenSpec.upto fnExactBaseValuesSpec)) fnExactBaseValuesUptoCard

/-- THE SECOND FORM's CARD OF 'laws.FnExactProgrammeBase'. -/
def fnExactProgrammeBaseUptoCard : Claim7 := { stood := { row := fnExactProgrammeBaseUptoRow, standIns := [], harness := (true, "5d98897e2a348c1753d18c1eea958bc8e26f1494831b2bbe911cbb09bed7ae57"), looks := false }, kinds := [], alts := [], laidByText := true, laidKinds := [.data], laidTests := true, laidLooks := .later }
def FnExactProgrammeBaseUptoCardSaid : Prop := Claim7.holds Tryd.pinned (.plain (OpenSpec.upto fnExactProgrammeBaseSpec)) fnExactProgrammeBaseUptoCard

/-- THE SECOND FORM's CARD OF 'laws.FnExactMarkLosses'. -/
def fnExactMarkLossesUptoCard : Claim7 := { stood := { row := fnExactMarkLossesUptoRow, standIns := [], harness := (true, "5d98897e2a348c1753d18c1eea958bc8e26f1494831b2bbe911cbb09bed7ae57"), looks := false }, kinds := [], alts := [], laidByText := true, laidKinds := [.data], laidTests := true, laidLooks := .later }
def FnExactMarkLossesUptoCardSaid : Prop := Claim7.holds Tryd.pinned (.plain (OpenSpec.upto fnExactMarkLossesSpec)) fnExactMarkLossesUptoCard

/-- THE SECOND FORM's CARD OF 'laws.FnExactLateGain'. -/
def fnExactLateGainUptoCard : Claim7 := { stood := { row := fnExactLateGainUptoRow, standIns := [], harness := (true, "5d98897e2a348c1753d18c1eea958bc8e26f1494831b2bbe911cbb09bed7ae57"), looks := false }, kinds := [], alts := [], laidByText := true, laidKinds := [.data], laidTests := true, laidLooks := .later }
def FnExactLateGainUptoCardSaid : Prop := Claim7.holds Tryd.pinned (.plain (OpenSpec.upto fnExactLateGainSpec)) fnExactLateGainUptoCard

/-- THE SECOND FORM's CARD OF 'laws.FnExactFamilyBases'. -/
def fnExactFamilyBasesUptoCard : Claim7 := { stood := { row := fnExactFamilyBasesUptoRow, standIns := [], harness := (true, "5d98897e2a348c1753d18c1eea958bc8e26f1494831b2bbe911cbb09bed7ae57"), looks := false }, kinds := [], alts := [], laidByText := true, laidKinds := [.data], laidTests := true, laidLooks := .later }
def FnExactFamilyBasesUptoCardSaid : Prop := Claim7.holds Tryd.pinned (.plain (OpenSpec.upto fnExactFamilyBasesSpec)) fnExactFamilyBasesUptoCard

/-- THE SECOND FORM's CARD OF 'laws.FnExactRuleHolds'. -/
def fnExactRuleHoldsUptoCard : Claim7 := { stood := { row := fnExactRuleHoldsUptoRow, standIns := [], harness := (true, "5d98897e2a348c1753d18c1eea958bc8e26f1494831b2bbe911cbb09bed7ae57"), looks := false }, kinds := [], alts := [], laidByText := true, laidKinds := [.data], laidTests := true, laidLooks := .later }
def FnExactRuleHoldsUptoCardSaid : Prop := Claim7.holds Tryd.pinned (.plain (OpenSpec.upto fnExactRuleHoldsSpec)) fnExactRuleHoldsUptoCard
end Rows
end Go.Proofs.YtejchpieokaplaaDoor
