/-
  DERIVED. GIVEN WITH THE SEED: THE CARDS: each row of YtmncigeelfappaaDoorRows.lean that lists a variable, with what it lists TIED to the program's text (the seventh form; the later family's looks); each row that meets fmt, with fmt's text TOLD by the authors' own Lean function (tested against real Go, not proved from fmt's source: count such statements apart). THE CARD IS WHAT COUNTS. Prove the row's statement (the work); the ties are given (YtmncigeelfappaaDoorTie.lean); close each card by the builder's one call (the guide's Derived/Test/ToyasCard.lean, 'card_holds'). Laid BY PROGRAM, IN A SANDBOX (cutbox-door.mjs). By AI agents, Wed Nov 11 2026. No macro, syntax, notation, axiom, sorry.
-/
import Derived.Test.YtmncigeelfappaaDoorRows
import GoSem.ClaimSeven
namespace Go.Proofs.YtmncigeelfappaaDoor
namespace Rows

/-- THE TIED CARD OF 'laws.FnExactIsCode'. -/
def fnExactIsCodeCard : Claim7 := { stood := { row := fnExactIsCodeRow, standIns := [], harness := (true, "641fc8880c258f60d00b746c5499d6817edd55254e726e9b9a19f4663b2c6d2e"), looks := false }, kinds := [], alts := [], laidByText := true, laidKinds := [.data], laidTests := true, laidLooks := .later }
def FnExactIsCodeCardSaid : Prop := Claim7.holds Tryd.pinned (.plain (OpenSpec.ofChange fnExactIsCodeSpec)) fnExactIsCodeCard

/-- THE TIED CARD OF 'laws.FnExactFindElement'. -/
def fnExactFindElementCard : Claim7 := { stood := { row := fnExactFindElementRow, standIns := [], harness := (true, "641fc8880c258f60d00b746c5499d6817edd55254e726e9b9a19f4663b2c6d2e"), looks := false }, kinds := [], alts := [], laidByText := true, laidKinds := [.data], laidTests := true, laidLooks := .later }
def FnExactFindElementCardSaid : Prop := Claim7.holds Tryd.pinned (.plain (OpenSpec.ofChange fnExactFindElementSpec)) fnExactFindElementCard

/-- THE TIED CARD OF 'laws.FnExactOfFamily'. -/
def fnExactOfFamilyCard : Claim7 := { stood := { row := fnExactOfFamilyRow, standIns := [], harness := (true, "641fc8880c258f60d00b746c5499d6817edd55254e726e9b9a19f4663b2c6d2e"), looks := false }, kinds := [], alts := [], laidByText := true, laidKinds := [.data], laidTests := true, laidLooks := .later }
def FnExactOfFamilyCardSaid : Prop := Claim7.holds Tryd.pinned (.plain (OpenSpec.ofChange fnExactOfFamilySpec)) fnExactOfFamilyCard

/-- THE TIED CARD OF 'laws.FnExactLevelsOf'. -/
def fnExactLevelsOfCard : Claim7 := { stood := { row := fnExactLevelsOfRow, standIns := [], harness := (true, "641fc8880c258f60d00b746c5499d6817edd55254e726e9b9a19f4663b2c6d2e"), looks := false }, kinds := [], alts := [], laidByText := true, laidKinds := [.data], laidTests := true, laidLooks := .later }
def FnExactLevelsOfCardSaid : Prop := Claim7.holds Tryd.pinned (.plain (OpenSpec.ofChange fnExactLevelsOfSpec)) fnExactLevelsOfCard

/-- THE TIED CARD OF 'laws.FnExactGreatestBase'. -/
def fnExactGreatestBaseCard : Claim7 := { stood := { row := fnExactGreatestBaseRow, standIns := [], harness := (true, "641fc8880c258f60d00b746c5499d6817edd55254e726e9b9a19f4663b2c6d2e"), looks := false }, kinds := [], alts := [], laidByText := true, laidKinds := [.data], laidTests := true, laidLooks := .later }
def FnExactGreatestBaseCardSaid : Prop := Claim7.holds Tryd.pinned (.plain (OpenSpec.ofChange fnExactGreatestBaseSpec)) fnExactGreatestBaseCard

/-- THE TIED CARD OF 'laws.FnExactAddElement'. -/
def fnExactAddElementCard : Claim7 := { stood := { row := fnExactAddElementRow, standIns := [], harness := (true, "641fc8880c258f60d00b746c5499d6817edd55254e726e9b9a19f4663b2c6d2e"), looks := false }, kinds := [], alts := [], laidByText := true, laidKinds := [.data], laidTests := true, laidLooks := .later }
def FnExactAddElementCardSaid : Prop := Claim7.holds Tryd.pinned (.plain (OpenSpec.ofChange fnExactAddElementSpec)) fnExactAddElementCard

/-- THE TIED CARD OF 'laws.FnExactDropElement'. -/
def fnExactDropElementCard : Claim7 := { stood := { row := fnExactDropElementRow, standIns := [], harness := (true, "641fc8880c258f60d00b746c5499d6817edd55254e726e9b9a19f4663b2c6d2e"), looks := false }, kinds := [], alts := [], laidByText := true, laidKinds := [.data], laidTests := true, laidLooks := .later }
def FnExactDropElementCardSaid : Prop := Claim7.holds Tryd.pinned (.plain (OpenSpec.ofChange fnExactDropElementSpec)) fnExactDropElementCard

/-- THE TIED CARD OF 'laws.FnExactScaleCode'. -/
def fnExactScaleCodeCard : Claim7 := { stood := { row := fnExactScaleCodeRow, standIns := [], harness := (true, "641fc8880c258f60d00b746c5499d6817edd55254e726e9b9a19f4663b2c6d2e"), looks := false }, kinds := [], alts := [], laidByText := true, laidKinds := [.data], laidTests := true, laidLooks := .later }
def FnExactScaleCodeCardSaid : Prop := Claim7.holds Tryd.pinned (.plain (OpenSpec.ofChange fnExactScaleCodeSpec)) fnExactScaleCodeCard

/-- THE TIED CARD OF 'laws.FnExactCodeText'. -/
def fnExactCodeTextCard : Claim7 := { stood := { row := fnExactCodeTextRow, standIns := [], harness := (true, "641fc8880c258f60d00b746c5499d6817edd55254e726e9b9a19f4663b2c6d2e"), looks := false }, kinds := [], alts := [], laidByText := true, laidKinds := [.data, .data, .data, .data], laidTests := true, laidLooks := .later }
def FnExactCodeTextCardSaid : Prop := Claim7.holds Tryd.pinned (.plain (OpenSpec.ofChange fnExactCodeTextSpec)) fnExactCodeTextCard

/-- THE SECOND FORM's CARD OF 'laws.FnExactIsCode'. -/
def fnExactIsCodeUptoCard : Claim7 := { stood := { row := fnExactIsCodeUptoRow, standIns := [], harness := (true, "641fc8880c258f60d00b746c5499d6817edd55254e726e9b9a19f4663b2c6d2e"), looks := false }, kinds := [], alts := [], laidByText := true, laidKinds := [.data], laidTests := true, laidLooks := .later }
def FnExactIsCodeUptoCardSaid : Prop := Claim7.holds Tryd.pinned (.plain (OpenSpec.upto fnExactIsCodeSpec)) fnExactIsCodeUptoCard

/-- THE SECOND FORM's CARD OF 'laws.FnExactFindElement'. -/
def fnExactFindElementUptoCard : Claim7 := { stood := { row := fnExactFindElementUptoRow, standIns := [], harness := (true, "641fc8880c258f60d00b746c5499d6817edd55254e726e9b9a19f4663b2c6d2e"), looks := false }, kinds := [], alts := [], laidByText := true, laidKinds := [.data], laidTests := true, laidLooks := .later }
def FnExactFindElementUptoCardSaid : Prop := Claim7.holds Tryd.pinned (.plain (OpenSpec.upto fnExactFindElementSpec)) fnExactFindElementUptoCard

/-- THE SECOND FORM's CARD OF 'laws.FnExactOfFamily'. -/
def fnExactOfFamilyUptoCard : Claim7 := { stood := { row := fnExactOfFamilyUptoRow, standIns := [], harness := (true, "641fc8880c258f60d00b746c5499d6817edd55254e726e9b9a19f4663b2c6d2e"), looks := false }, kinds := [], alts := [], laidByText := true, laidKinds := [.data], laidTests := true, laidLooks := .later }
def FnExactOfFamilyUptoCardSaid : Prop := Claim7.holds Tryd.pinned (.plain (OpenSpec.upto fnExactOfFamilySpec)) fnExactOfFamilyUptoCard

/-- THE SECOND FORM's CARD OF 'laws.FnExactLevelsOf'. -/
def fnExactLevelsOfUptoCard : Claim7 := { stood := { row := fnExactLevelsOfUptoRow, standIns := [], harness := (true, "641fc8880c258f60d00b746c5499d6817edd55254e726e9b9a19f4663b2c6d2e"), looks := false }, kinds := [], alts := [], laidByText := true, laidKinds := [.data], laidTests := true, laidLooks := .later }
def FnExactLevelsOfUptoCardSaid : Prop := Claim7.holds Tryd.pinned (.plain (OpenSpec.upto fnExactLevelsOfSpec)) fnExactLevelsOfUptoCard

/-- THE SECOND FORM's CARD OF 'laws.FnExactGreatestBase'. -/
def fnExactGreatestBaseUptoCard : Claim7 := { stood := { row := fnExactGreatestBaseUptoRow, standIns := [], harness := (true, "641fc8880c258f60d00b746c5499d6817edd55254e726e9b9a19f4663b2c6d2e"), looks := false }, kinds := [], alts := [], laidByText := true, laidKinds := [.data], laidTests := true, laidLooks := .later }
def FnExactGreatestBaseUptoCardSaid : Prop := Claim7.holds Tryd.pinned (.plain (OpenSpec.upto fnExactGreatestBaseSpec)) fnExactGreatestBaseUptoCard

/-- THE SECOND FORM's CARD OF 'laws.FnExactAddElement'. -/
def fnExactAddElementUptoCard : Claim7 := { stood := { row := fnExactAddElementUptoRow, standIns := [], harness := (true, "641fc8880c258f60d00b746c5499d6817edd55254e726e9b9a19f4663b2c6d2e"), looks := false }, kinds := [], alts := [], laidByText := true, laidKinds := [.data], laidTests := true, laidLooks := .later }
def FnExactAddElementUptoCardSaid : Prop := Claim7.holds Tryd.pinned (.plain (OpenSpec.upto fnExactAddElementSpec)) fnExactAddElementUptoCard

/-- THE SECOND FORM's CARD OF 'laws.FnExactDropElement'. -/
def fnExactDropElementUptoCard : Claim7 := { stood := { row := fnExactDropElementUptoRow, standIns := [], harness := (true, "641fc8880c258f60d00b746c5499d6817edd55254e726e9b9a19f4663b2c6d2e"), looks := false }, kinds := [], alts := [], laidByText := true, laidKinds := [.data], laidTests := true, laidLooks := .later }
def FnExactDropElementUptoCardSaid : Prop := Claim7.holds Tryd.pinned (.plain (OpenSpec.upto fnExactDropElementSpec)) fnExactDropElementUptoCard

/-- THE SECOND FORM's CARD OF 'laws.FnExactScaleCode'. -/
def fnExactScaleCodeUptoCard : Claim7 := { stood := { row := fnExactScaleCodeUptoRow, standIns := [], harness := (true, "641fc8880c258f60d00b746c5499d6817edd55254e726e9b9a19f4663b2c6d2e"), looks := false }, kinds := [], alts := [], laidByText := true, laidKinds := [.data], laidTests := true, laidLooks := .later }
def FnExactScaleCodeUptoCardSaid : Prop := Claim7.holds Tryd.pinned (.plain (OpenSpec.upto fnExactScaleCodeSpec)) fnExactScaleCodeUptoCard

/-- THE SECOND FORM's CARD OF 'laws.FnExactCodeText'. -/
def fnExactCodeTextUptoCard : Claim7 := { stood := { row := fnExactCodeTextUptoRow, standIns := [], harness := (true, "641fc8880c258f60d00b746c5499d6817edd55254e726e9b9a19f4663b2c6d2e"), looks := false }, kinds := [], alts := [], laidByText := true, laidKinds := [.data, .data, .data, .data], laidTests := true, laidLooks := .later }
def FnExactCodeTextUptoCardSaid : Prop := Claim7.holds Tryd.pinned (.plain (OpenSpec.upto fnExactCodeTextSpec)) fnExactCodeTextUptoCard
end Rows
end Go.Proofs.YtmncigeelfappaaDoor
