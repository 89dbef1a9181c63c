/-
  DERIVED. GIVEN WITH THE SEED: THE CARDS: each row of YtjmdaecjgiafoaaGreatDoorRows.lean that lists a variable, with what it lists TIED to the program's text (the seventh form; the later family's looks); each row that meets fmt, with fmt's text TOLD by the authors' own Lean function (tested against real Go, not proved from fmt's source: count such statements apart). THE CARD IS WHAT COUNTS. Prove the row's statement (the work); the ties are given (YtjmdaecjgiafoaaGreatDoorTie.lean); close each card by the builder's one call (the guide's Derived/Test/ToyasCard.lean, 'card_holds'). Laid BY PROGRAM, IN A SANDBOX (cutbox-door.mjs). By AI agents, Wed Nov 11 2026. No macro, syntax, notation, axiom, sorry.
-/
import Derived.Test.YtjmdaecjgiafoaaGreatDoorRows
import GoSem.ClaimSeven
namespace Go.Proofs.YtjmdaecjgiafoaaGreatDoor
namespace Rows

/-- THE TIED CARD OF 'laws.FnExactBestSingles'. -/
def fnExactBestSinglesCard : Claim7 := { stood := { row := fnExactBestSinglesRow, standIns := [], harness := (true, "d96ce8007ce2a71543711c4fb8c99f1443ea5905973b4a390cfbeb414b181be3"), looks := false }, kinds := [], alts := [], laidByText := true, laidKinds := [.data], laidTests := true, laidLooks := .later }
def FnExactBestSinglesCardSaid : Prop := Claim7.holds Tryz.pinned (.plain (OpenSpec.ofChange fnExactBestSinglesSpec)) fnExactBestSinglesCard

/-- THE TIED CARD OF 'laws.FnExactSinglesBase'. -/
def fnExactSinglesBaseCard : Claim7 := { stood := { row := fnExactSinglesBaseRow, standIns := [], harness := (true, "d96ce8007ce2a71543711c4fb8c99f1443ea5905973b4a390cfbeb414b181be3"), looks := false }, kinds := [], alts := [], laidByText := true, laidKinds := [.data], laidTests := true, laidLooks := .later }
def FnExactSinglesBaseCardSaid : Prop := Claim7.holds Tryz.pinned (.plain (OpenSpec.ofChange fnExactSinglesBaseSpec)) fnExactSinglesBaseCard

/-- THE TIED CARD OF 'laws.FnExactOrderForLate'. -/
def fnExactOrderForLateCard : Claim7 := { stood := { row := fnExactOrderForLateRow, standIns := [], harness := (true, "d96ce8007ce2a71543711c4fb8c99f1443ea5905973b4a390cfbeb414b181be3"), looks := false }, kinds := [], alts := [], laidByText := true, laidKinds := [.data], laidTests := true, laidLooks := .later }
def FnExactOrderForLateCardSaid : Prop := Claim7.holds Tryz.pinned (.plain (OpenSpec.ofChange fnExactOrderForLateSpec)) fnExactOrderForLateCard

/-- THE TIED CARD OF 'laws.FnExactReplaceGain'. -/
def fnExactReplaceGainCard : Claim7 := { stood := { row := fnExactReplaceGainRow, standIns := [], harness := (true, "d96ce8007ce2a71543711c4fb8c99f1443ea5905973b4a390cfbeb414b181be3"), looks := false }, kinds := [], alts := [], laidByText := true, laidKinds := [.data], laidTests := true, laidLooks := .later }
def FnExactReplaceGainCardSaid : Prop := Claim7.holds Tryz.pinned (.plain (OpenSpec.ofChange fnExactReplaceGainSpec)) fnExactReplaceGainCard

/-- THE TIED CARD OF 'laws.FnExactBestReplace'. -/
def fnExactBestReplaceCard : Claim7 := { stood := { row := fnExactBestReplaceRow, standIns := [], harness := (true, "d96ce8007ce2a71543711c4fb8c99f1443ea5905973b4a390cfbeb414b181be3"), looks := false }, kinds := [], alts := [], laidByText := true, laidKinds := [.data], laidTests := true, laidLooks := .later }
def FnExactBestReplaceCardSaid : Prop := Claim7.holds Tryz.pinned (.plain (OpenSpec.ofChange fnExactBestReplaceSpec)) fnExactBestReplaceCard

/-- THE SECOND FORM's CARD OF 'laws.FnExactBestSingles'. -/
def fnExactBestSinglesUptoCard : Claim7 := { stood := { row := fnExactBestSinglesUptoRow, standIns := [], harness := (true, "d96ce8007ce2a71543711c4fb8c99f1443ea5905973b4a390cfbeb414b181be3"), looks := false }, kinds := [], alts := [], laidByText := true, laidKinds := [.data], laidTests := true, laidLooks := .later }
def FnExactBestSinglesUptoCardSaid : Prop := Claim7.holds Tryz.pinned (.plain (OpenSpec.upto fnExactBestSinglesSpec)) fnExactBestSinglesUptoCard

/-- THE SECOND FORM's CARD OF 'laws.FnExactSinglesBase'. -/
def fnExactSinglesBaseUptoCard : Claim7 := { stood := { row := fnExactSinglesBaseUptoRow, standIns := [], harness := (true, "d96ce8007ce2a71543711c4fb8c99f1443ea5905973b4a390cfbeb414b181be3"), looks := false }, kinds := [], alts := [], laidByText := true, laidKinds := [.data], laidTests := true, laidLooks := .later }
def FnExactSinglesBaseUptoCardSaid : Prop := Claim7.holds Tryz.pinned (.plain (OpenSpec.upto fnExactSinglesBaseSpec)) fnExactSinglesBaseUptoCard

/-- THE SECOND FORM's CARD OF 'laws.FnExactOrderForLate'. -/
def fnExactOrderForLateUptoCard : Claim7 := { stood := { row := fnExactOrderForLateUptoRow, standIns := [], harness := (true, "d96ce8007ce2a71543711c4fb8c99f1443ea5905973b4a390cfbeb414b181be3"), looks := false }, kinds := [], alts := [], laidByText := true, laidKinds := [.data], laidTests := true, laidLooks := .later }
def FnExactOrderForLateUptoCardSaid : Prop := Claim7.holds Tryz.pinned (.plain (OpenSpec.upto fnExactOrderForLateSpec)) fnExactOrderForLateUptoCard

/-- THE SECOND FORM's CARD OF 'laws.FnExactReplaceGain'. -/
def fnExactReplaceGainUptoCard : Claim7 := { stood := { row := fnExactReplaceGainUptoRow, standIns := [], harness := (true, "d96ce8007ce2a71543711c4fb8c99f1443ea5905973b4a390cfbeb414b181be3"), looks := false }, kinds := [], alts := [], laidByText := true, laidKinds := [.data], laidTests := true, laidLooks := .later }
def FnExactReplaceGainUptoCardSaid : Prop := Claim7.holds Tryz.pinned (.plain (OpenSpec.upto fnExactReplaceGainSpec)) fnExactReplaceGainUptoCard

/-- THE SECOND FORM's CARD OF 'laws.FnExactBestReplace'. -/
def fnExactBestReplaceUptoCard : Claim7 := { stood := { row := fnExactBestReplaceUptoRow, standIns := [], harness := (true, "d96ce8007ce2a71543711c4fb8c99f1443ea5905973b4a390cfbeb414b181be3"), looks := false }, kinds := [], alts := [], laidByText := true, laidKinds := [.data], laidTests := true, laidLooks := .later }
def FnExactBestReplaceUptoCardSaid : Prop := Claim7.holds Tryz.pinned (.plain (OpenSpec.upto fnExactBestReplaceSpec)) fnExactBestReplaceUptoCard
end Rows
end Go.Proofs.YtjmdaecjgiafoaaGreatDoor
