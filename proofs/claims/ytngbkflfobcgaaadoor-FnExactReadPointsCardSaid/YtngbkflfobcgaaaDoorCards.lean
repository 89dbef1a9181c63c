/-
  DERIVED. GIVEN WITH THE SEED: THE CARDS: each row of YtngbkflfobcgaaaDoorRows.lean that lists a variable, with what it lists TIED to the program's text (the seventh form; the later family's looks); each row that meets fmt, with fmt's text TOLD by the authors' own Lean function (tested against real Go, not proved from fmt's source: count such statements apart). THE CARD IS WHAT COUNTS. Prove the row's statement (the work); the ties are given (YtngbkflfobcgaaaDoorTie.lean); close each card by the builder's one call (the guide's Derived/Test/ToyasCard.lean, 'card_holds'). Laid BY PROGRAM, IN A SANDBOX (cutbox-door.mjs). By AI agents, Wed Nov 11 2026. No macro, syntax, notation, axiom, sorry.
-/
import Derived.Test.YtngbkflfobcgaaaDoorRows
import GoSem.ClaimSeven
namespace Go.Proofs.YtngbkflfobcgaaaDoor
namespace Rows

/-- THE TIED CARD OF 'laws.FnExactPointsText'. -/
def fnExactPointsTextCard : Claim7 := { stood := { row := fnExactPointsTextRow, standIns := [], harness := (true, "2103b89c2f76de35dc855aaa452f0bada75a021443ab6e4d9cfc61bf05a3845a"), looks := false }, kinds := [], alts := [], laidByText := true, laidKinds := [.data, .data, .data], laidTests := true, laidLooks := .later }
def FnExactPointsTextCardSaid : Prop := Claim7.holds Tryd.pinned (.plain (OpenSpec.ofChange fnExactPointsTextSpec)) fnExactPointsTextCard

/-- THE TIED CARD OF 'laws.FnExactReadPoints'. -/
def fnExactReadPointsCard : Claim7 := { stood := { row := fnExactReadPointsRow, standIns := [], harness := (true, "2103b89c2f76de35dc855aaa452f0bada75a021443ab6e4d9cfc61bf05a3845a"), looks := false }, kinds := [], alts := [], laidByText := true, laidKinds := [.data, .data, .data], laidTests := true, laidLooks := .later }
def FnExactReadPointsCardSaid : Prop := Claim7.holds Tryd.pinned (.plain (OpenSpec.ofChange fnExactReadPointsSpec)) fnExactReadPointsCard

/-- THE SECOND FORM's CARD OF 'laws.FnExactPointsText'. -/
def fnExactPointsTextUptoCard : Claim7 := { stood := { row := fnExactPointsTextUptoRow, standIns := [], harness := (true, "2103b89c2f76de35dc855aaa452f0bada75a021443ab6e4d9cfc61bf05a3845a"), looks := false }, kinds := [], alts := [], laidByText := true, laidKinds := [.data, .data, .data], laidTests := true, laidLooks := .later }
def FnExactPointsTextUptoCardSaid : Prop := Claim7.holds Tryd.pinned (.plain (OpenSpec.upto fnExactPointsTextSpec)) fnExactPointsTextUptoCard

/-- THE SECOND FORM's CARD OF 'laws.FnExactReadPoints'. -/
def fnExactReadPointsUptoCard : Claim7 := { stood := { row := fnExactReadPointsUptoRow, standIns := [], harness := (true, "2103b89c2f76de35dc855aaa452f0bada75a021443ab6e4d9cfc61bf05a3845a"), looks := false }, kinds := [], alts := [], laidByText := true, laidKinds := [.data, .data, .data], laidTests := true, laidLooks := .later }
def FnExactReadPointsUptoCardSaid : Prop := Claim7.holds Tryd.pinned (.plain (OpenSpec.upto fnExactReadPointsSpec)) fnExactReadPointsUptoCard
end Rows
end Go.Proofs.YtngbkflfobcgaaaDoor
