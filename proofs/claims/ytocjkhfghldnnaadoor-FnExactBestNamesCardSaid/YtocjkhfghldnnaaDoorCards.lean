/-
  DERIVED. GIVEN WITH THE SEED: THE CARDS: each row of YtocjkhfghldnnaaDoorRows.lean that lists a variable, with what it lists TIED to the program's text (the seventh form; the later family's looks); each row that meets fmt, with fmt's text TOLD by the authors' own Lean function (tested against real Go, not proved from fmt's source: count such statements apart). THE CARD IS WHAT COUNTS. Prove the row's statement (the work); the ties are given (YtocjkhfghldnnaaDoorTie.lean); close each card by the builder's one call (the guide's Derived/Test/ToyasCard.lean, 'card_holds'). Laid BY PROGRAM, IN A SANDBOX (cutbox-door.mjs). By AI agents, Wed Nov 11 2026. No macro, syntax, notation, axiom, sorry.
-/
import Derived.Test.YtocjkhfghldnnaaDoorRows
import GoSem.ClaimSeven
namespace Go.Proofs.YtocjkhfghldnnaaDoor
namespace Rows

/-- THE TIED CARD OF 'laws.FnExactMostSingles'. -/
def fnExactMostSinglesCard : Claim7 := { stood := { row := fnExactMostSinglesRow, standIns := [], harness := (true, "fb76f638f7589b72a2f7acade9268f2ce28effc79cdae9fdabea953ffa80056a"), looks := false }, kinds := [], alts := [], laidByText := true, laidKinds := [.data], laidTests := true, laidLooks := .later }
def FnExactMostSinglesCardSaid : Prop := Claim7.holds Tryd.pinned (.plain (OpenSpec.ofChange fnExactMostSinglesSpec)) fnExactMostSinglesCard

/-- THE TIED CARD OF 'laws.FnExactBestNames'. -/
def fnExactBestNamesCard : Claim7 := { stood := { row := fnExactBestNamesRow, standIns := [], harness := (true, "fb76f638f7589b72a2f7acade9268f2ce28effc79cdae9fdabea953ffa80056a"), looks := false }, kinds := [], alts := [], laidByText := true, laidKinds := [.data], laidTests := true, laidLooks := .later }
def FnExactBestNamesCardSaid : Prop := Claim7.holds Tryd.pinned (.plain (OpenSpec.ofChange fnExactBestNamesSpec)) fnExactBestNamesCard

/-- THE TIED CARD OF 'laws.FnExactCountSingles'. -/
def fnExactCountSinglesCard : Claim7 := { stood := { row := fnExactCountSinglesRow, standIns := [], harness := (true, "fb76f638f7589b72a2f7acade9268f2ce28effc79cdae9fdabea953ffa80056a"), looks := false }, kinds := [], alts := [], laidByText := true, laidKinds := [.data], laidTests := true, laidLooks := .later }
def FnExactCountSinglesCardSaid : Prop := Claim7.holds Tryd.pinned (.plain (OpenSpec.ofChange fnExactCountSinglesSpec)) fnExactCountSinglesCard

/-- THE TIED CARD OF 'laws.FnExactPlanBound'. -/
def fnExactPlanBoundCard : Claim7 := { stood := { row := fnExactPlanBoundRow, standIns := [], harness := (true, "fb76f638f7589b72a2f7acade9268f2ce28effc79cdae9fdabea953ffa80056a"), looks := false }, kinds := [], alts := [], laidByText := true, laidKinds := [.data], laidTests := true, laidLooks := .later }
def FnExactPlanBoundCardSaid : Prop := Claim7.holds Tryd.pinned (.plain (OpenSpec.ofChange fnExactPlanBoundSpec)) fnExactPlanBoundCard

/-- THE SECOND FORM's CARD OF 'laws.FnExactMostSingles'. -/
def fnExactMostSinglesUptoCard : Claim7 := { stood := { row := fnExactMostSinglesUptoRow, standIns := [], harness := (true, "fb76f638f7589b72a2f7acade9268f2ce28effc79cdae9fdabea953ffa80056a"), looks := false }, kinds := [], alts := [], laidByText := true, laidKinds := [.data], laidTests := true, laidLooks := .later }
def FnExactMostSinglesUptoCardSaid : Prop := Claim7.holds Tryd.pinned (.plain (OpenSpec.upto fnExactMostSinglesSpec)) fnExactMostSinglesUptoCard

/-- THE SECOND FORM's CARD OF 'laws.FnExactBestNames'. -/
def fnExactBestNamesUptoCard : Claim7 := { stood := { row := fnExactBestNamesUptoRow, standIns := [], harness := (true, "fb76f638f7589b72a2f7acade9268f2ce28effc79cdae9fdabea953ffa80056a"), looks := false }, kinds := [], alts := [], laidByText := true, laidKinds := [.data], laidTests := true, laidLooks := .later }
def FnExactBestNamesUptoCardSaid : Prop := Claim7.holds Tryd.pinned (.plain (OpenSpec.upto fnExactBestNamesSpec)) fnExactBestNamesUptoCard

/-- THE SECOND FORM's CARD OF 'laws.FnExactCountSingles'. -/
def fnExactCountSinglesUptoCard : Claim7 := { stood := { row := fnExactCountSinglesUptoRow, standIns := [], harness := (true, "fb76f638f7589b72a2f7acade9268f2ce28effc79cdae9fdabea953ffa80056a"), looks := false }, kinds := [], alts := [], laidByText := true, laidKinds := [.data], laidTests := true, laidLooks := .later }
def FnExactCountSinglesUptoCardSaid : Prop := Claim7.holds Tryd.pinned (.plain (OpenSpec.upto fnExactCountSinglesSpec)) fnExactCountSinglesUptoCard

/-- THE SECOND FORM's CARD OF 'laws.FnExactPlanBound'. -/
def fnExactPlanBoundUptoCard : Claim7 := { stood := { row := fnExactPlanBoundUptoRow, standIns := [], harness := (true, "fb76f638f7589b72a2f7acade9268f2ce28effc79cdae9fdabea953ffa80056a"), looks := false }, kinds := [], alts := [], laidByText := true, laidKinds := [.data], laidTests := true, laidLooks := .later }
def FnExactPlanBoundUptoCardSaid : Prop := Claim7.holds Tryd.pinned (.plain (OpenSpec.upto fnExactPlanBoundSpec)) fnExactPlanBoundUptoCard
end Rows
end Go.Proofs.YtocjkhfghldnnaaDoor
