/-
  No cell of these rows narrows 'for every input' (looked for: loops, veiled, ifaces, maps, wideKeys, modest, calm, conditions, laid).
  DERIVED. THE GIVEN ROWS OF THIS SEAT. 9 by the template 'for every input the law returns true; each argument reads behind the call as it read before'; 0 by the template 'total and deterministic' (their statements: YtfeffkjmjkddnaaTotals.lean).
  GIVEN WITH THE SEED: the statements are not yours to turn. If you find one false, say at which input.
  Laid BY PROGRAM, IN A SANDBOX (cutbox-rows.mjs): the forced cells as the released guide's own fill.sh prints them over the translation df46ccd568e98205… (all of the seat's roots in one cut). By AI agents, Wed Nov 11 2026. No macro, syntax, notation, axiom, sorry.
-/
import Derived.Test.YtfeffkjmjkddnaaChecked
import GoSem.Claim
import GoSem.ClaimJoined
import GoSem.ClaimMapViews
import Derived.JoinedTies
import Derived.KernelRfl
namespace Go.Proofs.Ytfeffkjmjkddnaa
/- THE CELL 'sum', in the pinned program and in every row, IS THE sha256 OF THE DUMP (.gsa) THAT YtfeffkjmjkddnaaProg.lean LOADS. Nothing in Lean hashes anything: it is a label: what it is worth is what the hold of that sum in a sandbox is worth. -/
noncomputable def Try.pinned : Pinned := { name := "ytfeffkjmjkddnaa", sum := "df46ccd568e98205693ed0cd4dc1ac249eb5267b0e21f1b795770521422a830d", checked := Try.checked }
namespace Rows
def none {H : Type} : Left H := { results := [], args := [] }

/-- 'laws.FnExactAreMarks': WHATEVER THE INPUT: true; the input reads as it did. -/
def fnExactAreMarksSpec : ChangeSpec := { name := "fnExactAreMarks", fn := fun _ => fun
  | [d1, d2] => { results := [.lit (.bool true)], args := [d1, d2] }
  | _ => none }
def fnExactAreMarksRow : OpenClaim := { program := "ytfeffkjmjkddnaa", sum := "df46ccd568e98205693ed0cd4dc1ac249eb5267b0e21f1b795770521422a830d", func := "loop.example/g00912/laws.FnExactAreMarks", spec := "fnExactAreMarks", unfollowed := true, recurses := true, apart := false }
def FnExactAreMarksSaid : Prop := fnExactAreMarksRow.holds Try.pinned (OpenSpec.ofChange fnExactAreMarksSpec)

/-- ITS FALSE NEIGHBOUR: 'it returns false'. Refute it at one input. -/
def fnExactAreMarksWrong : ChangeSpec := { name := "fnExactAreMarks", fn := fun _ => fun
  | [d1, d2] => { results := [.lit (.bool false)], args := [d1, d2] }
  | _ => none }
def FnExactAreMarksWrongFalsely : Prop := fnExactAreMarksRow.holds Try.pinned (OpenSpec.ofChange fnExactAreMarksWrong)

/-- 'laws.FnExactJudgesOf': WHATEVER THE INPUT: true; the input reads as it did. -/
def fnExactJudgesOfSpec : ChangeSpec := { name := "fnExactJudgesOf", fn := fun _ => fun
  | [d] => { results := [.lit (.bool true)], args := [d] }
  | _ => none }
def fnExactJudgesOfRow : OpenClaim := { program := "ytfeffkjmjkddnaa", sum := "df46ccd568e98205693ed0cd4dc1ac249eb5267b0e21f1b795770521422a830d", func := "loop.example/g00912/laws.FnExactJudgesOf", spec := "fnExactJudgesOf", unfollowed := true, recurses := true, apart := false }
def FnExactJudgesOfSaid : Prop := fnExactJudgesOfRow.holds Try.pinned (OpenSpec.ofChange fnExactJudgesOfSpec)

/-- ITS FALSE NEIGHBOUR: 'it returns false'. Refute it at one input. -/
def fnExactJudgesOfWrong : ChangeSpec := { name := "fnExactJudgesOf", fn := fun _ => fun
  | [d] => { results := [.lit (.bool false)], args := [d] }
  | _ => none }
def FnExactJudgesOfWrongFalsely : Prop := fnExactJudgesOfRow.holds Try.pinned (OpenSpec.ofChange fnExactJudgesOfWrong)

/-- 'laws.FnExactJudgeMarks': WHATEVER THE INPUT: true; the input reads as it did. -/
def fnExactJudgeMarksSpec : ChangeSpec := { name := "fnExactJudgeMarks", fn := fun _ => fun
  | [d1, d2] => { results := [.lit (.bool true)], args := [d1, d2] }
  | _ => none }
def fnExactJudgeMarksRow : OpenClaim := { program := "ytfeffkjmjkddnaa", sum := "df46ccd568e98205693ed0cd4dc1ac249eb5267b0e21f1b795770521422a830d", func := "loop.example/g00912/laws.FnExactJudgeMarks", spec := "fnExactJudgeMarks", unfollowed := true, recurses := true, apart := false }
def FnExactJudgeMarksSaid : Prop := fnExactJudgeMarksRow.holds Try.pinned (OpenSpec.ofChange fnExactJudgeMarksSpec)

/-- ITS FALSE NEIGHBOUR: 'it returns false'. Refute it at one input. -/
def fnExactJudgeMarksWrong : ChangeSpec := { name := "fnExactJudgeMarks", fn := fun _ => fun
  | [d1, d2] => { results := [.lit (.bool false)], args := [d1, d2] }
  | _ => none }
def FnExactJudgeMarksWrongFalsely : Prop := fnExactJudgeMarksRow.holds Try.pinned (OpenSpec.ofChange fnExactJudgeMarksWrong)

/-- 'laws.FnExactSetGrade': WHATEVER THE INPUT: true; the input reads as it did. -/
def fnExactSetGradeSpec : ChangeSpec := { name := "fnExactSetGrade", fn := fun _ => fun
  | [d1, d2, d3, d4] => { results := [.lit (.bool true)], args := [d1, d2, d3, d4] }
  | _ => none }
def fnExactSetGradeRow : OpenClaim := { program := "ytfeffkjmjkddnaa", sum := "df46ccd568e98205693ed0cd4dc1ac249eb5267b0e21f1b795770521422a830d", func := "loop.example/g00912/laws.FnExactSetGrade", spec := "fnExactSetGrade", unfollowed := true, recurses := true, apart := false }
def FnExactSetGradeSaid : Prop := fnExactSetGradeRow.holds Try.pinned (OpenSpec.ofChange fnExactSetGradeSpec)

/-- ITS FALSE NEIGHBOUR: 'it returns false'. Refute it at one input. -/
def fnExactSetGradeWrong : ChangeSpec := { name := "fnExactSetGrade", fn := fun _ => fun
  | [d1, d2, d3, d4] => { results := [.lit (.bool false)], args := [d1, d2, d3, d4] }
  | _ => none }
def FnExactSetGradeWrongFalsely : Prop := fnExactSetGradeRow.holds Try.pinned (OpenSpec.ofChange fnExactSetGradeWrong)

/-- 'laws.FnExactSetComponent': WHATEVER THE INPUT: true; the input reads as it did. -/
def fnExactSetComponentSpec : ChangeSpec := { name := "fnExactSetComponent", fn := fun _ => fun
  | [d1, d2, d3, d4] => { results := [.lit (.bool true)], args := [d1, d2, d3, d4] }
  | _ => none }
def fnExactSetComponentRow : OpenClaim := { program := "ytfeffkjmjkddnaa", sum := "df46ccd568e98205693ed0cd4dc1ac249eb5267b0e21f1b795770521422a830d", func := "loop.example/g00912/laws.FnExactSetComponent", spec := "fnExactSetComponent", unfollowed := true, recurses := true, apart := false }
def FnExactSetComponentSaid : Prop := fnExactSetComponentRow.holds Try.pinned (OpenSpec.ofChange fnExactSetComponentSpec)

/-- ITS FALSE NEIGHBOUR: 'it returns false'. Refute it at one input. -/
def fnExactSetComponentWrong : ChangeSpec := { name := "fnExactSetComponent", fn := fun _ => fun
  | [d1, d2, d3, d4] => { results := [.lit (.bool false)], args := [d1, d2, d3, d4] }
  | _ => none }
def FnExactSetComponentWrongFalsely : Prop := fnExactSetComponentRow.holds Try.pinned (OpenSpec.ofChange fnExactSetComponentWrong)

/-- 'laws.FnExactDropJudge': WHATEVER THE INPUT: true; the input reads as it did. -/
def fnExactDropJudgeSpec : ChangeSpec := { name := "fnExactDropJudge", fn := fun _ => fun
  | [d1, d2] => { results := [.lit (.bool true)], args := [d1, d2] }
  | _ => none }
def fnExactDropJudgeRow : OpenClaim := { program := "ytfeffkjmjkddnaa", sum := "df46ccd568e98205693ed0cd4dc1ac249eb5267b0e21f1b795770521422a830d", func := "loop.example/g00912/laws.FnExactDropJudge", spec := "fnExactDropJudge", unfollowed := true, recurses := true, apart := false }
def FnExactDropJudgeSaid : Prop := fnExactDropJudgeRow.holds Try.pinned (OpenSpec.ofChange fnExactDropJudgeSpec)

/-- ITS FALSE NEIGHBOUR: 'it returns false'. Refute it at one input. -/
def fnExactDropJudgeWrong : ChangeSpec := { name := "fnExactDropJudge", fn := fun _ => fun
  | [d1, d2] => { results := [.lit (.bool false)], args := [d1, d2] }
  | _ => none }
def FnExactDropJudgeWrongFalsely : Prop := fnExactDropJudgeRow.holds Try.pinned (OpenSpec.ofChange fnExactDropJudgeWrong)

/-- 'laws.FnExactAddJudge': WHATEVER THE INPUT: true; the input reads as it did. -/
def fnExactAddJudgeSpec : ChangeSpec := { name := "fnExactAddJudge", fn := fun _ => fun
  | [d1, d2, d3] => { results := [.lit (.bool true)], args := [d1, d2, d3] }
  | _ => none }
def fnExactAddJudgeRow : OpenClaim := { program := "ytfeffkjmjkddnaa", sum := "df46ccd568e98205693ed0cd4dc1ac249eb5267b0e21f1b795770521422a830d", func := "loop.example/g00912/laws.FnExactAddJudge", spec := "fnExactAddJudge", unfollowed := true, recurses := true, apart := false }
def FnExactAddJudgeSaid : Prop := fnExactAddJudgeRow.holds Try.pinned (OpenSpec.ofChange fnExactAddJudgeSpec)

/-- ITS FALSE NEIGHBOUR: 'it returns false'. Refute it at one input. -/
def fnExactAddJudgeWrong : ChangeSpec := { name := "fnExactAddJudge", fn := fun _ => fun
  | [d1, d2, d3] => { results := [.lit (.bool false)], args := [d1, d2, d3] }
  | _ => none }
def FnExactAddJudgeWrongFalsely : Prop := fnExactAddJudgeRow.holds Try.pinned (OpenSpec.ofChange fnExactAddJudgeWrong)

/-- 'laws.FnExactSwapJudges': WHATEVER THE INPUT: true; the input reads as it did. -/
def fnExactSwapJudgesSpec : ChangeSpec := { name := "fnExactSwapJudges", fn := fun _ => fun
  | [d1, d2, d3] => { results := [.lit (.bool true)], args := [d1, d2, d3] }
  | _ => none }
def fnExactSwapJudgesRow : OpenClaim := { program := "ytfeffkjmjkddnaa", sum := "df46ccd568e98205693ed0cd4dc1ac249eb5267b0e21f1b795770521422a830d", func := "loop.example/g00912/laws.FnExactSwapJudges", spec := "fnExactSwapJudges", unfollowed := true, recurses := true, apart := false }
def FnExactSwapJudgesSaid : Prop := fnExactSwapJudgesRow.holds Try.pinned (OpenSpec.ofChange fnExactSwapJudgesSpec)

/-- ITS FALSE NEIGHBOUR: 'it returns false'. Refute it at one input. -/
def fnExactSwapJudgesWrong : ChangeSpec := { name := "fnExactSwapJudges", fn := fun _ => fun
  | [d1, d2, d3] => { results := [.lit (.bool false)], args := [d1, d2, d3] }
  | _ => none }
def FnExactSwapJudgesWrongFalsely : Prop := fnExactSwapJudgesRow.holds Try.pinned (OpenSpec.ofChange fnExactSwapJudgesWrong)

/-- 'laws.FnExactCountGrades': WHATEVER THE INPUT: true; the input reads as it did. -/
def fnExactCountGradesSpec : ChangeSpec := { name := "fnExactCountGrades", fn := fun _ => fun
  | [d] => { results := [.lit (.bool true)], args := [d] }
  | _ => none }
def fnExactCountGradesRow : OpenClaim := { program := "ytfeffkjmjkddnaa", sum := "df46ccd568e98205693ed0cd4dc1ac249eb5267b0e21f1b795770521422a830d", func := "loop.example/g00912/laws.FnExactCountGrades", spec := "fnExactCountGrades", unfollowed := true, recurses := true, apart := false }
def FnExactCountGradesSaid : Prop := fnExactCountGradesRow.holds Try.pinned (OpenSpec.ofChange fnExactCountGradesSpec)

/-- ITS FALSE NEIGHBOUR: 'it returns false'. Refute it at one input. -/
def fnExactCountGradesWrong : ChangeSpec := { name := "fnExactCountGrades", fn := fun _ => fun
  | [d] => { results := [.lit (.bool false)], args := [d] }
  | _ => none }
def FnExactCountGradesWrongFalsely : Prop := fnExactCountGradesRow.holds Try.pinned (OpenSpec.ofChange fnExactCountGradesWrong)

/- THE SECOND FORM. 'bulk': how many values and letters a reading holds, each counted each time it is reached (what is shared counts as often as it is met; a slice's spare places count too). A statement '..UptoSaid' is the law's where the arguments, and the package variables that the reading takes, are together of bulk at most 1048576: NARROWER than '..Said'. Prove '..Said' where nothing that the law and all that it calls make is longer than what came in: it says more and counts as full. Else prove '..UptoSaid'. A law counts once. -/
mutual
def uptoBulk {H : Type} : DataW H → Nat
  | .lit (.string bytes) => bytes.length + 1
  | .lit _ => 1
  | .nil => 1
  | .ptr d => uptoBulk d + 1
  | .slice elems spare => uptoBulkAll elems + uptoBulkAll spare + 1
  | .agg parts => uptoBulkAll parts + 1
  | .iface _ d => uptoBulk d + 1
  | .map entries => uptoBulkEntries entries + 1
  | .held _ => 1
def uptoBulkAll {H : Type} : List (DataW H) → Nat
  | [] => 0
  | d :: r => uptoBulk d + uptoBulkAll r
def uptoBulkEntries {H : Type} : List (Lit × DataW H) → Nat
  | [] => 0
  | x :: r => uptoBulkEntry x + uptoBulkEntries r
def uptoBulkEntry {H : Type} : Lit × DataW H → Nat
  | (.string bytes, d) => bytes.length + uptoBulk d + 1
  | (_, d) => uptoBulk d + 1
 end
def uptoSmall : (H : Type) → List (DataW H) → Bool := fun _ ds => decide (uptoBulkAll ds ≤ 1048576)
def OpenSpec.upto (s : _root_.Go.ChangeSpec) : _root_.Go.OpenSpec := { _root_.Go.OpenSpec.ofChange s with cond := some uptoSmall }

/-- 'laws.FnExactAreMarks', WHERE WHAT IT READS IS OF BULK AT MOST 1048576: true; the input reads as it did. -/
def fnExactAreMarksUptoRow : OpenClaim := { program := "ytfeffkjmjkddnaa", sum := "df46ccd568e98205693ed0cd4dc1ac249eb5267b0e21f1b795770521422a830d", func := "loop.example/g00912/laws.FnExactAreMarks", spec := "fnExactAreMarks", unfollowed := true, recurses := true, apart := false, narrowed := true }
def FnExactAreMarksUptoSaid : Prop := fnExactAreMarksUptoRow.holds Try.pinned (OpenSpec.upto fnExactAreMarksSpec)

/-- 'laws.FnExactJudgesOf', WHERE WHAT IT READS IS OF BULK AT MOST 1048576: true; the input reads as it did. -/
def fnExactJudgesOfUptoRow : OpenClaim := { program := "ytfeffkjmjkddnaa", sum := "df46ccd568e98205693ed0cd4dc1ac249eb5267b0e21f1b795770521422a830d", func := "loop.example/g00912/laws.FnExactJudgesOf", spec := "fnExactJudgesOf", unfollowed := true, recurses := true, apart := false, narrowed := true }
def FnExactJudgesOfUptoSaid : Prop := fnExactJudgesOfUptoRow.holds Try.pinned (OpenSpec.upto fnExactJudgesOfSpec)

/-- 'laws.FnExactJudgeMarks', WHERE WHAT IT READS IS OF BULK AT MOST 1048576: true; the input reads as it did. -/
def fnExactJudgeMarksUptoRow : OpenClaim := { program := "ytfeffkjmjkddnaa", sum := "df46ccd568e98205693ed0cd4dc1ac249eb5267b0e21f1b795770521422a830d", func := "loop.example/g00912/laws.FnExactJudgeMarks", spec := "fnExactJudgeMarks", unfollowed := true, recurses := true, apart := false, narrowed := true }
def FnExactJudgeMarksUptoSaid : Prop := fnExactJudgeMarksUptoRow.holds Try.pinned (OpenSpec.upto fnExactJudgeMarksSpec)

/-- 'laws.FnExactSetGrade', WHERE WHAT IT READS IS OF BULK AT MOST 1048576: true; the input reads as it did. -/
def fnExactSetGradeUptoRow : OpenClaim := { program := "ytfeffkjmjkddnaa", sum := "df46ccd568e98205693ed0cd4dc1ac249eb5267b0e21f1b795770521422a830d", func := "loop.example/g00912/laws.FnExactSetGrade", spec := "fnExactSetGrade", unfollowed := true, recurses := true, apart := false, narrowed := true }
def FnExactSetGradeUptoSaid : Prop := fnExactSetGradeUptoRow.holds Try.pinned (OpenSpec.upto fnExactSetGradeSpec)

/-- 'laws.FnExactSetComponent', WHERE WHAT IT READS IS OF BULK AT MOST 1048576: true; the input reads as it did. -/
def fnExactSetComponentUptoRow : OpenClaim := { program := "ytfeffkjmjkddnaa", sum := "df46ccd568e98205693ed0cd4dc1ac249eb5267b0e21f1b795770521422a830d", func := "loop.example/g00912/laws.FnExactSetComponent", spec := "fnExactSetComponent", unfollowed := true, recurses := true, apart := false, narrowed := true }
def FnExactSetComponentUptoSaid : Prop := fnExactSetComponentUptoRow.holds Try.pinned (OpenSpec.upto fnExactSetComponentSpec)

/-- 'laws.FnExactDropJudge', WHERE WHAT IT READS IS OF BULK AT MOST 1048576: true; the input reads as it did. -/
def fnExactDropJudgeUptoRow : OpenClaim := { program := "ytfeffkjmjkddnaa", sum := "df46ccd568e98205693ed0cd4dc1ac249eb5267b0e21f1b795770521422a830d", func := "loop.example/g00912/laws.FnExactDropJudge", spec := "fnExactDropJudge", unfollowed := true, recurses := true, apart := false, narrowed := true }
def FnExactDropJudgeUptoSaid : Prop := fnExactDropJudgeUptoRow.holds Try.pinned (OpenSpec.upto fnExactDropJudgeSpec)

/-- 'laws.FnExactAddJudge', WHERE WHAT IT READS IS OF BULK AT MOST 1048576: true; the input reads as it did. -/
def fnExactAddJudgeUptoRow : OpenClaim := { program := "ytfeffkjmjkddnaa", sum := "df46ccd568e98205693ed0cd4dc1ac249eb5267b0e21f1b795770521422a830d", func := "loop.example/g00912/laws.FnExactAddJudge", spec := "fnExactAddJudge", unfollowed := true, recurses := true, apart := false, narrowed := true }
def FnExactAddJudgeUptoSaid : Prop := fnExactAddJudgeUptoRow.holds Try.pinned (OpenSpec.upto fnExactAddJudgeSpec)

/-- 'laws.FnExactSwapJudges', WHERE WHAT IT READS IS OF BULK AT MOST 1048576: true; the input reads as it did. -/
def fnExactSwapJudgesUptoRow : OpenClaim := { program := "ytfeffkjmjkddnaa", sum := "df46ccd568e98205693ed0cd4dc1ac249eb5267b0e21f1b795770521422a830d", func := "loop.example/g00912/laws.FnExactSwapJudges", spec := "fnExactSwapJudges", unfollowed := true, recurses := true, apart := false, narrowed := true }
def FnExactSwapJudgesUptoSaid : Prop := fnExactSwapJudgesUptoRow.holds Try.pinned (OpenSpec.upto fnExactSwapJudgesSpec)

/-- 'laws.FnExactCountGrades', WHERE WHAT IT READS IS OF BULK AT MOST 1048576: true; the input reads as it did. -/
def fnExactCountGradesUptoRow : OpenClaim := { program := "ytfeffkjmjkddnaa", sum := "df46ccd568e98205693ed0cd4dc1ac249eb5267b0e21f1b795770521422a830d", func := "loop.example/g00912/laws.FnExactCountGrades", spec := "fnExactCountGrades", unfollowed := true, recurses := true, apart := false, narrowed := true }
def FnExactCountGradesUptoSaid : Prop := fnExactCountGradesUptoRow.holds Try.pinned (OpenSpec.upto fnExactCountGradesSpec)

end Rows
end Go.Proofs.Ytfeffkjmjkddnaa
