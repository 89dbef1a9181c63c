/- AreMarks, JudgesOf, of both sides; who has a judge; marks if they are valid. -/
import Derived.Test.YtfeffkjmjkddnaaDoorMrD
import Derived.Deep.RegionHeld3
namespace Go.Proofs.YtfeffkjmjkddnaaDoor
open Go.ChangeShapes Go.WideShapes Go.ChangeAt Go.RowKit Go.Lib Go.Proofs
set_option linter.unusedVariables false

structure MkN (g c : List (List Int)) (n : Int) : Prop where
  ok : MkL g c
  len : (g.length : Int) = n
noncomputable def jgN (g c : List (List Int)) : Int := pIf (MkL g c) (jgs c : Int) 0
theorem jgN_yes {g c : List (List Int)} (h : MkL g c) : jgN g c = (jgs c : Int) := pIf_yes h
theorem jgN_no {g c : List (List Int)} (h : ¬ MkL g c) : jgN g c = 0 := pIf_no h
end Go.Proofs.YtfeffkjmjkddnaaDoor
