/- A stable sort of a row of numbers: the symmetric merge. -/
import Derived.Test.YtnambmpnolkfjaaPnT
import Derived.Deep.Cut
import Derived.Deep.CutRange
import Derived.Deep.DeepCutAuto
import Derived.Shelf.SlSortCmp.QuietGrown
namespace Go.Proofs.Ytnambmpnolkfjaa
open Go.ChangeShapes Go.WideShapes Go.ChangeAt Go.RowKit Go.Lib Go.Sort Go.Proofs
set_option linter.unusedVariables false

/-- How two places compare, by their keys. -/
def cfK (key : Nat → Int) (i j : Nat) : Int := if key i < key j then -1 else if key j < key i then 1 else 0
theorem cfK_lt {key : Nat → Int} {i j : Nat} : cfK key i j < 0 ↔ key i < key j := by
  unfold cfK
  split
  · omega
  · split <;> omega
theorem ltOf_cfK (key : Nat → Int) : KeyLt key (ltOf (cfK key)) := ⟨fun i j h => cfK_lt.1 (of_decide_eq_true h), fun i j h => by
  have := of_decide_eq_false h
  rw [cfK_lt] at this
  omega⟩
theorem half_mid (a b : Nat) : ((a : Int) + (b : Int)) / 2 = (((a + b) / 2 : Nat) : Int) := by omega

/-- What a merge asks: a row whose first part and whose second part are sorted, the first of old before the second. -/
structure SymIn (key : Nat → Int) (l : List Int) (g : Nat) (cb : Array Value) (blk off : Nat) (d0 : Array Nat) (w0 : World) (a m b : Nat) (d : Array Nat) (w : World) : Prop where
  eg : ∀ args w, (callFunc g args).run Try.prog w = .ok (.enter g args) w
  cmp : CmpLays1 Try.prog g cb (encI l) (cfK key) blk off d0.size w0
  R : Row1 (encI l) w0 blk off d0
  hsz : d0.size < 1000000
  hs : d0.size = d.size
  S : SW (encI l) w0 blk off d w
  h1 : a < m
  h2 : m < b
  h3 : b ≤ d.size
  s1 : Srt key a m d
  s2 : Srt key m b d
  t : Tag a m b d
/-- What it leaves. -/
def SymOut (key : Nat → Int) (l : List Int) (blk off : Nat) (w0 : World) (a b : Nat) (d : Array Nat) (w' : World) : Prop :=
  ∃ d', SW (encI l) w0 blk off d' w' ∧ d'.size = d.size ∧ PermIn a b d d' ∧ Srt key a b d'
end Go.Proofs.Ytnambmpnolkfjaa
