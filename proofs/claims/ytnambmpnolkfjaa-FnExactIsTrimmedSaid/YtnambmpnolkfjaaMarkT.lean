/- The laws' text of a mark. -/
import Derived.Test.YtnambmpnolkfjaaFlat
import Derived.Laws.IdiomStrings
namespace Go.Proofs.Ytnambmpnolkfjaa
open Go.ChangeShapes Go.WideShapes Go.ChangeAt Go.RowKit
set_option linter.unusedVariables false

/-- A number's low byte. -/
def lowByte (v : Int) : UInt8 := UInt8.ofNat v.toNat
/-- The digits that are put ahead of out, f rounds at most. -/
def mkF : Nat → Nat → ByteArray → ByteArray
  | 0, _, out => out
  | f + 1, k, out => if k = 0 then out else mkF f (k / 10) (⟨#[lowByte (48 + (k : Int) % 10)]⟩ ++ out)
theorem mkF_zero (f : Nat) (out : ByteArray) : mkF f 0 out = out := by
  cases f <;> rfl
theorem mkF_step (f k : Nat) (out : ByteArray) (h : 0 < k) : mkF (f + 1) k out = mkF f (k / 10) (⟨#[lowByte (48 + (k : Int) % 10)]⟩ ++ out) := by
  simp only [mkF, if_neg (show ¬ k = 0 by omega)]
def mkText (k : Nat) : ByteArray := ⟨#[109]⟩ ++ mkF k k ⟨#[]⟩

end Go.Proofs.Ytnambmpnolkfjaa
