/- The walks of chapter 1's laws SumPoints, MeanPoints and PlaceOfPoints: each answers true at every argument; no conditions. -/
import Derived.Test.YtnambmpnolkfjaaOneIntsB
import Derived.Test.YtnambmpnolkfjaaOneLaws1
namespace Go.Proofs.Ytnambmpnolkfjaa.One
open Go.ChangeShapes Go.WideShapes Go.ChangeAt Go.RowKit
set_option linter.unusedVariables false

theorem Ints.next {w w' : World} {A : Option Addr} {xs : List Int} (h : Ints w w.heap.size A xs) (hb : Below w.heap.size w w') : Ints w' w'.heap.size A xs :=
  (h.below hb (Nat.le_refl _)).up hb.size
theorem below_drewN {B : Nat} (w : World) (n : Nat) : Below B w (w.drewN n) := by
  induction n with
  | zero => exact Below.refl _ _
  | succ n ih => exact ih.drew
theorem toIntS_ints (A : Option Addr) (c : Nat) (xs : List Int) (w : World) (hr : Ints w w.heap.size A xs) (hl : xs.length ≤ 1048576) :
    Calls Try.prog 16 #[.slice A xs.length c] w fun e w' => e = .returned (.slice (some ⟨w.heap.size, 0, none⟩) xs.length xs.length) ∧ Ints w' w'.heap.size (some ⟨w.heap.size, 0, none⟩) xs ∧ Below w.heap.size w w' :=
  (toIntS_any A c xs w hr hl).mono fun e w' ⟨he, ho, hb⟩ => ⟨he, (Own.ints ho (Nat.le_refl _)).up (ho.lt _ rfl).2, hb⟩
theorem eqIntS_below (A A' : Option Addr) (c c' : Nat) (xs : List Int) (w : World) (hr : Ints w w.heap.size A xs) (hr' : Ints w w.heap.size A' xs) (hl : xs.length ≤ 1048576) :
    Calls Try.prog 18 #[.slice A xs.length c, .slice A' xs.length c'] w fun e w' => e = .returned (.bool true) ∧ Below w.heap.size w w' :=
  (eqIntS_yes A A' c c' xs w _ _ hr hr' hl).mono fun e w' ⟨he, n, hw⟩ => ⟨he, hw ▸ below_drewN _ _⟩

/-- Steps that leave alone what was there before each, in a row. -/
theorem Below_then {w w1 w2 : World} (h : Below w.heap.size w w1) (k : Below w1.heap.size w1 w2) : Below w.heap.size w w2 := h.trans (k.mono h.size)

def SumOk (xs : List Int) : Prop := Good xs ∧ -1000000 ≤ sumTo xs xs.length ∧ sumTo xs xs.length ≤ 1000000
def MeanOk (xs : List Int) : Prop := Good xs ∧ 0 < xs.length
end Go.Proofs.Ytnambmpnolkfjaa.One
