/- Codes that a call answers with: their memory, the last look at them. -/
import Derived.Test.YtnlcdfaojcnkpaaDoorBe
import Derived.Test.YtnlcdfaojcnkpaaDoorBc
namespace Go.Proofs.YtnlcdfaojcnkpaaDoor
open Go.ChangeShapes Go.WideShapes Go.ChangeAt Go.RowKit Go.PlainAid Go.Sort
set_option linter.unusedVariables false

/-- Six cells stored, one behind the other. -/
def put6 (w : World) (b : Nat) (u0 u1 u2 u3 u4 u5 : Value) : World := (((((w.setCell ⟨b, 0, none⟩ u0).setCell ⟨b, 1, none⟩ u1).setCell ⟨b, 2, none⟩ u2).setCell ⟨b, 3, none⟩ u3).setCell ⟨b, 4, none⟩ u4).setCell ⟨b, 5, none⟩ u5
theorem CdMem.all {w : World} {b : Nat} {v0 v1 v2 v3 v4 v5 : Value} (h : CdMem w b v0 v1 v2 v3 v4 v5) (u0 u1 u2 u3 u4 u5 : Value) : CdMem (put6 w b u0 u1 u2 u3 u4 u5) b u0 u1 u2 u3 u4 u5 := (((((h.set0 u0).set1 u1).set2 u2).set3 u3).set4 u4).set5 u5
theorem only_six (w : World) (b : Nat) (u0 u1 u2 u3 u4 u5 : Value) : Only (fun i => i = b) w (put6 w b u0 u1 u2 u3 u4 u5) :=
  ((((((Only.refl (fun i => i = b) w).put b 0 rfl u0).put b 1 rfl u1).put b 2 rfl u2).put b 3 rfl u3).put b 4 rfl u4).put b 5 rfl u5
theorem below_six {w0 w : World} (h : Below w0.heap.size w0 w) (b : Nat) (hb : w0.heap.size ≤ b) (u0 u1 u2 u3 u4 u5 : Value) : Below w0.heap.size w0 (put6 w b u0 u1 u2 u3 u4 u5) :=
  h.trans ((only_six w b u0 u1 u2 u3 u4 u5).below h.size (fun k hk => by rw [hk]; exact hb))

def Cd.zero : Cd := ⟨[], [], 0, 0, 0, 0⟩
end Go.Proofs.YtnlcdfaojcnkpaaDoor
