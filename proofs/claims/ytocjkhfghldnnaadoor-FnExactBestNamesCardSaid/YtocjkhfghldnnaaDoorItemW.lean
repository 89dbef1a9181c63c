/- The walks of the laws AreItems and IsItem. -/
import Derived.Test.YtocjkhfghldnnaaDoorItemO
import Derived.Deep.RegionHeld3
namespace Go.Proofs.YtocjkhfghldnnaaDoor
open Go.ChangeShapes Go.WideShapes Go.ChangeAt Go.RowKit
set_option linter.unusedVariables false

/-- A block with the three cells of an item. -/
structure ImBox (w : World) (b : Nat) (x : Im) : Prop where
  lt : b < w.heap.size
  c0 : w.cell? ⟨b, 0, none⟩ = some (.slice x.A x.ns.length x.c)
  c1 : w.cell? ⟨b, 1, none⟩ = some (.slice x.L x.ms.length x.d)
  c2 : w.cell? ⟨b, 2, none⟩ = some (.bool x.late)
theorem ImBox.next {w w' : World} {b : Nat} {x : Im} (h : ImBox w b x) (hb : Below w.heap.size w w') : ImBox w' b x :=
  ⟨Nat.lt_of_lt_of_le h.lt hb.size, (hb.cell (p := ⟨b, 0, none⟩) h.lt).trans h.c0, (hb.cell (p := ⟨b, 1, none⟩) h.lt).trans h.c1, (hb.cell (p := ⟨b, 2, none⟩) h.lt).trans h.c2⟩
theorem imBox_new (w : World) (t : TypeId) (x : Im) : ImBox (w.alloc (.cells #[.slice x.A x.ns.length x.c, .slice x.L x.ms.length x.d, .bool x.late] t)) w.heap.size x := by
  constructor <;> simp
theorem imBox2 {w : World} {b b' : Nat} {x y : Im} (h : ImBox w b x) (k : ImBox w b' y) :
    w.cell? ⟨b, 0, none⟩ = some (.slice x.A x.ns.length x.c) ∧ w.cell? ⟨b, 1, none⟩ = some (.slice x.L x.ms.length x.d) ∧ w.cell? ⟨b, 2, none⟩ = some (.bool x.late) ∧ w.cell? ⟨b', 0, none⟩ = some (.slice y.A y.ns.length y.c) ∧ w.cell? ⟨b', 1, none⟩ = some (.slice y.L y.ms.length y.d) ∧ w.cell? ⟨b', 2, none⟩ = some (.bool y.late) :=
  ⟨h.c0, h.c1, h.c2, k.c0, k.c1, k.c2⟩
end Go.Proofs.YtocjkhfghldnnaaDoor
