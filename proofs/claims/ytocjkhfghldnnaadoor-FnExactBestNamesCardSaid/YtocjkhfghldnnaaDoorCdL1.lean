/- The walk of the law IsCode: it answers true at every code. -/
import Derived.Test.YtocjkhfghldnnaaDoorCdI
import Derived.Deep.RegionHeld3
namespace Go.Proofs.YtocjkhfghldnnaaDoor
open Go.ChangeShapes Go.WideShapes Go.ChangeAt Go.RowKit Go.PlainAid Go.Sort
set_option linter.unusedVariables false

/-- The cells of two boxes. -/
theorem box2 {w : World} {b b' : Nat} {A L A' L' : Option Addr} {c d c' d' : Nat} {x x' : Cd} (h : BoxAt w b A c L d x) (k : BoxAt w b' A' c' L' d' x') :
    w.cell? ⟨b, 0, none⟩ = some (.slice A x.els.length c) ∧ w.cell? ⟨b, 1, none⟩ = some (.slice L x.lims.length d) ∧ w.cell? ⟨b, 2, none⟩ = some (.int .i64 x.rep) ∧ w.cell? ⟨b, 3, none⟩ = some (.int .i64 x.bon) ∧ w.cell? ⟨b, 4, none⟩ = some (.int .i64 x.kee) ∧ w.cell? ⟨b, 5, none⟩ = some (.int .i64 x.fal) ∧
    w.cell? ⟨b', 0, none⟩ = some (.slice A' x'.els.length c') ∧ w.cell? ⟨b', 1, none⟩ = some (.slice L' x'.lims.length d') ∧ w.cell? ⟨b', 2, none⟩ = some (.int .i64 x'.rep) ∧ w.cell? ⟨b', 3, none⟩ = some (.int .i64 x'.bon) ∧ w.cell? ⟨b', 4, none⟩ = some (.int .i64 x'.kee) ∧ w.cell? ⟨b', 5, none⟩ = some (.int .i64 x'.fal) :=
  ⟨h.box.c0, h.box.c1, h.box.c2, h.box.c3, h.box.c4, h.box.c5, k.box.c0, k.box.c1, k.box.c2, k.box.c3, k.box.c4, k.box.c5⟩
theorem below_drewn (w : World) : Below w.heap.size w w.drew := (Below.refl _ _).drew

end Go.Proofs.YtocjkhfghldnnaaDoor
