/- Boxes of sheets, for the laws' walks. -/
import Derived.Test.YtbhfhjhegcfdkaaShH
namespace Go.Proofs.Ytbhfhjhegcfdkaa
open Go.ChangeShapes Go.WideShapes Go.ChangeAt Go.RowKit
set_option linter.unusedVariables false

theorem shBox_cells {w : World} {b b' : Nat} {v0 v1 v2 u0 u1 u2 : Value} (h : ImMem w b v0 v1 v2) (k : ImMem w b' u0 u1 u2) : w.cell? ⟨b, 0, none⟩ = some v0 ∧ w.cell? ⟨b, 1, none⟩ = some v1 ∧ w.cell? ⟨b, 2, none⟩ = some v2 ∧ w.cell? ⟨b', 0, none⟩ = some u0 ∧ w.cell? ⟨b', 1, none⟩ = some u1 ∧ w.cell? ⟨b', 2, none⟩ = some u2 :=
  ⟨h.c0, h.c1, h.c2, k.c0, k.c1, k.c2⟩
structure ShBox (w : World) (b : Nat) (x : Sh) : Prop where
  lt : b < w.heap.size
  mem : ImMem w b (.slice x.P x.l.length x.c) (.slice x.V.A x.V.xs.length x.V.c) (.slice x.R x.rv.length x.e)
theorem ShBox.next {w w' : World} {b : Nat} {x : Sh} (h : ShBox w b x) (hb : Below w.heap.size w w') : ShBox w' b x := ⟨Nat.lt_of_lt_of_le h.lt hb.size, h.mem.below hb h.lt⟩
theorem shBox_new (w : World) (t : TypeId) (x : Sh) : ShBox (w.alloc (.cells #[.slice x.P x.l.length x.c, .slice x.V.A x.V.xs.length x.V.c, .slice x.R x.rv.length x.e] t)) w.heap.size x := ⟨by simp, imMem_new w _ t rfl _ _ _⟩
end Go.Proofs.Ytbhfhjhegcfdkaa
