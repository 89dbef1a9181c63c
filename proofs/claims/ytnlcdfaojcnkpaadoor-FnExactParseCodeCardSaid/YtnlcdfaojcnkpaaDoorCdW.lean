/- What a law whose answer is a code carries from call to call. -/
import Derived.Test.YtnlcdfaojcnkpaaDoorBc
import Derived.Test.YtnlcdfaojcnkpaaDoorCdS
namespace Go.Proofs.YtnlcdfaojcnkpaaDoor
open Go.ChangeShapes Go.WideShapes Go.ChangeAt Go.RowKit Go.PlainAid Go.Sort
set_option linter.unusedVariables false

/-- A code in blocks below B. -/
structure AtB (w : World) (B : Nat) (A L : Option Addr) (x : Cd) : Prop where
  els : Lst w B A x.els
  lims : Lst w B L x.lims
  le : B ≤ w.heap.size
/-- A code's box, in a block below B. -/
structure BoxB (w : World) (B b : Nat) (A : Option Addr) (c : Nat) (L : Option Addr) (d : Nat) (x : Cd) : Prop where
  lt : b < B
  le : B ≤ w.heap.size
  box : CdBox w b A c L d x
section
variable {w w' : World} {B b : Nat} {A : Option Addr} {c : Nat} {L : Option Addr} {d : Nat} {x : Cd}
theorem AtB.mk' (h : CdAt w A L x) : AtB w w.heap.size A L x := ⟨h.els, h.lims, Nat.le_refl _⟩
theorem AtB.goB (h : AtB w B A L x) (hb : Below B w w') : AtB w' B A L x := ⟨h.els.below hb (Nat.le_refl _), h.lims.below hb (Nat.le_refl _), Nat.le_trans h.le hb.size⟩
theorem AtB.next (h : AtB w B A L x) (hb : Below w.heap.size w w') : AtB w' B A L x := h.goB (hb.mono h.le)
theorem AtB.at_ (h : AtB w B A L x) : CdAt w A L x := ⟨h.els.up h.le, h.lims.up h.le⟩
theorem BoxB.mk' (h : BoxAt w b A c L d x) : BoxB w w.heap.size b A c L d x := ⟨h.lt, Nat.le_refl _, h.box⟩
theorem BoxB.goB (h : BoxB w B b A c L d x) (hb : Below B w w') : BoxB w' B b A c L d x := ⟨h.lt, Nat.le_trans h.le hb.size, h.box.below hb h.lt⟩
theorem BoxB.next (h : BoxB w B b A c L d x) (hb : Below w.heap.size w w') : BoxB w' B b A c L d x := h.goB (hb.mono h.le)
end
end Go.Proofs.YtnlcdfaojcnkpaaDoor
