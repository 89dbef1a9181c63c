/- What a law over a code carries from call to call. -/
import Derived.Test.YtocjkhfghldnnaaDoorCdL1
namespace Go.Proofs.YtocjkhfghldnnaaDoor
open Go.ChangeShapes Go.WideShapes Go.ChangeAt Go.RowKit Go.PlainAid Go.Sort
set_option linter.unusedVariables false

/-- The law's own argument and its box, in blocks below B. -/
structure LawAt (w0 w : World) (B : Nat) (A : Option Addr) (c : Nat) (L : Option Addr) (d : Nat) (x : Cd) : Prop where
  bel : Below w0.heap.size w0 w
  box : CdBox w w0.heap.size A c L d x
  lt : w0.heap.size < B
  le : B ≤ w.heap.size
  els : Lst w B A x.els
  lims : Lst w B L x.lims
  tab : Tab w
  tlt : 0 < B
section
variable {w0 w w' : World} {B : Nat} {A : Option Addr} {c : Nat} {L : Option Addr} {d : Nat} {x : Cd}
theorem LawAt.mk' (hb : Below w0.heap.size w0 w) (hx : BoxAt w w0.heap.size A c L d x) (hr : CdAt w A L x) (ht : Tab w) : LawAt w0 w w.heap.size A c L d x :=
  ⟨hb, hx.box, hx.lt, Nat.le_refl _, hr.els, hr.lims, ht, ht.lt⟩
theorem LawAt.goB (h : LawAt w0 w B A c L d x) (hb : Below B w w') : LawAt w0 w' B A c L d x :=
  ⟨h.bel.trans (hb.mono (Nat.le_of_lt h.lt)), h.box.below hb h.lt, h.lt, Nat.le_trans h.le hb.size, h.els.below hb (Nat.le_refl _), h.lims.below hb (Nat.le_refl _),
    ⟨Nat.lt_of_lt_of_le h.tlt (Nat.le_trans h.le hb.size), var?_below hb gBound h.tlt h.tab.var⟩, h.tlt⟩
theorem LawAt.next (h : LawAt w0 w B A c L d x) (hb : Below w.heap.size w w') : LawAt w0 w' B A c L d x := h.goB (hb.mono h.le)
theorem LawAt.at_ (h : LawAt w0 w B A c L d x) : CdAt w A L x := ⟨h.els.up h.le, h.lims.up h.le⟩
theorem LawAt.boxAt (h : LawAt w0 w B A c L d x) : BoxAt w w0.heap.size A c L d x := ⟨Nat.lt_of_lt_of_le h.lt h.le, h.box⟩
end
theorem Lst.next {α : Type} [Flat α] {w w' : World} {A : Option Addr} {xs : List α} (h : Lst w w.heap.size A xs) (hb : Below w.heap.size w w') : Lst w' w'.heap.size A xs := (h.below hb (Nat.le_refl _)).up hb.size
end Go.Proofs.YtocjkhfghldnnaaDoor
