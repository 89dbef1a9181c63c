/- The walks of the laws AreItems and IsItem. -/
import Derived.Test.YtbhfhjhegcfdkaaItemO
import Derived.Deep.RegionHeld3
namespace Go.Proofs.Ytbhfhjhegcfdkaa
open Go.ChangeShapes Go.WideShapes Go.ChangeAt Go.RowKit
set_option linter.unusedVariables false

theorem iAreItems_n (P : Option Addr) (c n : Nat) (xs : List Im) (hn : xs.length = n) (w : World) (hr : Ims w w.heap.size P xs) (hl : ImsFits xs) :
    Calls Try.prog 47 #[.slice P n c] w fun e w' => e = .returned (.bool (pB (ListOk xs))) ∧ Below w.heap.size w w' := by
  subst hn
  exact iAreItems_any P c xs w hr hl
theorem eqItemS_n (P P' : Option Addr) (c c' n : Nat) (xs ys : List Im) (hn : xs.length = n) (w : World) (hs : SameS xs ys) (hr : Ims w w.heap.size P xs) (hr' : Ims w w.heap.size P' ys) (hl : ImsFits xs) :
    Calls Try.prog 8 #[.slice P n c, .slice P' n c'] w fun e w' => e = .returned (.bool true) ∧ Below w.heap.size w w' := by
  subst hn
  exact eqItemS_yes P P' c c' xs ys w hs hr hr' hl

/-- A block with the three cells of an item. -/
structure ImBox (w : World) (b : Nat) (x : Im) : Prop where
  lt : b < w.heap.size
  c0 : w.cell? ⟨b, 0, none⟩ = some (.slice x.A x.ns.length x.c)
  c1 : w.cell? ⟨b, 1, none⟩ = some (.slice x.L x.ms.length x.d)
  c2 : w.cell? ⟨b, 2, none⟩ = some (.bool x.late)
theorem ImBox.next {w w' : World} {b : Nat} {x : Im} (h : ImBox w b x) (hb : Below w.heap.size w w') : ImBox w' b x :=
  ⟨Nat.lt_of_lt_of_le h.lt hb.size, (hb.cell (p := ⟨b, 0, none⟩) h.lt).trans h.c0, (hb.cell (p := ⟨b, 1, none⟩) h.lt).trans h.c1, (hb.cell (p := ⟨b, 2, none⟩) h.lt).trans h.c2⟩
theorem imBox_new (w : World) (t : TypeId) (x : Im) : ImBox (w.alloc (.cells #[.slice x.A x.ns.length x.c, .slice x.L x.ms.length x.d, .bool x.late] t)) w.heap.size x := by
  constructor <;> simp
theorem imBox2 {w : World} {b b' : Nat} {x y : Im} (h : ImBox w b x) (k : ImBox w b' y) :
    w.cell? ⟨b, 0, none⟩ = some (.slice x.A x.ns.length x.c) ∧ w.cell? ⟨b, 1, none⟩ = some (.slice x.L x.ms.length x.d) ∧ w.cell? ⟨b, 2, none⟩ = some (.bool x.late) ∧ w.cell? ⟨b', 0, none⟩ = some (.slice y.A y.ns.length y.c) ∧ w.cell? ⟨b', 1, none⟩ = some (.slice y.L y.ms.length y.d) ∧ w.cell? ⟨b', 2, none⟩ = some (.bool y.late) :=
  ⟨h.c0, h.c1, h.c2, k.c0, k.c1, k.c2⟩
end Go.Proofs.Ytbhfhjhegcfdkaa
