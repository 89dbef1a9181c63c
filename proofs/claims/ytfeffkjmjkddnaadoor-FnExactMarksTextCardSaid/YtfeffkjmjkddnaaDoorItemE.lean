/- Items compared, marked, held. -/
import Derived.Test.YtfeffkjmjkddnaaDoorItemT
namespace Go.Proofs.YtfeffkjmjkddnaaDoor
open Go.ChangeShapes Go.WideShapes Go.ChangeAt Go.RowKit
set_option linter.unusedVariables false

theorem below_drewN (w : World) (n : Nat) : Below w.heap.size w (w.drewN n) := ⟨rfl, rfl, rfl, Nat.le_refl _, fun _ _ => rfl⟩
theorem below_drew (w : World) : Below w.heap.size w w.drew := (Below.refl _ _).drew
theorem eqIntS_b (A A' : Option Addr) (c c' : Nat) (xs : List Int) (w : World) (hr : Lst w w.heap.size A xs) (hr' : Lst w w.heap.size A' xs) (hl : xs.length ≤ 1048576) :
    Calls Tryd.prog 35 #[.slice A xs.length c, .slice A' xs.length c'] w fun e w' => e = .returned (.bool true) ∧ Below w.heap.size w w' :=
  (eqIntS_yes A A' c c' xs w hr hr' hl).mono (by rintro e w' ⟨rfl, n, rfl⟩; exact ⟨rfl, below_drewN _ _⟩)
/-- The same item, wherever it lies. -/
structure Same (x y : Im) : Prop where
  ns : y.ns = x.ns
  ms : y.ms = x.ms
  late : y.late = x.late
theorem Same.refl (x : Im) : Same x x := ⟨rfl, rfl, rfl⟩
theorem Same.symm {x y : Im} (h : Same x y) : Same y x := ⟨h.ns.symm, h.ms.symm, h.late.symm⟩
theorem Same.trans {x y z : Im} (h : Same x y) (k : Same y z) : Same x z := ⟨k.ns.trans h.ns, k.ms.trans h.ms, k.late.trans h.late⟩
theorem Same.fits {x y : Im} (h : Same x y) (k : ItFits x) : ItFits y := ⟨h.ns ▸ k.ns, h.ms ▸ k.ms⟩
theorem same_cpy (x : Im) (g1 g2 : Nat) : Same x (x.cpy g1 g2) := ⟨rfl, rfl, rfl⟩
/-- The same list, wherever it lies. -/
structure SameS (xs ys : List Im) : Prop where
  len : ys.length = xs.length
  each : ∀ i, i < xs.length → Same (it xs i) (it ys i)
theorem SameS.refl (xs : List Im) : SameS xs xs := ⟨rfl, fun _ _ => Same.refl _⟩
theorem SameS.symm {xs ys : List Im} (h : SameS xs ys) : SameS ys xs := ⟨h.len.symm, fun i hi => (h.each i (by have := h.len; omega)).symm⟩
theorem SameS.trans {xs ys zs : List Im} (h : SameS xs ys) (k : SameS ys zs) : SameS xs zs := ⟨k.len.trans h.len, fun i hi => (h.each i hi).trans (k.each i (by have := h.len; omega))⟩
theorem SameS.fits {xs ys : List Im} (h : SameS xs ys) (k : ImsFits xs) : ImsFits ys := ⟨by have := h.len; have := k.len; omega, fun i hi => (h.each i (by have := h.len; omega)).fits (k.each i (by have := h.len; omega))⟩

end Go.Proofs.YtfeffkjmjkddnaaDoor
