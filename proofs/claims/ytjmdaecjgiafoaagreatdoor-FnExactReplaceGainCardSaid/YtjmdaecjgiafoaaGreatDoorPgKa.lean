/- A list without one item, and with one more, in the program. -/
import Derived.Test.YtjmdaecjgiafoaaGreatDoorPgK
namespace Go.Proofs.YtjmdaecjgiafoaaGreatDoor
open Go.ChangeShapes Go.WideShapes Go.ChangeAt Go.RowKit Go.PlainAid
set_option linter.unusedVariables false

theorem ims_take {w : World} {B : Nat} {A : Option Addr} {xs : List Im} (h : Ims w B A xs) (k : Nat) : Ims w B A (xs.take k) := by
  refine ⟨fun hp => ?_, fun i hi => ?_⟩
  · rw [List.length_take] at hp
    obtain ⟨b, o, h1, h2, h3⟩ := h.out (by omega)
    refine ⟨b, o, h1, h2, fun i hi => ?_⟩
    rw [List.length_take] at hi
    rw [it_take _ _ _ (by omega)]
    exact h3 i (by omega)
  · rw [List.length_take] at hi
    rw [it_take _ _ _ (by omega)]
    exact h.each i (by omega)
theorem ims_drop {w : World} {B b o : Nat} {xs : List Im} (h : Ims w B (some ⟨b, o, none⟩) xs) (k : Nat) : Ims w B (some ⟨b, o + k * 3, none⟩) (xs.drop k) := by
  refine ⟨fun hp => ?_, fun i hi => ?_⟩
  · rw [List.length_drop] at hp
    obtain ⟨b', o', h1, h2, h3⟩ := h.out (by omega)
    cases h1
    refine ⟨b, o + k * 3, rfl, h2, fun i hi => ?_⟩
    rw [List.length_drop] at hi
    rw [it_drop]
    have := h3 (k + i) (by omega)
    rw [show o + k * 3 + i * Flat.sz Im = o + (k + i) * Flat.sz Im by show o + k * 3 + i * 3 = o + (k + i) * 3; omega]
    exact this
  · rw [List.length_drop] at hi
    rw [it_drop]
    exact h.each (k + i) (by omega)
theorem ims_none {w : World} {B : Nat} {A : Option Addr} {xs : List Im} (h : xs.length = 0) : Ims w B A xs := ⟨fun hp => absurd hp (by omega), fun i hi => absurd hi (by omega)⟩
/-- A list of one item, in a block of its own. -/
theorem one_ims {w : World} {g : Nat} {y : Im} (h0 : w.cell? ⟨g, 0, none⟩ = some (.slice y.A y.ns.length y.c)) (h1 : w.cell? ⟨g, 1, none⟩ = some (.slice y.L y.ms.length y.d)) (h2 : w.cell? ⟨g, 2, none⟩ = some (.bool y.late)) (hg : g < w.heap.size) (hy : ImIn w w.heap.size y) : Ims w w.heap.size (some ⟨g, 0, none⟩) [y] :=
  ⟨fun _ => ⟨g, 0, rfl, hg, fun i hi j v hv => by
    obtain rfl : i = 0 := by simpa using hi
    match j, hv with
    | 0, hv => obtain rfl := Option.some.inj hv; exact h0
    | 1, hv => obtain rfl := Option.some.inj hv; exact h1
    | 2, hv => obtain rfl := Option.some.inj hv; exact h2⟩, fun i hi => by
    obtain rfl : i = 0 := by simpa using hi
    exact hy⟩

end Go.Proofs.YtjmdaecjgiafoaaGreatDoor
