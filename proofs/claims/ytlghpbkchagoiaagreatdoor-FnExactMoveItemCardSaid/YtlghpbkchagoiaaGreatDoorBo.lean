/- CleanItems in the model. CleanItems in the program. -/
import Derived.Test.YtlghpbkchagoiaaGreatDoorBe
import Derived.Test.YtlghpbkchagoiaaGreatDoorShelf
namespace Go.Proofs.YtlghpbkchagoiaaGreatDoor
open Go.ChangeShapes Go.WideShapes Go.ChangeAt Go.RowKit Go.PlainAid
set_option linter.unusedVariables false

end Go.Proofs.YtlghpbkchagoiaaGreatDoor

namespace Go.Proofs.YtlghpbkchagoiaaGreatDoor
open Go.ChangeShapes Go.WideShapes Go.ChangeAt Go.RowKit Go.PlainAid
set_option linter.unusedVariables false

theorem ClnTo.set {w : World} {xs ys : List Im} {G : Nat → Nat} {k g1 g2 : Nat} {y : Im} (h : ClnTo w xs ys G k) (hk : k < ys.length) (hy : ClnAt w (it xs k) y g1 g2) : ClnTo w xs (ys.set k y) (grow2 G k g1 g2) (k + 1) := fun j hj => by
  rw [it_set _ _ _ _ hk]
  by_cases e : j = k
  · subst e
    rw [if_pos rfl, grow2_0, grow2_1]
    exact hy
  · rw [if_neg e, grow2_lt (by omega), grow2_lt (by omega)]
    exact h j (by omega)
/-- One item stored: what is known then. -/
theorem cln_set {w1 wr w3 : World} {xs ys : List Im} {G : Nat → Nat} {k g1 g2 : Nat} {y : Im}
    (hC : ClnTo wr xs ys G k) (hO : OwnAt w3 w1.heap.size 0 ys) (hA : Apart G (w1.heap.size + 1) wr.heap.size (2 * k)) (hs : w1.heap.size < wr.heap.size) (hb3 : Below wr.heap.size wr w3) (hB : Below w1.heap.size w1 wr) (hk : k < ys.length)
    (hq : wr.heap.size + 1 ≤ g1 ∧ wr.heap.size + 1 ≤ g2 ∧ g1 ≠ g2 ∧ g1 < w3.heap.size ∧ g2 < w3.heap.size) (hy : ClnAt w3 (it xs k) y g1 g2) :
    ClnTo (putAt w1.heap.size (k * 3) w3 0 (Flat.cells y)) xs (ys.set k y) (grow2 G k g1 g2) (k + 1) ∧ OwnAt (putAt w1.heap.size (k * 3) w3 0 (Flat.cells y)) w1.heap.size 0 (ys.set k y) ∧ Apart (grow2 G k g1 g2) (w1.heap.size + 1) (putAt w1.heap.size (k * 3) w3 0 (Flat.cells y)).heap.size (2 * (k + 1)) ∧ w1.heap.size < (putAt w1.heap.size (k * 3) w3 0 (Flat.cells y)).heap.size ∧ Below w1.heap.size w1 (putAt w1.heap.size (k * 3) w3 0 (Flat.cells y)) := by
  obtain ⟨l1, l2, lne, l3, l4⟩ := hq
  have hsz := putAt_size w1.heap.size (k * 3) (Flat.cells y) w3 0
  have hk3 := putAt_only (S := fun i => i = w1.heap.size) rfl (k * 3) (Flat.cells y) w3 w3 0 (Only.refl _ _)
  have hbs := hb3.size
  have k4 : ∀ i, i < 2 * k → (putAt w1.heap.size (k * 3) w3 0 (Flat.cells y)).heap[G i]? = wr.heap[G i]? := fun i hi => by
    have h1 := hA.hi i hi
    have h2 := hA.lo i hi
    rw [hk3.block _ (by omega) (by omega)]
    exact hb3.block _ h1
  have hp := hO.put k y hk
  rw [show 0 + k * Flat.sz Im = k * 3 from Nat.zero_add _] at hp
  refine ⟨(hC.keep k4).set hk (hy.keep (hk3.block _ l3 (by omega)) (hk3.block _ l4 (by omega))), hp, hA.grow' (by omega) (by omega) (by omega) lne (by omega) (by omega), by omega, ?_⟩
  exact (below_next hB hb3).trans (hk3.below (by omega) (fun i e => Nat.le_of_eq e.symm))
theorem ImBox.threeAt {w : World} {b : Nat} {x : Im} (h : ImBox w b x) (b' o : Nat) (hne : b ≠ b') (u0 u1 u2 : Value) : ImBox (((w.setCell ⟨b', o, none⟩ u0).setCell ⟨b', o + 1, none⟩ u1).setCell ⟨b', o + 2, none⟩ u2) b x := by
  have hk : Only (fun i => i = b') w (((w.setCell ⟨b', o, none⟩ u0).setCell ⟨b', o + 1, none⟩ u1).setCell ⟨b', o + 2, none⟩ u2) :=
    Only.put (S := fun i => i = b') (Only.put (S := fun i => i = b') (Only.put (S := fun i => i = b') (Only.refl _ w) b' _ rfl _) b' _ rfl _) b' _ rfl _
  have hb := hk.block b h.lt (fun e => hne e)
  exact ⟨Nat.lt_of_lt_of_le h.lt hk.size, (World.cell?_of_block (a := ⟨b, 0, none⟩) hb).trans h.c0, (World.cell?_of_block (a := ⟨b, 1, none⟩) hb).trans h.c1, (World.cell?_of_block (a := ⟨b, 2, none⟩) hb).trans h.c2⟩
theorem clone_any (A : Option Addr) (c : Nat) (l : List ByteArray) (w : World) (hr : Lst w w.heap.size A l) (hl : l.length ≤ 1048576) (hp : 0 < l.length) :
    Calls Tryz.prog 84 #[.slice A l.length c] w fun e w' => ∃ g cap, e = .returned (.slice (some ⟨g, 0, none⟩) l.length cap) ∧ OwnAt w' g 0 l ∧ w.heap.size ≤ g ∧ g < w'.heap.size ∧ Below w.heap.size w w' := by
  obtain ⟨b, o, rfl, hbl, hc⟩ := hr.str hp
  obtain ⟨i0, hi, hz0, hz1, hz2⟩ := info_parts Tryz.infoStr
  refine (Tryz.slices_Clone i0 (.string ⟨#[]⟩) 1 16 hi hz0 hz1 hz2 rfl (by decide) Tryz.sizeOf9 b o l.length c (l.map Value.string) w (by simp) (by unfold maxLen; omega) (by omega) (fun j u hj => ?_) (str_one l)).mono ?_
  · have hj' : j < l.length := by
      have := (List.getElem?_eq_some_iff.1 hj).1
      simpa using this
    rw [List.getElem?_map, it_get l j hj'] at hj
    have hu : Value.string (it l j) = u := by simpa using hj
    rw [← hu]
    exact hc j hj'
  · rintro e w' ⟨v', rfl, hown, _, hb⟩
    obtain ⟨g, cap, rfl, h1, h2⟩ := row_pos hown hp
    exact ⟨g, cap, rfl, own_of_row (α := ByteArray) (cap := cap) (e := 9) (base := w.heap.size) l (by rw [flatMap_str]; exact hown), h1, h2, hb⟩

end Go.Proofs.YtlghpbkchagoiaaGreatDoor
