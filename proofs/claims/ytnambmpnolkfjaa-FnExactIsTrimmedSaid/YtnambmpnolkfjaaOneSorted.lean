/- SortedPoints in the program and in its model: both give the numbers in descending order, in memory of their own. -/
import Derived.Test.YtnambmpnolkfjaaOneSortS
import Derived.Test.YtnambmpnolkfjaaOneLaws3
import Derived.Laws.CopyOwn
namespace Go.Proofs.Ytnambmpnolkfjaa.One
open Go.ChangeShapes Go.WideShapes Go.ChangeAt Go.RowKit
set_option linter.unusedVariables false

def RowAt (w : World) (g : Nat) (xs : List Int) : Prop := ∀ i, i < xs.length → w.cell? ⟨g, i, none⟩ = some (.int .i64 (ix xs i)) ∧ w.frozen? ⟨g, i, none⟩ = false
theorem owned_of_own {w : World} {base : Nat} {v : Value} {ys : List Int} (h : w.ownsRow base 3 1 v ys.length (ys.map (Value.int .i64))) : ∃ A c, v = .slice A ys.length c ∧ Owned w base w.heap.size A ys := by
  rcases Joins.ownsRow_forms h with ⟨rfl, h0⟩ | ⟨g, cap, rfl⟩
  · exact ⟨none, 0, by rw [h0], Nat.le_refl _, fun hp => absurd hp (by omega)⟩
  · refine ⟨_, _, rfl, Nat.le_refl _, fun hp => ⟨g, rfl, (h.lt g rfl).1, (h.lt g rfl).2, fun i hi => ⟨?_, h.frozenAt i⟩⟩⟩
    rw [h.cellAt i (by omega), List.getElem?_map, List.getElem?_eq_getElem hi]
    simp [ix, List.getD_eq_getElem?_getD, List.getElem?_eq_getElem hi]
theorem owned_of_row {w : World} {base g : Nat} {ys : List Int} (h : RowAt w g ys) (hb : base ≤ g) (hg : g < w.heap.size) : Owned w base w.heap.size (some ⟨g, 0, none⟩) ys :=
  ⟨Nat.le_refl _, fun _ => ⟨g, rfl, hb, hg, h⟩⟩

/-- What a call that answers a list of its own leaves. -/
def Lists (w : World) (ok : Bool) (P : List Int → Prop) (e : Ending) (w' : World) : Prop :=
  ∃ A c ys, e = .returned (.tuple #[.slice A ys.length c, .bool ok]) ∧ P ys ∧ Owned w' w.heap.size w'.heap.size A ys ∧ Below w.heap.size w w'

theorem own_block {w : World} {base g n : Nat} {xs : List Value} (h : w.ownsRow base 3 1 (.slice (some ⟨g, 0, none⟩) n n) n xs) : w.heap[g]? = some (.cells xs.toArray 3 (0, 0)) := by
  rcases h.2 with ⟨h', _⟩ | ⟨g', cap', cur, h', _, hg, _, _, hcs, ht⟩
  · cases h'
  · cases h'
    rw [hg, ← ht, List.take_of_length_le (by simp; omega)]
theorem row_of_block {w : World} {g : Nat} {xs : List Int} (h : w.heap[g]? = some (.cells ((upto xs xs.length)).toArray 3 (0, 0))) : RowAt w g xs := fun i hi => by
  refine ⟨?_, frozen_of_row w g i _ _ h⟩
  rw [cell_of_row w g i _ _ _ h, List.getElem?_toArray, upto_get xs _ i hi, if_pos hi]
theorem lt_of_block {w : World} {g : Nat} {o : Obj} (h : w.heap[g]? = some o) : g < w.heap.size := by
  rcases Nat.lt_or_ge g w.heap.size with h' | h'
  · exact h'
  · rw [Array.getElem?_eq_none h'] at h; cases h

theorem upto_one (xs : List Int) (k : Nat) : ∀ u ∈ upto xs k, u.oneCell' = true := by
  intro u hu
  simp only [upto, List.mem_map] at hu
  obtain ⟨i, _, rfl⟩ := hu
  rfl
theorem splice_all (xs : List Int) : splice (upto xs 0) 0 (upto xs xs.length) = upto xs xs.length := by
  unfold splice
  rw [List.take_zero, List.nil_append, List.drop_of_length_le (by simp [upto_len]), List.append_nil]
theorem ints_src {w : World} {A : Option Addr} {xs : List Int} {B : Nat} (h : Ints w B A xs) (w' : World) (hb : Below B w w') : 0 < (upto xs xs.length).length → ∃ ad, A = some ad ∧ ∀ j v, (upto xs xs.length)[j]? = some v → w'.cell? (ad.add j) = some v := fun hp => by
  rw [upto_len] at hp
  obtain ⟨b, o, rfl, hlt, hc⟩ := h hp
  refine ⟨_, rfl, fun j v hj => ?_⟩
  have hjl : j < xs.length := by
    rcases Nat.lt_or_ge j xs.length with h | h
    · exact h
    · rw [List.getElem?_eq_none (by rw [upto_len]; exact h)] at hj; cases hj
  rw [upto_get xs _ j hjl, if_pos hjl] at hj
  have ha : (⟨b, o, none⟩ : Addr).add j = ⟨b, o + j, none⟩ := by unfold Addr.add; split <;> simp_all
  rw [ha, hb.cell (p := ⟨b, o + j, none⟩) hlt, hc j hjl]
  exact hj

end Go.Proofs.Ytnambmpnolkfjaa.One
