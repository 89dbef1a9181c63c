/- Copies of codes, in the program and in the model. -/
import Derived.Test.YtnlcdfaojcnkpaaDoorCdV
import Derived.Test.YtnlcdfaojcnkpaaDoorCdO
import Derived.Test.YtnlcdfaojcnkpaaDoorShelf
import Derived.Shelf.SlicesE.Clone
namespace Go.Proofs
open Go.Shelf
end Go.Proofs
namespace Go.Proofs.YtnlcdfaojcnkpaaDoor
open Go.ChangeShapes Go.WideShapes Go.ChangeAt Go.RowKit Go.PlainAid Go.Sort
set_option linter.unusedVariables false

theorem CellsAll {α : Type} [Flat α] {w : World} {b o : Nat} {xs : List α} (hs : 0 < Flat.sz α) (h : ∀ i, i < xs.length → CellsAt w b (o + i * Flat.sz α) (Flat.cells (it xs i))) :
    ∀ j u, (xs.flatMap Flat.cells)[j]? = some u → w.cell? ⟨b, o + j, none⟩ = some u := fun j u hj => by
  have hl : j < xs.length * Flat.sz α := by
    have := (List.getElem?_eq_some_iff.1 hj).1
    rwa [flat_len] at this
  have hd := Nat.div_add_mod j (Flat.sz α)
  have hm := Nat.mod_lt j hs
  have hq : j / Flat.sz α < xs.length := by
    rw [Nat.div_lt_iff_lt_mul hs]
    exact hl
  have hp : j = j / Flat.sz α * Flat.sz α + j % Flat.sz α := by
    rw [Nat.mul_comm]
    exact hd.symm
  rw [hp, flat_get _ _ _ hq hm] at hj
  have := h _ hq _ _ hj
  rw [show o + j / Flat.sz α * Flat.sz α + j % Flat.sz α = o + j by omega] at this
  exact this
theorem el_one (xs : List El) : ∀ u ∈ xs.flatMap Flat.cells, u.oneCell' = true := fun u hu => by
  obtain ⟨x, _, hx⟩ := List.mem_flatMap.1 hu
  have hx' : u ∈ El.cs x := hx
  unfold El.cs at hx'
  simp only [List.mem_cons, List.not_mem_nil, or_false] at hx'
  rcases hx' with rfl | rfl | rfl | rfl <;> rfl

/-- A slice of elements of the call's own, with the room behind it. -/
def ElRow (w : World) (B g n cap : Nat) (xs : List El) : Prop := w.ownsRow B 64 4 (.slice (some ⟨g, 0, none⟩) n cap) n (xs.flatMap Flat.cells) ∧ xs.length = n
theorem ElRow.own {w : World} {B g n cap : Nat} {xs : List El} (h : ElRow w B g n cap xs) : OwnAt w g 0 xs := by
  obtain ⟨h, rfl⟩ := h
  exact own_of_row (α := El) (cap := cap) (e := 64) (base := B) xs h
theorem ElRow.le {w : World} {B g n cap : Nat} {xs : List El} (h : ElRow w B g n cap xs) : B ≤ g := (h.1.lt g rfl).1
theorem ElRow.lt {w : World} {B g n cap : Nat} {xs : List El} (h : ElRow w B g n cap xs) : g < w.heap.size := (h.1.lt g rfl).2

theorem cloneI_any (b o c : Nat) (xs : List Int) (w : World) (hc : ∀ i, i < xs.length → w.cell? ⟨b, o + i, none⟩ = some (.int .i64 (it xs i))) (hl : xs.length ≤ 1048576) :
    Calls Tryd.prog 108 #[.slice (some ⟨b, o, none⟩) xs.length c] w fun e w' => ∃ g cap, e = .returned (.slice (some ⟨g, 0, none⟩) xs.length cap) ∧ OwnAt w' g 0 xs ∧ w.heap.size ≤ g ∧ g < w'.heap.size ∧ Below w.heap.size w w' := by
  refine (Tryd.slices_Clone_int b o xs.length c xs w (Nat.le_refl _) (by omega) hc).mono ?_
  rintro e w' ⟨v, rfl, ho, hne, hb⟩
  rw [List.take_length] at ho
  rcases ho.2 with ⟨hv, _⟩ | ⟨g, cap, cur, rfl, _⟩
  · exact absurd hv hne
  · refine ⟨g, cap, rfl, ?_, (ho.lt g rfl).1, (ho.lt g rfl).2, hb⟩
    refine own_of_row (α := Int) (cap := cap) (e := 3) (base := w.heap.size) xs ?_
    rw [flatMap_int]
    exact ho
theorem ownsRow_block {w w' : World} {B : Nat} {e : TypeId} {sz g o n cap : Nat} {xs : List Value} (h : w.ownsRow B e sz (.slice (some ⟨g, o, none⟩) n cap) n xs) (hb : w'.heap[g]? = w.heap[g]?) : w'.ownsRow B e sz (.slice (some ⟨g, o, none⟩) n cap) n xs := by
  refine ⟨h.1, ?_⟩
  rcases h.2 with ⟨hv, _⟩ | ⟨g', cap', cur, hv, h1, h2, h3⟩
  · cases hv
  · refine .inr ⟨g', cap', cur, hv, h1, ?_, h3⟩
    have hg : g = g' := by injection hv with hv; injection hv with hv; injection hv
    rw [← hg] at h2 ⊢
    rw [hb]
    exact h2
theorem ElRow.block {w w' : World} {B g n cap : Nat} {xs : List El} (h : ElRow w B g n cap xs) (hb : w'.heap[g]? = w.heap[g]?) : ElRow w' B g n cap xs := ⟨ownsRow_block h.1 hb, h.2⟩
theorem ElRow.next {w w' : World} {B g n cap : Nat} {xs : List El} (h : ElRow w B g n cap xs) (hb : Below w.heap.size w w') : ElRow w' B g n cap xs := h.block (hb.block g h.lt)
theorem ElRow.base {w : World} {B B' g n cap : Nat} {xs : List El} (h : ElRow w B g n cap xs) (hB : B' ≤ B) : ElRow w B' g n cap xs := by
  refine ⟨⟨h.1.1, ?_⟩, h.2⟩
  rcases h.1.2 with ⟨hv, hn⟩ | ⟨g', cap', cur, hv, h1, h2⟩
  · exact .inl ⟨hv, hn⟩
  · exact .inr ⟨g', cap', cur, hv, Nat.le_trans hB h1, h2⟩

end Go.Proofs.YtnlcdfaojcnkpaaDoor
