/- A list without one item, and with one more, in the model: the items keep their names and marks where they lie. -/
import Derived.Test.YtjmdaecjgiafoaaGreatDoorBi
import Derived.Test.YtjmdaecjgiafoaaGreatDoorBf
import Derived.Deep.RegionHeld3
import Derived.IntWalk
namespace Go.Proofs.YtjmdaecjgiafoaaGreatDoor
open Go.ChangeShapes Go.WideShapes Go.ChangeAt Go.RowKit Go.PlainAid
set_option linter.unusedVariables false

section
variable {α : Type} [Flat α]
theorem add_off (b o j : Nat) : (⟨b, o, none⟩ : Addr).add j = ⟨b, o + j, none⟩ := by
  unfold Addr.add
  by_cases e : j = 0 <;> simp [e]
theorem it_take (xs : List α) (m i : Nat) (hi : i < m) : it (xs.take m) i = it xs i := by
  unfold it
  rw [List.getD_eq_getElem?_getD, List.getD_eq_getElem?_getD, List.getElem?_take, if_pos hi]
theorem it_drop (xs : List α) (k i : Nat) : it (xs.drop k) i = it xs (k + i) := by
  unfold it
  rw [List.getD_eq_getElem?_getD, List.getD_eq_getElem?_getD, List.getElem?_drop]
/-- The cells of a part of a list, where they lie. -/
theorem part_src {w W : World} {B : Nat} {A : Option Addr} {xs : List α} (hs : 0 < Flat.sz α) (h : Lst w B A xs) (hb : Below B w W) (k m : Nat) (hk : k + m ≤ xs.length) (hm : 0 < m) :
    ∃ b o, A = some ⟨b, o, none⟩ ∧ ∀ j u, (((xs.drop k).take m).flatMap Flat.cells)[j]? = some u → W.cell? ⟨b, o + k * Flat.sz α + j, none⟩ = some u := by
  obtain ⟨b, o, rfl, hbl, hc⟩ := h (by omega)
  refine ⟨b, o, rfl, fun j u hj => ?_⟩
  have hlen := (List.getElem?_eq_some_iff.1 hj).1
  have hzl : ((xs.drop k).take m).length = m := by rw [List.length_take, List.length_drop]; omega
  rw [flat_len, hzl] at hlen
  have hq : j / Flat.sz α < m := Nat.div_lt_of_lt_mul (by rw [Nat.mul_comm]; exact hlen)
  have hr : j % Flat.sz α < Flat.sz α := Nat.mod_lt _ hs
  have e : j = j / Flat.sz α * Flat.sz α + j % Flat.sz α := by rw [Nat.mul_comm]; exact (Nat.div_add_mod j _).symm
  rw [e, flat_get _ _ _ (by rw [hzl]; exact hq) hr, it_take _ _ _ hq, it_drop] at hj
  have := (hc (k + j / Flat.sz α) (by omega)).below hb hbl _ _ hj
  rw [← this]
  congr 2
  rw [Nat.add_mul]
  omega
end
theorem head_src {w W : World} {B b o : Nat} {xs : List Im} (h : Lst w B (some ⟨b, o, none⟩) xs) (hb : Below B w W) (k : Nat) (hk : k ≤ xs.length) (hp : 0 < k) :
    ∀ j u, ((xs.take k).flatMap Flat.cells)[j]? = some u → W.cell? ((⟨b, o, none⟩ : Addr).add j) = some u := fun j u hj => by
  obtain ⟨b', o', e, hc⟩ := part_src (by decide) h hb 0 k (by omega) hp
  cases e
  have := hc j u (by rw [List.drop_zero]; exact hj)
  rw [add_off, ← this, Nat.zero_mul, Nat.add_zero]
theorem tail_src {w W : World} {B b o : Nat} {xs : List Im} (h : Lst w B (some ⟨b, o, none⟩) xs) (hb : Below B w W) (k : Nat) (hk : k < xs.length) :
    ∀ j u, ((xs.drop k).flatMap Flat.cells)[j]? = some u → W.cell? ((⟨b, o + k * 3, none⟩ : Addr).add j) = some u := fun j u hj => by
  obtain ⟨b', o', e, hc⟩ := part_src (by decide) h hb k (xs.length - k) (by omega) (by omega)
  cases e
  have := hc j u (by rw [List.take_of_length_le (by rw [List.length_drop]; exact Nat.le_refl _)]; exact hj)
  rw [add_off, ← this]
  rfl
theorem own_from {B a : Nat} {o p : Option Nat} (h : o = p ∨ o = some a) (hp : ∀ k, p = some k → B ≤ k) (ha : B ≤ a) : ∀ k, o = some k → B ≤ k := fun k e => by
  rcases h with h | h
  · exact hp k (h ▸ e)
  · rw [h] at e
    cases e
    exact ha
theorem below_adn0 (w : World) (o : Obj) : Below w.heap.size w (w.drew.alloc o) := below_next (below_drew w) (below_alloc _ o)
/-- A slice that a call has made: nil, or at the head of a block; its room. -/
structure RowOk (R : Option Addr) (n d : Nat) : Prop where
  le : n ≤ d
  hi : d ≤ 9223372036854775807
  form : (R = none ∧ d = 0) ∨ ∃ b o, R = some ⟨b, o, none⟩
/-- A row of items is a list of them. -/
theorem ims_of_row {w : World} {B : Nat} {e : TypeId} {v : Value} (ys : List Im) (h : w.ownsRow B e 3 v ys.length (ys.flatMap Flat.cells)) (hy : ∀ i, i < ys.length → ImIn w w.heap.size (it ys i)) :
    ∃ R d, v = .slice R ys.length d ∧ RowOk R ys.length d ∧ Ims w w.heap.size R ys := by
  rcases h.2 with ⟨hv, h0⟩ | ⟨g, cap, cur, rfl, h3, h4, h5⟩
  · exact ⟨none, 0, by rw [hv, h0], ⟨by omega, by omega, .inl ⟨rfl, rfl⟩⟩, fun hp => absurd hp (by omega), hy⟩
  · have hlt := h.lt g rfl
    exact ⟨some ⟨g, 0, none⟩, cap, rfl, ⟨h5.1, by have := h5.2.1; unfold maxLen at this; exact this, .inr ⟨g, 0, rfl⟩⟩, fun _ => ⟨g, 0, rfl, hlt.2, (own_of_row (α := Im) (cap := cap) (e := e) (base := B) ys h).cell⟩, hy⟩
theorem it_erase (xs : List Im) (k i : Nat) : it (xs.eraseIdx k) i = if i < k then it xs i else it xs (i + 1) := by
  unfold it
  rw [List.getD_eq_getElem?_getD, List.getElem?_eraseIdx]
  by_cases h : i < k
  · rw [if_pos h, if_pos h, List.getD_eq_getElem?_getD]
  · rw [if_neg h, if_neg h, List.getD_eq_getElem?_getD]
theorem erase_len (xs : List Im) (k : Nat) (h : k < xs.length) : (xs.eraseIdx k).length = xs.length - 1 := by rw [List.length_eraseIdx, if_pos h]
theorem erase_in {w : World} {B : Nat} {xs : List Im} (h : ∀ i, i < xs.length → ImIn w B (it xs i)) (k : Nat) (hk : k < xs.length) : ∀ i, i < (xs.eraseIdx k).length → ImIn w B (it (xs.eraseIdx k) i) := fun i hi => by
  rw [erase_len xs k hk] at hi
  rw [it_erase]
  by_cases e : i < k
  · rw [if_pos e]
    exact h i (by omega)
  · rw [if_neg e]
    exact h (i + 1) (by omega)

end Go.Proofs.YtjmdaecjgiafoaaGreatDoor
