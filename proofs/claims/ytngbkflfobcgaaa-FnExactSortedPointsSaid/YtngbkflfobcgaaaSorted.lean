/- SortedPoints in the program and in its model: both give the numbers in descending order, in memory of their own. -/
import Derived.Test.YtngbkflfobcgaaaSort
import Derived.Test.YtngbkflfobcgaaaSortS
import Derived.Test.YtngbkflfobcgaaaLaws3
import Derived.Laws.CopyOwn
namespace Go.Proofs.Ytngbkflfobcgaaa
open Go.ChangeShapes Go.WideShapes Go.ChangeAt Go.RowKit
set_option linter.unusedVariables false

theorem owned_of_own {w : World} {base : Nat} {v : Value} {ys : List Int} (h : w.ownsRow base 3 1 v ys.length (ys.map (Value.int .i64))) : ∃ A c, v = .slice A ys.length c ∧ Owned w base w.heap.size A ys := by
  rcases Joins.ownsRow_forms h with ⟨rfl, h0⟩ | ⟨g, cap, rfl⟩
  · exact ⟨none, 0, by rw [h0], Nat.le_refl _, fun hp => absurd hp (by omega)⟩
  · refine ⟨_, _, rfl, Nat.le_refl _, fun hp => ⟨g, rfl, (h.lt g rfl).1, (h.lt g rfl).2, fun i hi => ⟨?_, h.frozenAt i⟩⟩⟩
    rw [h.cellAt i (by omega), List.getElem?_map, List.getElem?_eq_getElem hi]
    simp [ix, List.getD_eq_getElem?_getD, List.getElem?_eq_getElem hi]
theorem owned_of_row {w : World} {base g : Nat} {ys : List Int} (h : RowAt w g ys) (hb : base ≤ g) (hg : g < w.heap.size) : Owned w base w.heap.size (some ⟨g, 0, none⟩) ys :=
  ⟨Nat.le_refl _, fun _ => ⟨g, rfl, hb, hg, h⟩⟩

/-- What a call that answers a list of its own leaves. -/
def Lists (w : World) (ok : Bool) (P : List Int → Prop) (e : Ending) (w' : World) : Prop :=
  ∃ A c ys, e = .returned (.tuple #[.slice A ys.length c, .bool ok]) ∧ P ys ∧ Owned w' w.heap.size w'.heap.size A ys ∧ Below w.heap.size w w'

theorem sSorted_yes (A : Option Addr) (c : Nat) (xs : List Int) (w : World) (hr : Ints w w.heap.size A xs) (h : Good xs) :
    Calls Try.prog 28 #[.slice A xs.length c] w (Lists w true (SortedOf xs)) := by
  have HG := Lib.hid h
  have HR := Lib.hid hr
  have hl := h.1
  clear h hr
  go_enter Try.func28, Try.ntmps28
  go_wp2_with (first | (go_at_call 43; refine (poList_yes _ _ _ _ _ HR.out HG.out).mono ?_; rintro e w' ⟨rfl, rfl⟩) | (go_at_call 50; refine (poSorted_any _ _ _ _ HR.out hl).mono ?_; rintro e w' ⟨v, ys, rfl, hs, ho, hb⟩; have HS := Lib.hid hs; have HO := Lib.hid ho; have HB := Lib.hid hb; clear hs ho hb))
  go_ret2
  obtain ⟨A', c', rfl, hown⟩ := owned_of_own HO.out
  exact ⟨A', c', ys, rfl, HS.out, hown, HB.out⟩
theorem sSorted_no (A : Option Addr) (c : Nat) (xs : List Int) (w : World) (hr : Ints w w.heap.size A xs) (hm : xs.length ≤ 1048576) (h : ¬ Good xs) :
    Calls Try.prog 28 #[.slice A xs.length c] w (Lists w false (· = [])) := by
  have HG := Lib.hid h
  have HR := Lib.hid hr
  clear h hr
  go_enter Try.func28, Try.ntmps28
  go_wp2_with (go_at_call 43; refine (poList_no _ _ _ _ _ HR.out hm HG.out).mono ?_; rintro e w' ⟨rfl, rfl⟩)
  go_ret2
  exact ⟨none, 0, [], rfl, rfl, Owned.none_ _ _ _ _ (Nat.le_refl _), Below.refl _ _⟩
theorem iSorted_no (A : Option Addr) (c : Nat) (xs : List Int) (w : World) (hr : Ints w w.heap.size A xs) (hm : xs.length ≤ 1048576) (h : ¬ Good xs) :
    Calls Try.prog 29 #[.slice A xs.length c] w (Lists w false (· = [])) := by
  have HG := Lib.hid h
  have HR := Lib.hid hr
  clear h hr
  go_enter Try.func29, Try.ntmps29
  go_wp2_with (go_at_call 46; refine (isPointsList_no _ _ _ _ _ HR.out hm HG.out).mono ?_; rintro e w' ⟨rfl, rfl⟩)
  go_ret2
  exact ⟨none, 0, [], rfl, rfl, Owned.none_ _ _ _ _ (Nat.le_refl _), Below.refl _ _⟩

theorem own_block {w : World} {base g n : Nat} {xs : List Value} (h : w.ownsRow base 3 1 (.slice (some ⟨g, 0, none⟩) n n) n xs) : w.heap[g]? = some (.cells xs.toArray 3 (0, 0)) := by
  rcases h.2 with ⟨h', _⟩ | ⟨g', cap', cur, h', _, hg, _, _, hcs, ht⟩
  · cases h'
  · cases h'
    rw [hg, ← ht, List.take_of_length_le (by simp; omega)]
theorem row_of_block {w : World} {g : Nat} {xs : List Int} (h : w.heap[g]? = some (.cells ((upto xs xs.length)).toArray 3 (0, 0))) : RowAt w g xs := fun i hi => by
  refine ⟨?_, frozen_of_row w g i _ _ h⟩
  rw [cell_of_row w g i _ _ _ h, List.getElem?_toArray, upto_get xs _ i hi, if_pos hi]
theorem lt_of_block {w : World} {g : Nat} {o : Obj} (h : w.heap[g]? = some o) : g < w.heap.size := by
  rcases Nat.lt_or_ge g w.heap.size with h' | h'
  · exact h'
  · rw [Array.getElem?_eq_none h'] at h; cases h

theorem upto_one (xs : List Int) (k : Nat) : ∀ u ∈ upto xs k, u.oneCell' = true := by
  intro u hu
  simp only [upto, List.mem_map] at hu
  obtain ⟨i, _, rfl⟩ := hu
  rfl
theorem splice_all (xs : List Int) : splice (upto xs 0) 0 (upto xs xs.length) = upto xs xs.length := by
  unfold splice
  rw [List.take_zero, List.nil_append, List.drop_of_length_le (by simp [upto_len]), List.append_nil]
theorem ints_src {w : World} {A : Option Addr} {xs : List Int} {B : Nat} (h : Ints w B A xs) (w' : World) (hb : Below B w w') : 0 < (upto xs xs.length).length → ∃ ad, A = some ad ∧ ∀ j v, (upto xs xs.length)[j]? = some v → w'.cell? (ad.add j) = some v := fun hp => by
  rw [upto_len] at hp
  obtain ⟨b, o, rfl, hlt, hc⟩ := h hp
  refine ⟨_, rfl, fun j v hj => ?_⟩
  have hjl : j < xs.length := by
    rcases Nat.lt_or_ge j xs.length with h | h
    · exact h
    · rw [List.getElem?_eq_none (by rw [upto_len]; exact h)] at hj; cases hj
  rw [upto_get xs _ j hjl, if_pos hjl] at hj
  have ha : (⟨b, o, none⟩ : Addr).add j = ⟨b, o + j, none⟩ := by unfold Addr.add; split <;> simp_all
  rw [ha, hb.cell (p := ⟨b, o + j, none⟩) hlt, hc j hjl]
  exact hj

theorem iSorted_yes (A : Option Addr) (c : Nat) (xs : List Int) (w : World) (hr : Ints w w.heap.size A xs) (h : Good xs) :
    Calls Try.prog 29 #[.slice A xs.length c] w (Lists w true (SortedOf xs)) := by
  have HG := Lib.hid h
  have HR := Lib.hid hr
  have hl := h.1
  clear h hr
  obtain ⟨i0, hi, hz0, hz1, hz2⟩ := info_parts Try.info3
  have HZ := Lib.hid (upto_zero xs)
  have hsz1 : Hid ((Try.prog.info? 3).map (·.size) = some 1) := Lib.hid (by rw [hi]; simp [hz1])
  go_enter Try.func29, Try.ntmps29
  go_wp2_with (first | (go_at_call 46; refine (isPointsList_yes _ _ _ _ _ HR.out HG.out).mono ?_; rintro e w' ⟨rfl, rfl⟩) | (at_make; refine wpList_make_full _ rfl (.tmp 9) (.tmp 9) 31 rfl w.heap.size 3 i0 (.int .i64 0) 1 Try.underlying31 hi hz0 hz1 .i64 .i64 _ _ xs.length rfl rfl rfl rfl (by rw [hz2]; omega) (by unfold maxLen; omega) (Nat.le_refl _) ?_; intro w1 hown hgrow; rw [HZ.out] at hown; have HB1 := Lib.hid (show Below w.heap.size w w1 from (Below.refl _ _).grown hgrow (Nat.le_refl _) (fun k e => by cases e)); have HK := Lib.hid (own_block hown); clear hown hgrow) | (refine wpList_copy_splice rfl (.tmp 11) (.tmp 12) 31 31 rfl 3 Try.underlying31 hsz1.out (some ⟨w.heap.size, 0, none⟩) A xs.length xs.length xs.length c rfl rfl w.heap.size 0 (upto xs 0) 3 HK.out (upto xs xs.length) (by rw [upto_len]; exact (Nat.min_self _).symm) (fun hp => ⟨rfl, ints_src HR.out _ HB1.out hp⟩) (by rw [upto_len, upto_len]; omega) (upto_one _ _) w.heap.size w HB1.out (Nat.le_refl _) ?_; intro w2 HK2 hb2; have HB2 := Lib.hid hb2; clear hb2))
  have HK3 : Hid (w2.heap[w.heap.size]? = some (.cells (upto xs xs.length).toArray 3 (0, 0))) := Lib.hid (by have := HK2.out; rwa [splice_all] at this)
  refine (sortFunc_any _ _ xs _ HG.out.2 (by omega) (row_of_block HK3.out) (lt_of_block HK3.out)).mono ?_
  rintro e w3 ⟨rfl, ys, hs, hrow, hb3⟩
  have HS := Lib.hid hs; have HROW := Lib.hid hrow; have HB3 := Lib.hid hb3
  have hlen : xs.length = ys.length := hs.len.symm
  have HL := Lib.hid hlen
  clear hs hrow hb3 hlen
  go_wp2
  go_ret2
  exact ⟨some ⟨w.heap.size, 0, none⟩, xs.length, ys, by rw [← HL.out]; rfl, HS.out, owned_of_row HROW.out (Nat.le_refl _) (Nat.lt_of_lt_of_le (lt_of_block HK3.out) HB3.out.size), HB2.out.trans HB3.out⟩
end Go.Proofs.Ytngbkflfobcgaaa
