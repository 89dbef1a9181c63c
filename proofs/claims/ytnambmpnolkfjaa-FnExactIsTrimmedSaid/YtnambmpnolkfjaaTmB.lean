/- The trimmed sum and the rising order of marks in the model. -/
import Derived.Test.YtnambmpnolkfjaaTmA
import Derived.Test.YtnambmpnolkfjaaOneLaws3
import Derived.Deep.RegionHeld3
namespace Go.Proofs.Ytnambmpnolkfjaa.One
open Go.ChangeShapes Go.WideShapes Go.ChangeAt Go.RowKit Go.Lib Go.Proofs
set_option linter.unusedVariables false

theorem TmOk.good {xs : List Int} (h : TmOk xs) : Good xs := ⟨by have := h.hi; omega, fun i hi => by have := h.each i hi; omega⟩
/-- The model's falling order. -/
theorem poSorted_d (A : Option Addr) (c : Nat) (xs : List Int) (w : World) (hr : Ints w w.heap.size A xs) (h : TmOk xs) :
    Calls Try.prog 89 #[.slice A xs.length c] w fun e w' => ∃ g cap, e = .returned (.slice (some ⟨g, 0, none⟩) xs.length cap) ∧ (∀ i, i < xs.length → w'.cell? ⟨g, i, none⟩ = some (.int .i64 (ix (dsc xs) i))) ∧ w.heap.size ≤ g ∧ g < w'.heap.size ∧ Below w.heap.size w w' := by
  refine (poSorted_any A c xs w hr (by have := h.hi; omega)).mono ?_
  rintro e w' ⟨v, ys, rfl, hs, ho, hb⟩
  have hd := dsc_eq hs
  have hl := dsc_len xs
  obtain ⟨A', c', rfl, hown⟩ := owned_of_own ho
  obtain ⟨g, rfl, h1, h2, h3⟩ := hown.2 (by rw [hd, hl]; exact h.lo)
  rw [hd, hl] at h3
  refine ⟨g, c', by rw [hd, hl], fun i hi => (h3 i hi).1, h1, h2, hb⟩
set_option maxHeartbeats 1000000 in
theorem tmMean_any (A : Option Addr) (c : Nat) (xs : List Int) (w : World) (hr : Ints w w.heap.size A xs) (h : TmOk xs) :
    Calls Try.prog 52 #[.slice A xs.length c] w fun e w' => e = .returned (.tuple #[.int .i64 (tmS xs), .int .i64 (tmN xs : Nat)]) ∧ Below w.heap.size w w' := by
  have HG := Lib.hid h.good
  have HO := Lib.hid h
  have HR := Lib.hid hr
  have h1 := h.lo
  have h2 := h.hi
  obtain ⟨b1, b2⟩ := sum_bd h.good xs.length (Nat.le_refl _)
  clear h hr
  by_cases h5 : xs.length < 5
  · have HS := Lib.hid (show tmS xs = sumTo xs xs.length from if_pos h5)
    have HN := Lib.hid (show tmN xs = xs.length from if_pos h5)
    go_enter Try.func52, Try.ntmps52
    go_wp2_with (go_at_call 88; refine (poSum_any _ _ _ _ _ HR.out HG.out).mono ?_; rintro e w' ⟨rfl, rfl⟩)
    go_ret2
    rw [HS.out, HN.out]
    exact ⟨rfl, Below.refl _ _⟩
  · have HS := Lib.hid (show tmS xs = sumTo xs xs.length - ix (dsc xs) 0 - ix (dsc xs) (xs.length - 1) from if_neg h5)
    have HN := Lib.hid (show tmN xs = xs.length - 2 from if_neg h5)
    obtain ⟨d1, d2⟩ := dsc_bd HO.out 0 (by omega)
    obtain ⟨d3, d4⟩ := dsc_bd HO.out (xs.length - 1) (by omega)
    go_enter Try.func52, Try.ntmps52
    go_wp2_with (first | (go_at_call 88; refine (poSum_any _ _ _ _ _ HR.out HG.out).mono ?_; rintro e w' ⟨rfl, rfl⟩) | (go_at_call 89; refine (poSorted_d _ _ _ _ HR.out HO.out).mono ?_; rintro e w2 ⟨g, cap, rfl, hc, hg1, hg2, hb⟩; have HB := Lib.hid hb; have HC := Lib.hid hc; clear hb hc))
    have c0 := HC.out 0 (by omega)
    have c1 := HC.out (xs.length - 1) (by omega)
    have e1 : ((xs.length : Int) - 1).toNat = xs.length - 1 := by omega
    have q1 : (0 : Int) ≤ (xs.length : Int) - 1 := by omega
    have q2 : (xs.length : Int) - 1 < (xs.length : Int) := by omega
    have q3 : (0 : Int) < (xs.length : Int) := by omega
    have q4 : 0 < xs.length := by omega
    go_quiet (fail)
    go_wp2
    go_ret2
    rw [HS.out, HN.out]
    rw [show ((xs.length - 2 : Nat) : Int) = (xs.length : Int) - 2 by omega]
    exact ⟨rfl, Below_then HB.out (below_drewN _ _)⟩
def ascTo (xs : List Int) (k : Nat) : List Int := (asc xs).take k
theorem ascTo_len (xs : List Int) {k : Nat} (h : k ≤ xs.length) : (ascTo xs k).length = k := by rw [ascTo, List.length_take, asc_len]; omega
theorem ascTo_succ (xs : List Int) {k : Nat} (h : k < xs.length) : ascTo xs (k + 1) = ascTo xs k ++ [ix (dsc xs) (xs.length - 1 - k)] := by
  rw [ascTo, take_succ_ix _ _ (by rw [asc_len]; exact h), asc_ix _ _ h]
  rfl
theorem ascTo_all (xs : List Int) : ascTo xs xs.length = asc xs := List.take_of_length_le (by rw [asc_len]; exact Nat.le_refl _)
theorem asc_own {w : World} {base : Nat} {v : Value} {xs : List Int} (hp : 1 ≤ xs.length) (h : w.ownsRow base 3 1 v xs.length ((ascTo xs xs.length).map (Value.int .i64))) : ∃ g c, v = .slice (some ⟨g, 0, none⟩) xs.length c ∧ ∀ i, i < xs.length → w.cell? ⟨g, i, none⟩ = some (.int .i64 (ix (asc xs) i)) := by
  have hl := asc_len xs
  rw [ascTo_all] at h
  have h2 : w.ownsRow base 3 1 v (asc xs).length ((asc xs).map (Value.int .i64)) := by rw [hl]; exact h
  obtain ⟨A', c', rfl, hown⟩ := owned_of_own h2
  obtain ⟨g', rfl, _, _, h3⟩ := hown.2 (by rw [hl]; exact hp)
  rw [hl] at h3 ⊢
  exact ⟨g', c', rfl, fun i hi => (h3 i hi).1⟩
set_option maxHeartbeats 1000000 in
set_option maxRecDepth 100000 in
theorem tmOrder_any (A : Option Addr) (c : Nat) (xs : List Int) (w : World) (hr : Ints w w.heap.size A xs) (h : TmOk xs) :
    Calls Try.prog 61 #[.slice A xs.length c] w fun e w' => ∃ g cap, e = .returned (.slice (some ⟨g, 0, none⟩) xs.length cap) ∧ (∀ i, i < xs.length → w'.cell? ⟨g, i, none⟩ = some (.int .i64 (ix (asc xs) i))) ∧ Below w.heap.size w w' := by
  have HO := Lib.hid h
  have HR := Lib.hid hr
  have h1 := h.lo
  have h2 := h.hi
  obtain ⟨i0, hi, hz0, hz1, hz2⟩ := info_parts Try.info3
  have HZ := Lib.hid (And.intro hi (And.intro hz0 (And.intro hz1 hz2)))
  clear h hr hi hz0 hz1 hz2
  go_enter Try.func61, Try.ntmps61
  go_wp2_with (go_at_call 89; refine (poSorted_d _ _ _ _ HR.out HO.out).mono ?_; rintro e w2 ⟨g, cap, rfl, hc, hg1, hg2, hb⟩; have HB := Lib.hid hb; have HC := Lib.hid hc; clear hb hc)
  go_loopw [4, 5] (fun v i wr => ∃ k : Nat, k ≤ xs.length ∧ i = .int .i64 ((xs.length : Int) - 1 - (k : Int)) ∧ Hid (wr.ownsRow w2.heap.size 3 1 v k ((ascTo xs k).map (Value.int .i64))) ∧ Hid (Below w2.heap.size w2 wr)) (fun _ i _ => (intOf i + 1).toNat)
  case atStart => exact ⟨0, Nat.zero_le _, by simp, Lib.hid (World.ownsRow_nil _ _ _ _), Lib.hid (Below.refl _ _)⟩
  case round =>
    obtain ⟨k, hk, rfl, HW, HB2⟩ := hrel
    by_cases hlt : k < xs.length
    · have hck := (HB2.out.cell (p := ⟨g, xs.length - 1 - k, none⟩) hg2).trans (HC.out (xs.length - 1 - k) (by omega))
      have q1 : (0 : Int) ≤ (xs.length : Int) - 1 - (k : Int) := by omega
      have q2 : (xs.length : Int) - 1 - (k : Int) < (xs.length : Int) := by omega
      have e1 : ((xs.length : Int) - 1 - (k : Int)).toNat = xs.length - 1 - k := by omega
      have hs := HB2.out.size
      have hz : ((xs.length : Int) - 1 - (k : Int)) - 1 = (xs.length : Int) - 1 - ((k + 1 : Nat) : Int) := by omega
      go_wp2_with (at_builtin; refine wpList_append_src _ rfl (.tmp 15) (.tmp 20) 22 rfl w2.heap.size 3 i0 (.int .i64 0) 8 Try.underlying22 HZ.out.1 HZ.out.2.1 HZ.out.2.2.1 HZ.out.2.2.2 rfl _ k ((ascTo xs k).map (Value.int .i64)) rfl (HW.out.alloc _) (some ⟨wr.heap.size, 0, none⟩) 1 1 [.int .i64 (ix (dsc xs) (xs.length - 1 - k))] rfl rfl (fun _ => ⟨_, rfl, one_news (by simp)⟩) (ints_oneCell _ [ix (dsc xs) (xs.length - 1 - k)]) (by unfold maxLen; omega) (by omega) (by simp; omega) ?_; intro v1 w3 hown hgrow hat)
      have hb3 : Below w2.heap.size w2 w3 := Below.grown (HB2.out.alloc hs _) hgrow (by simp; omega) (fun kk e => (HW.out.lt kk e).1)
      have HB3 := Lib.hid hb3
      have HW3 := Lib.hid (show w3.ownsRow w2.heap.size 3 1 v1 (k + 1) ((ascTo xs (k + 1)).map (Value.int .i64)) from by
        rw [ascTo_succ xs hlt, List.map_append]
        exact hown)
      clear hb3 hown hgrow hat
      go_wp2
      go_roundw
      case rel => exact ⟨k + 1, by omega, by first | go_num | (congr 1; omega), HW3, HB3⟩
      case measure => simp [intOf]; omega
    · obtain rfl : k = xs.length := by omega
      have q1 : ¬ (0 : Int) ≤ (xs.length : Int) - 1 - (xs.length : Int) := by omega
      have HO1 := Lib.hid HW.out
      go_wp2
      go_ret
      have hw := HO1.out
      obtain ⟨g', c', hv, h3⟩ := asc_own h1 hw
      subst hv
      exact ⟨g', ⟨c', rfl⟩, h3, Below_then HB.out HB2.out⟩
end Go.Proofs.Ytnambmpnolkfjaa.One
