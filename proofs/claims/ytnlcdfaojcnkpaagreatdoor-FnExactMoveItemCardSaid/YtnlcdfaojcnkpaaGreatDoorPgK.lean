/- slices.Concat at items; a list without one item, and with one more, in the program. -/
import Derived.Test.YtnlcdfaojcnkpaaGreatDoorPgJ
import Derived.Lib.AppendZeros
namespace Go.Proofs.YtnlcdfaojcnkpaaGreatDoor
open Go.ChangeShapes Go.WideShapes Go.ChangeAt Go.RowKit Go.PlainAid
set_option linter.unusedVariables false

def imZ : Value := .agg #[.slice none 0 0, .slice none 0 0, .bool false]
theorem zcI_size (k : Nat) : (Builtin.zeroCells imZ.cells k).size = k * 3 := by
  simp [Builtin.zeroCells, imZ, Value.cells]
set_option maxHeartbeats 1000000 in
theorem growIm_any (n : Nat) (w : World) (hn : n ≤ 15) :
    Calls Tryz.prog 94 #[.slice none 0 0, .int .i64 n] w fun e w' => (∃ v, e = .returned v ∧ w'.ownsRow w.heap.size 41 3 v 0 []) ∧ Below w.heap.size w w' := by
  obtain ⟨i0, hi0, hz0, hz1, hz2⟩ := info_parts Tryz.infoIm
  rcases Nat.eq_zero_or_pos n with h0 | h0
  · subst h0
    clear hi0 hz0 hz1 hz2
    go_enter Tryz.func94, Tryz.ntmps94
    go_wp2
    go_returns
    exact ⟨⟨_, rfl, rfl, .inl ⟨rfl, rfl⟩⟩, Below.refl _ _⟩
  · have hr : ∀ ty, (Builtin.append_ #[33, 3] ty #[.slice none 0 0, .int .i64 n]).run Tryz.prog w = .ok (.slice (some ⟨w.heap.size, 0, none⟩) n (grownCap w n 0 41)) (w.drew.alloc (.cells (Builtin.zeroCells imZ.cells n ++ Builtin.zeroCells imZ.cells (grownCap w n 0 41 - n)) 41)) := fun ty =>
      Lib.run_append_nil_zeros w 33 3 ty 41 i0 imZ .i64 .i64 Tryz.underlying33 Tryz.underlying3 hi0 hz0 n h0 (by rw [hz1]; decide) (by omega) (by rw [hz2]; omega)
    obtain ⟨G, hG⟩ : ∃ G, G = grownCap w n 0 41 := ⟨_, rfl⟩
    rw [← hG] at hr
    obtain ⟨W1, hW1⟩ : ∃ W1, W1 = w.drew.alloc (.cells (Builtin.zeroCells imZ.cells n ++ Builtin.zeroCells imZ.cells (G - n)) 41) := ⟨_, rfl⟩
    rw [← hW1] at hr
    have hGn : n ≤ G := by rw [hG]; exact grownCap_ge w _ _ _
    have hG63 : G ≤ maxLen := by
      have := grownCap_le_maxLen w n 0 41 (by unfold maxLen; omega)
      rw [← hG] at this
      exact this
    have hrow : W1.ownsRow w.heap.size 41 3 (.slice (some ⟨w.heap.size, 0, none⟩) 0 G) 0 [] := by
      refine ⟨rfl, .inr ⟨w.heap.size, G, Builtin.zeroCells imZ.cells n ++ Builtin.zeroCells imZ.cells (G - n), rfl, Nat.le_refl _, ?_, Nat.zero_le _, hG63, ?_, by simp⟩⟩
      · rw [hW1]
        exact heap_at_new w.drew _ _ rfl
      · rw [Array.size_append, zcI_size, zcI_size]
        omega
    have HROW := Lib.hid hrow
    have HB1 := Lib.hid (show Below w.heap.size w W1 from by rw [hW1]; exact below_adn0 w _)
    have HRR := Lib.hid hr
    have hG63' : G ≤ 9223372036854775807 := by unfold maxLen at hG63; exact hG63
    clear hr hrow hW1 hG hG63 hi0 hz0 hz1 hz2
    go_enter Tryz.func94, Tryz.ntmps94
    go_wp2_with (at_builtin; refine Lib.wpList_append_run _ rfl (.tmp 20) (.tmp 21) 33 3 rfl _ _ rfl rfl _ _ (HRR.out _) ?_)
    go_returns
    exact ⟨⟨_, rfl, HROW.out⟩, HB1.out⟩

/-- A part: a slice of items. -/
structure Sl where
  P : Option Addr
  c : Nat
  xs : List Im
def Sl.cs (x : Sl) : List Value := [.slice x.P x.xs.length x.c]
instance : Flat Sl where
  default := ⟨none, 0, []⟩
  sz := 1
  cells := Sl.cs
  len := fun _ => rfl
theorem Lst.sl {w : World} {B : Nat} {A : Option Addr} {ps : List Sl} (h : Lst w B A ps) (hp : 0 < ps.length) : ∃ b o, A = some ⟨b, o, none⟩ ∧ b < B ∧ ∀ i, i < ps.length → w.cell? ⟨b, o + i, none⟩ = some (.slice (it ps i).P (it ps i).xs.length (it ps i).c) := by
  obtain ⟨b, o, h1, h2, h3⟩ := h hp
  refine ⟨b, o, h1, h2, fun i hi => ?_⟩
  have := h3 i hi 0 _ rfl
  rw [show o + i * Flat.sz Sl + 0 = o + i by show o + i * 1 + 0 = _; omega] at this
  exact this
/-- The items of the first k parts. -/
def catTo (ps : List Sl) : Nat → List Im
  | 0 => []
  | k + 1 => catTo ps k ++ (it ps k).xs
theorem catTo_mono (ps : List Sl) (j : Nat) : ∀ k, j ≤ k → (catTo ps j).length ≤ (catTo ps k).length := fun k h => by
  induction h with
  | refl => exact Nat.le_refl _
  | step _ ih => exact Nat.le_trans ih (by rw [catTo, List.length_append]; omega)
theorem it_app (xs ys : List Im) (i : Nat) : it (xs ++ ys) i = if i < xs.length then it xs i else it ys (i - xs.length) := by
  unfold it
  rw [List.getD_eq_getElem?_getD]
  by_cases h : i < xs.length
  · rw [if_pos h, List.getElem?_append_left h, List.getD_eq_getElem?_getD]
  · rw [if_neg h, List.getElem?_append_right (by omega), List.getD_eq_getElem?_getD]
theorem cat_in {w : World} {B : Nat} {ps : List Sl} (h : ∀ i, i < ps.length → ∀ j, j < (it ps i).xs.length → ImIn w B (it (it ps i).xs j)) : ∀ k, k ≤ ps.length → ∀ j, j < (catTo ps k).length → ImIn w B (it (catTo ps k) j)
  | 0, _, j, hj => absurd hj (by simp [catTo])
  | k + 1, hk, j, hj => by
    rw [catTo, it_app]
    rw [catTo, List.length_append] at hj
    by_cases e : j < (catTo ps k).length
    · rw [if_pos e]
      exact cat_in h k (by omega) j e
    · rw [if_neg e]
      exact h k (by omega) _ (by omega)
theorem all_src {w W : World} {B : Nat} {A : Option Addr} {xs : List Im} (h : Lst w B A xs) (hb : Below B w W) (hp : 0 < xs.length) :
    ∃ ad, A = some ad ∧ ∀ j u, (xs.flatMap Flat.cells)[j]? = some u → W.cell? (ad.add j) = some u := by
  obtain ⟨b, o, rfl, hbl, _⟩ := h hp
  exact ⟨_, rfl, fun j u hj => head_src h hb xs.length (Nat.le_refl _) hp j u (by rw [List.take_length]; exact hj)⟩

set_option maxHeartbeats 2000000 in
theorem concat_any (A : Option Addr) (c : Nat) (ps : List Sl) (w : World) (hr : Lst w w.heap.size A ps) (he : ∀ i, i < ps.length → Ims w w.heap.size (it ps i).P (it ps i).xs) (hm : ps.length ≤ 3) (hp : 0 < ps.length) (ht : (catTo ps ps.length).length ≤ 15) :
    Calls Tryz.prog 74 #[.slice A ps.length c] w fun e w' => (∃ R d, e = .returned (.slice R (catTo ps ps.length).length d) ∧ RowOk R (catTo ps ps.length).length d ∧ Ims w' w'.heap.size R (catTo ps ps.length)) ∧ Below w.heap.size w w' := by
  obtain ⟨i0, hi, hz0, hz1, hz2⟩ := info_parts Tryz.infoIm
  have HZ := Lib.hid (And.intro hi (And.intro hz0 (And.intro hz1 hz2)))
  obtain ⟨b, o, rfl, hbl, hc⟩ := hr.sl hp
  have HC := Lib.hid hc
  have HE := Lib.hid he
  have HM := Lib.hid (fun k hk => catTo_mono ps k ps.length hk)
  have HT := Lib.hid ht
  clear hr hc he hi hz0 hz1 hz2 ht
  go_enter Tryz.func74, Tryz.ntmps74
  go_wp2_with fail
  go_loop [3, 11] (fun p i => ∃ k : Nat, k ≤ ps.length ∧ i = .int .i64 k ∧ p = .int .i64 ((catTo ps k).length : Nat)) (fun _ i => ps.length - (intOf i).toNat)
  case atStart => exact ⟨0, Nat.zero_le _, rfl, rfl⟩
  case round =>
    obtain ⟨k, hk, rfl, rfl⟩ := hrel
    by_cases hlt : k < ps.length
    · have hv := HC.out k hlt
      have h1 := HM.out (k + 1) hlt
      rw [catTo, List.length_append] at h1
      have h2 := HT.out
      have h3 : ¬ (((catTo ps k).length : Int) + ((it ps k).xs.length : Int) < 0) := by omega
      have h4 : (catTo ps k).length ≤ 15 := by omega
      have h5 : (it ps k).xs.length ≤ 15 := by omega
      clear h1 h2
      go_wp2
      go_round
      case rel => exact ⟨k + 1, by omega, by go_num, by rw [catTo, List.length_append]; go_num⟩
      case measure => simp [intOf]; omega
    · obtain rfl : k = ps.length := by omega
      have hT := HT.out
      go_wp2_with fail
      refine (growIm_any (catTo ps ps.length).length w hT).mono ?_
      rintro e w1 ⟨⟨v, rfl, hv⟩, hb1⟩
      have HV := Lib.hid hv
      have HB1 := Lib.hid hb1
      clear hv hb1
      go_wp2_with fail
      go_loopw [6, 27] (fun v i wr => ∃ k : Nat, k ≤ ps.length ∧ i = .int .i64 k ∧ Hid (wr.ownsRow w.heap.size 41 3 v (catTo ps k).length ((catTo ps k).flatMap Flat.cells)) ∧ Hid (Below w.heap.size w wr)) (fun _ i _ => ps.length - (intOf i).toNat)
      case atStart => exact ⟨0, Nat.zero_le _, rfl, HV, HB1⟩
      case round =>
        obtain ⟨k, hk, rfl, HO, HBR⟩ := hrel
        by_cases hlt : k < ps.length
        · have hcv := (HBR.out.cell (p := ⟨b, o + k, none⟩) hbl).trans (HC.out k hlt)
          have h1 := HM.out (k + 1) hlt
          rw [catTo, List.length_append] at h1
          have h4 : (catTo ps k).length ≤ 15 := by omega
          have h5 : (it ps k).xs.length ≤ 15 := by omega
          have hbs := HBR.out.size
          clear h1
          go_wp2_with (at_builtin; refine wpList_append_srcN _ rfl (.tmp 31) (.tmp 32) 33 rfl w.heap.size 41 i0 (.agg #[.slice none 0 0, .slice none 0 0, .bool false]) 3 56 (by decide) Tryz.underlying33 HZ.out.1 HZ.out.2.1 HZ.out.2.2.1 HZ.out.2.2.2 rfl _ (catTo ps k).length ((catTo ps k).flatMap Flat.cells) rfl HO.out (it ps k).P (it ps k).xs.length (it ps k).c ((it ps k).xs.flatMap Flat.cells) rfl (by rw [flat_len]; rfl) (fun hp => all_src (HE.out k hlt).out HBR.out hp) (im_one _) (by unfold maxLen; omega) (by omega) hbs ?_; intro v1 w4 hown hgrow hat)
          have hb4 : Below w.heap.size w w4 := Below.grown HBR.out hgrow hbs (fun m e => (HO.out.lt m e).1)
          have HB4 := Lib.hid hb4
          have HOWN := Lib.hid (show w4.ownsRow w.heap.size 41 3 v1 (catTo ps (k + 1)).length ((catTo ps (k + 1)).flatMap Flat.cells) from by
            rw [catTo, List.flatMap_append, List.length_append]
            exact hown)
          clear hown hgrow hat hb4 hcv
          go_roundw
          case rel => exact ⟨k + 1, by omega, by go_num, HOWN, HB4⟩
          case measure => simp [intOf]; omega
        · obtain rfl : k = ps.length := by omega
          obtain ⟨R, dd, rfl, hdd, hims⟩ := ims_of_row _ HO.out (cat_in (fun i hi => ((HE.out i hi).next HBR.out).each) ps.length (Nat.le_refl _))
          have HI := Lib.hid hims
          have HDD := Lib.hid hdd
          clear hims hdd
          go_wp2
          go_returns
          exact ⟨⟨R, dd, rfl, HDD.out, HI.out⟩, HBR.out⟩
end Go.Proofs.YtnlcdfaojcnkpaaGreatDoor
