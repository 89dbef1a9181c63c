/- slices.Concat at rows. -/
import Derived.Test.YtfeffkjmjkddnaaMrT
import Derived.Lib.AppendZeros
namespace Go.Proofs.Ytfeffkjmjkddnaa
open Go.ChangeShapes Go.WideShapes Go.ChangeAt Go.RowKit Go.PlainAid
set_option linter.unusedVariables false

theorem lst_flat {α : Type} [Flat α] {w W : World} {B : Nat} {A : Option Addr} {xs : List α} (h : Lst w B A xs) (hb : Below B w W) (hs : 0 < Flat.sz α) (hp : 0 < xs.length) : ∃ ad, A = some ad ∧ ∀ j u, (xs.flatMap Flat.cells)[j]? = some u → W.cell? (ad.add j) = some u := by
  obtain ⟨b, o, rfl, hbl, hc⟩ := h hp
  refine ⟨_, rfl, fun j u hj => ?_⟩
  have hlt : j < xs.length * Flat.sz α := by
    have := (List.getElem?_eq_some_iff.1 hj).1
    rwa [flat_len] at this
  have hi : j / Flat.sz α < xs.length := Nat.div_lt_of_lt_mul (by rwa [Nat.mul_comm] at hlt)
  have hr : j % Flat.sz α < Flat.sz α := Nat.mod_lt _ hs
  have he : j / Flat.sz α * Flat.sz α + j % Flat.sz α = j := by
    have := Nat.div_add_mod j (Flat.sz α)
    rwa [Nat.mul_comm] at this
  have hg := flat_get xs (j / Flat.sz α) (j % Flat.sz α) hi hr
  rw [he, hj] at hg
  have h1 := hc _ hi _ _ hg.symm
  rw [show o + j / Flat.sz α * Flat.sz α + j % Flat.sz α = o + j by omega] at h1
  have hadd : (⟨b, o, none⟩ : Addr).add j = ⟨b, o + j, none⟩ := by
    unfold Addr.add
    by_cases e : j = 0 <;> simp [e]
  rw [hadd]
  exact (hb.cell (p := ⟨b, o + j, none⟩) hbl).trans h1
theorem rwI_one (xs : List (Rw Int)) : ∀ u ∈ xs.flatMap Flat.cells, u.oneCell' = true := fun u hu => by
  obtain ⟨x, _, hx⟩ := List.mem_flatMap.1 hu
  obtain rfl : u = Value.slice x.A x.xs.length x.c := by simpa using (show u ∈ [Value.slice x.A x.xs.length x.c] from hx)
  rfl
theorem rws_form {w : World} {B : Nat} {e : TypeId} {v : Value} {rs : List (Rw Int)} (h : w.ownsRow B e 1 v rs.length (rs.flatMap Flat.cells)) : ∃ R d, v = .slice R rs.length d ∧ (rs.length ≤ d ∧ d ≤ 9223372036854775807) ∧ Owned (fun i => B ≤ i ∧ i < w.heap.size) w R rs := by
  rcases h.2 with ⟨hv, h0⟩ | ⟨g, cap, cur, rfl, h3, h4, h5, h6, h7⟩
  · obtain rfl : rs = [] := List.eq_nil_of_length_eq_zero h0
    exact ⟨none, 0, hv, ⟨Nat.le_refl _, by omega⟩, Owned.nil _ _ _⟩
  · have hlt := h.lt g rfl
    exact ⟨some ⟨g, 0, none⟩, cap, rfl, ⟨h5, h6⟩, fun _ => ⟨g, 0, rfl, hlt, hlt.2, own_of_row rs h⟩⟩
theorem below_adn0 (w : World) (o : Obj) : Below w.heap.size w (w.drew.alloc o) := below_next (below_drew w) (below_alloc _ o)
def rwZ : Value := .slice none 0 0
theorem zcR_size (k : Nat) : (Builtin.zeroCells rwZ.cells k).size = k * 1 := by
  simp [Builtin.zeroCells, rwZ, Value.cells]
set_option maxHeartbeats 1000000 in
theorem growRw_any (n : Nat) (w : World) (hn : n ≤ 1048577) :
    Calls Try.prog 69 #[.slice none 0 0, .int .i64 n] w fun e w' => (∃ v, e = .returned v ∧ w'.ownsRow w.heap.size 34 1 v 0 []) ∧ Below w.heap.size w w' := by
  obtain ⟨i0, hi0, hz0, hz1, hz2⟩ := info_parts Try.infoRwIntS
  rcases Nat.eq_zero_or_pos n with h0 | h0
  · subst h0
    clear hi0 hz0 hz1 hz2
    go_enter Try.func69, Try.ntmps69
    go_wp2
    go_returns
    exact ⟨⟨_, rfl, rfl, .inl ⟨rfl, rfl⟩⟩, Below.refl _ _⟩
  · have hr : ∀ ty, (Builtin.append_ #[22, 3] ty #[.slice none 0 0, .int .i64 n]).run Try.prog w = .ok (.slice (some ⟨w.heap.size, 0, none⟩) n (grownCap w n 0 34)) (w.drew.alloc (.cells (Builtin.zeroCells rwZ.cells n ++ Builtin.zeroCells rwZ.cells (grownCap w n 0 34 - n)) 34)) := fun ty =>
      Lib.run_append_nil_zeros w 22 3 ty 34 i0 rwZ .i64 .i64 Try.underlying22 Try.underlying3 hi0 hz0 n h0 (by rw [hz1]; decide) (by omega) (by rw [hz2]; omega)
    obtain ⟨G, hG⟩ : ∃ G, G = grownCap w n 0 34 := ⟨_, rfl⟩
    rw [← hG] at hr
    obtain ⟨W1, hW1⟩ : ∃ W1, W1 = w.drew.alloc (.cells (Builtin.zeroCells rwZ.cells n ++ Builtin.zeroCells rwZ.cells (G - n)) 34) := ⟨_, rfl⟩
    rw [← hW1] at hr
    have hGn : n ≤ G := by rw [hG]; exact grownCap_ge w _ _ _
    have hG63 : G ≤ maxLen := by
      have := grownCap_le_maxLen w n 0 34 (by unfold maxLen; omega)
      rw [← hG] at this
      exact this
    have hrow : W1.ownsRow w.heap.size 34 1 (.slice (some ⟨w.heap.size, 0, none⟩) 0 G) 0 [] := by
      refine ⟨rfl, .inr ⟨w.heap.size, G, Builtin.zeroCells rwZ.cells n ++ Builtin.zeroCells rwZ.cells (G - n), rfl, Nat.le_refl _, ?_, Nat.zero_le _, hG63, ?_, by simp⟩⟩
      · rw [hW1]
        exact heap_at_new w.drew _ _ rfl
      · rw [Array.size_append, zcR_size, zcR_size]
        omega
    have HROW := Lib.hid hrow
    have HB1 := Lib.hid (show Below w.heap.size w W1 from by rw [hW1]; exact below_adn0 w _)
    have HRR := Lib.hid hr
    have hG63' : G ≤ 9223372036854775807 := by unfold maxLen at hG63; exact hG63
    clear hr hrow hW1 hG hG63 hi0 hz0 hz1 hz2
    go_enter Try.func69, Try.ntmps69
    go_wp2_with (at_builtin; refine Lib.wpList_append_run _ rfl (.tmp 20) (.tmp 21) 22 3 rfl _ _ rfl rfl _ _ (HRR.out _) ?_)
    go_returns
    exact ⟨⟨_, rfl, HROW.out⟩, HB1.out⟩

/-- The items of the first k parts. -/
def catR (ps : List (Rw (Rw Int))) : Nat → List (Rw Int)
  | 0 => []
  | k + 1 => catR ps k ++ (it ps k).xs
theorem catR_mono (ps : List (Rw (Rw Int))) (j : Nat) : ∀ k, j ≤ k → (catR ps j).length ≤ (catR ps k).length := fun k h => by
  induction h with
  | refl => exact Nat.le_refl _
  | step _ ih => exact Nat.le_trans ih (by rw [catR, List.length_append]; omega)
set_option maxHeartbeats 2000000 in
theorem concatRw_any (A : Option Addr) (c : Nat) (ps : List (Rw (Rw Int))) (w : World) (hr : Lst w w.heap.size A ps) (he : ∀ i, i < ps.length → Lst w w.heap.size (it ps i).A (it ps i).xs) (hm : ps.length ≤ 3) (hp : 0 < ps.length) (ht : (catR ps ps.length).length ≤ 1048577) :
    Calls Try.prog 62 #[.slice A ps.length c] w fun e w' => (∃ R d, e = .returned (.slice R (catR ps ps.length).length d) ∧ ((catR ps ps.length).length ≤ d ∧ d ≤ 9223372036854775807) ∧ Owned (fun i => w.heap.size ≤ i ∧ i < w'.heap.size) w' R (catR ps ps.length)) ∧ Below w.heap.size w w' := by
  obtain ⟨i0, hi, hz0, hz1, hz2⟩ := info_parts Try.infoRwIntS
  have HZ := Lib.hid (And.intro hi (And.intro hz0 (And.intro hz1 hz2)))
  obtain ⟨b, o, rfl, hbl, hc⟩ := hr.rw hp
  have HC := Lib.hid hc
  have HE := Lib.hid he
  have HM := Lib.hid (fun k hk => catR_mono ps k ps.length hk)
  have HT := Lib.hid ht
  clear hr hc he hi hz0 hz1 hz2 ht
  go_enter Try.func62, Try.ntmps62
  go_wp2_with fail
  go_loop [3, 11] (fun p i => ∃ k : Nat, k ≤ ps.length ∧ i = .int .i64 k ∧ p = .int .i64 ((catR ps k).length : Nat)) (fun _ i => ps.length - (intOf i).toNat)
  case atStart => exact ⟨0, Nat.zero_le _, rfl, rfl⟩
  case round =>
    obtain ⟨k, hk, rfl, rfl⟩ := hrel
    by_cases hlt : k < ps.length
    · have hv := HC.out k hlt
      have h1 := HM.out (k + 1) hlt
      rw [catR, List.length_append] at h1
      have h2 := HT.out
      have h3 : ¬ (((catR ps k).length : Int) + ((it ps k).xs.length : Int) < 0) := by omega
      have h4 : (catR ps k).length ≤ 1048577 := by omega
      have h5 : (it ps k).xs.length ≤ 1048577 := by omega
      clear h1 h2
      go_wp2
      go_round
      case rel => exact ⟨k + 1, by omega, by go_num, by rw [catR, List.length_append]; go_num⟩
      case measure => simp [intOf]; omega
    · obtain rfl : k = ps.length := by omega
      have hT := HT.out
      go_wp2_with fail
      refine (growRw_any (catR ps ps.length).length w hT).mono ?_
      rintro e w1 ⟨⟨v, rfl, hv⟩, hb1⟩
      have HV := Lib.hid hv
      have HB1 := Lib.hid hb1
      clear hv hb1
      go_wp2_with fail
      go_loopw [6, 27] (fun v i wr => ∃ k : Nat, k ≤ ps.length ∧ i = .int .i64 k ∧ Hid (wr.ownsRow w.heap.size 34 1 v (catR ps k).length ((catR ps k).flatMap Flat.cells)) ∧ Hid (Below w.heap.size w wr)) (fun _ i _ => ps.length - (intOf i).toNat)
      case atStart => exact ⟨0, Nat.zero_le _, rfl, HV, HB1⟩
      case round =>
        obtain ⟨k, hk, rfl, HO, HBR⟩ := hrel
        by_cases hlt : k < ps.length
        · have hcv := (HBR.out.cell (p := ⟨b, o + k, none⟩) hbl).trans (HC.out k hlt)
          have h1 := HM.out (k + 1) hlt
          rw [catR, List.length_append] at h1
          have h4 : (catR ps k).length ≤ 1048577 := by omega
          have h5 : (it ps k).xs.length ≤ 1048577 := by omega
          have hbs := HBR.out.size
          clear h1
          go_wp2_with (at_builtin; refine wpList_append_srcN _ rfl (.tmp 31) (.tmp 32) 22 rfl w.heap.size 34 i0 (.slice none 0 0) 1 24 (by decide) Try.underlying22 HZ.out.1 HZ.out.2.1 HZ.out.2.2.1 HZ.out.2.2.2 rfl _ (catR ps k).length ((catR ps k).flatMap Flat.cells) rfl HO.out (it ps k).A (it ps k).xs.length (it ps k).c ((it ps k).xs.flatMap Flat.cells) rfl (by rw [flat_len]; rfl) (fun hp => lst_flat (HE.out k hlt) HBR.out (show 0 < Flat.sz (Rw Int) by decide) hp) (rwI_one _) (by unfold maxLen; omega) (by omega) hbs ?_; intro v1 w4 hown hgrow hat)
          have hb4 : Below w.heap.size w w4 := Below.grown HBR.out hgrow hbs (fun m e => (HO.out.lt m e).1)
          have HB4 := Lib.hid hb4
          have HOWN := Lib.hid (show w4.ownsRow w.heap.size 34 1 v1 (catR ps (k + 1)).length ((catR ps (k + 1)).flatMap Flat.cells) from by
            rw [catR, List.flatMap_append, List.length_append]
            exact hown)
          clear hown hgrow hat hb4 hcv
          go_roundw
          case rel => exact ⟨k + 1, by omega, by go_num, HOWN, HB4⟩
          case measure => simp [intOf]; omega
        · obtain rfl : k = ps.length := by omega
          obtain ⟨R, dd, rfl, hdd, hims⟩ := rws_form HO.out
          have HI := Lib.hid hims
          have HDD := Lib.hid hdd
          clear hims hdd
          go_wp2
          go_returns
          exact ⟨⟨R, dd, rfl, HDD.out, HI.out⟩, HBR.out⟩
end Go.Proofs.Ytfeffkjmjkddnaa
