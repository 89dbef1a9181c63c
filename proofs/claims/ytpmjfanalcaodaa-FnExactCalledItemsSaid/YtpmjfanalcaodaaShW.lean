/- IsFinal of the model. -/
import Derived.Test.YtpmjfanalcaodaaShV
namespace Go.Proofs.Ytpmjfanalcaodaa
open Go.ChangeShapes Go.WideShapes Go.ChangeAt Go.RowKit Go.Lib Go.Proofs
set_option linter.unusedVariables false

/-- All votes of the first callers are there. -/
def Full (q : Rw (Rw Int)) : Prop := ∀ i, i < q.xs.length → ¬ (-1 : Int) ∈ (it q.xs i).xs
theorem mem_it {l : List Int} {n : Int} : n ∈ l ↔ ∃ i, i < l.length ∧ it l i = n := by
  constructor
  · intro h
    obtain ⟨i, hi, e⟩ := List.getElem_of_mem h
    refine ⟨i, hi, ?_⟩
    have := it_get l i hi
    rw [List.getElem?_eq_getElem hi] at this
    rw [← Option.some.inj this, e]
  · rintro ⟨i, hi, rfl⟩
    exact List.mem_of_getElem? (it_get l i hi)
theorem fin_full {x : Sh} (hok : ShOk x) : Fin1 x ↔ (∀ k, k < 3 → Full (it x.V.xs k)) ∧ plI (nmN x.l) (opD x) x.l.length = [] := by
  rw [plI_nil]
  constructor
  · refine fun h => ⟨fun k hk i hi hm => ?_, fun i hi j hj => decide_eq_false (fun q => h i hi j hj (.inl q))⟩
    have h1 := hok.vo.each k (by rw [hok.vo.len]; exact hk)
    have hi' : i < x.l.length := by rw [← h1.len]; exact hi
    obtain ⟨j, hj, e⟩ := mem_it.1 hm
    have hj' : j < nmN x.l i := by
      unfold nmN
      rw [← (h1.each i hi').len]
      exact hj
    refine h i hi' j hj' (.inr ?_)
    have e' : vt x.V k i j = -1 := e
    rcases (show k = 0 ∨ k = 1 ∨ k = 2 by omega) with rfl | rfl | rfl <;> simp [e']
  · rintro ⟨h1, h2⟩ i hi j hj
    rintro (h | h)
    · exact absurd (h2 i hi j hj) (by unfold opD; rw [decide_eq_true h]; simp)
    · have hv : ∃ k, k < 3 ∧ vt x.V k i j = -1 := by
        simp only [List.mem_cons, List.not_mem_nil, or_false] at h
        rcases h with h | h | h
        · exact ⟨0, by omega, h.symm⟩
        · exact ⟨1, by omega, h.symm⟩
        · exact ⟨2, by omega, h.symm⟩
      obtain ⟨k, hk, e⟩ := hv
      have h3 := hok.vo.each k (by rw [hok.vo.len]; exact hk)
      refine h1 k hk i (by rw [h3.len]; exact hi) (mem_it.2 ⟨j, ?_, e⟩)
      rw [(h3.each i hi).len]
      exact hj
set_option maxHeartbeats 2000000 in
set_option maxRecDepth 100000 in
theorem sIsFinal_any (x : Sh) (w : World) (hr : ShIn w w.heap.size x) (hl : ShFits x) :
    Calls Try.prog 46 #[x.val] w fun e w' => e = .returned (fiV x) ∧ Below w.heap.size w w' := by
  have hb0 := below_alloc w (.cells #[.slice x.P x.l.length x.c, .slice x.V.A x.V.xs.length x.V.c, .slice x.R x.rv.length x.e] 32)
  have HR := Lib.hid (hr.next hb0)
  have HX := Lib.hid (imMem_new w _ 32 rfl (.slice x.P x.l.length x.c) (.slice x.V.A x.V.xs.length x.V.c) (.slice x.R x.rv.length x.e))
  have hsW : w.heap.size < (w.alloc (.cells #[.slice x.P x.l.length x.c, .slice x.V.A x.V.xs.length x.V.c, .slice x.R x.rv.length x.e] 32)).heap.size := by simp
  have HB0 := Lib.hid hb0
  have HF := Lib.hid hl
  have hll := hl.its.len
  clear hr hl hb0
  unfold Sh.val
  go_enter Try.func46, Try.ntmps46
  go_wp2_with fail
  generalize World.alloc w _ = W at HR HX HB0 hsW ⊢
  have HC := Lib.hid (caGood_any x W HR.out HF.out)
  by_cases h1 : ShOk x
  rotate_left
  · rw [pB_no h1] at HC
    have HP := Lib.hid (fiV_no h1)
    clear h1
    refine HC.out.mono ?_
    rintro e w1 ⟨rfl, hb1⟩
    have HB1 := Lib.hid (below_next HB0.out hb1)
    clear hb1
    go_wp2
    go_returns
    exact ⟨by rw [HP.out]; try rfl, HB1.out⟩
  rw [pB_yes h1] at HC
  have HP := Lib.hid (fiV_ok h1)
  have HQ := Lib.hid (fin_full h1)
  have H1 := Lib.hid h1
  have HV3 := Lib.hid h1.vo.len
  clear h1
  refine HC.out.mono ?_
  rintro e w1 ⟨rfl, hb1⟩
  have HB1 := Lib.hid (below_next HB0.out hb1)
  have HX1 := Lib.hid (HX.out.below hb1 hsW)
  have HR1 := Lib.hid (HR.out.next hb1)
  have hs1 := Nat.lt_of_lt_of_le hsW hb1.size
  clear hb1 HC
  obtain ⟨bV, oV, hA, hbV, hcV⟩ := (show NIn w1 w1.heap.size x.V.A x.V.xs from HR1.out.vo).out.rw (by rw [HV3.out]; omega)
  have HCV := Lib.hid hcV
  have HXV := Lib.hid (show ImMem w1 w.heap.size (.slice x.P x.l.length x.c) (.slice (some ⟨bV, oV, none⟩) 3 x.V.c) (.slice x.R x.rv.length x.e) by have h := HX1.out; rw [hA, HV3.out] at h; exact h)
  have HCO := Lib.hid (caOpen_any x w1 HR1.out HF.out H1.out)
  have hcO := HCO.out
  unfold Sh.val at hcO
  rw [hA, HV3.out] at hcO
  have HCO2 := Lib.hid hcO
  clear hcV hA HX1 HCO hcO
  obtain ⟨x0, x1, x2, xf⟩ := HXV.out
  go_wp2_with fail
  go_loop [14] (fun p => ∃ k : Nat, k ≤ 3 ∧ p = .int .i64 k ∧ Hid (∀ i, i < k → Full (it x.V.xs i))) (fun p => 3 - (intOf p).toNat)
  case atStart => exact ⟨0, Nat.zero_le _, rfl, Lib.hid none_yet⟩
  case round =>
    obtain ⟨k, hk, rfl, HI⟩ := hrel
    by_cases hlt : k < 3
    · have d0 := HCV.out k (by rw [HV3.out]; exact hlt)
      have HO := Lib.hid (H1.out.vo.each k (by rw [HV3.out]; exact hlt))
      have HN := Lib.hid (show NIn w1 w1.heap.size (it x.V.xs k).A (it x.V.xs k).xs from (show NIn w1 w1.heap.size x.V.A x.V.xs from HR1.out.vo).each k (by rw [HV3.out]; exact hlt))
      have HNF := Lib.hid (nfit_each HF.out.vo k (by rw [HV3.out]; exact hlt))
      rw [HO.out.len] at d0
      go_wp2_with fail
      go_loop [20] (fun p => ∃ i : Nat, i ≤ x.l.length ∧ p = .int .i64 i ∧ Hid (∀ a, a < i → ¬ (-1 : Int) ∈ (it (it x.V.xs k).xs a).xs)) (fun p => x.l.length - (intOf p).toNat)
      case atStart => exact ⟨0, Nat.zero_le _, rfl, Lib.hid none_yet⟩
      case round =>
        obtain ⟨i, hi, rfl, HJ⟩ := hrel
        by_cases hil : i < x.l.length
        · obtain ⟨b, o, hB, hbl, hc⟩ := HN.out.out.rw (by rw [HO.out.len]; omega)
          have e0 := hc i (by rw [HO.out.len]; exact hil)
          have hfk := nfit_len (nfit_each HNF.out i (by rw [HO.out.len]; exact hil))
          have HC := Lib.hid (caHasIn (it (it x.V.xs k).xs i).A (it (it x.V.xs k).xs i).c (it (it x.V.xs k).xs i).xs (-1) w1 (HN.out.each i (by rw [HO.out.len]; exact hil)) hfk)
          rw [hB]
          clear hc
          by_cases hm : (-1 : Int) ∈ (it (it x.V.xs k).xs i).xs
          · rw [decide_eq_true hm] at HC
            have HM := Lib.hid (pB_no (fun q : Fin1 x => (HQ.out.1 q).1 k hlt i (by rw [HO.out.len]; exact hil) hm))
            clear hm
            go_wp2_with (go_at_call 89; refine HC.out.mono ?_; rintro e w5 ⟨rfl, rfl⟩)
            go_returns
            exact ⟨by rw [HP.out, HM.out]; try rfl, HB1.out⟩
          · rw [decide_eq_false hm] at HC
            have HM := Lib.hid hm
            clear hm
            go_wp2_with (go_at_call 89; refine HC.out.mono ?_; rintro e w5 ⟨rfl, rfl⟩)
            go_round
            case rel => exact ⟨i + 1, by omega, by go_num, Lib.hid (one_more HJ.out HM.out)⟩
            case measure => simp [intOf]; omega
        · obtain rfl : i = x.l.length := by omega
          have HK := Lib.hid (one_more HI.out (show Full (it x.V.xs k) from fun a ha => HJ.out a (by rw [← HO.out.len]; exact ha)))
          go_wp2
          go_round
          case rel => exact ⟨k + 1, by omega, by go_num, HK⟩
          case measure => simp [intOf]; omega
    · obtain rfl : k = 3 := by omega
      go_wp2_with (go_at_call 82; refine HCO2.out.mono ?_; rintro e w2 ⟨⟨y, rfl, hy⟩, hb2⟩; have HY := Lib.hid hy; have HB2 := Lib.hid (below_next HB1.out hb2); clear hy hb2)
      go_returns
      refine ⟨?_, HB2.out⟩
      rw [HP.out]
      have hf : ((y.xs.length : Int) == 0) = pB (Fin1 x) := by
        rw [HY.out.len]
        by_cases h : Fin1 x
        · rw [pB_yes h, (HQ.out.1 h).2]
          rfl
        · rw [pB_no h]
          have h2 : plI (nmN x.l) (opD x) x.l.length ≠ [] := fun q => h (HQ.out.2 ⟨HI.out, q⟩)
          have h3 : 0 < (plI (nmN x.l) (opD x) x.l.length).length := List.length_pos_iff.2 h2
          simp
          omega
      rw [← hf]
      try rfl
end Go.Proofs.Ytpmjfanalcaodaa
