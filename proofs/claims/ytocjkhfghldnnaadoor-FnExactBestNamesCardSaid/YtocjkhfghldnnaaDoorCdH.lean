/- Valid codes in the model and in the program. -/
import Derived.Test.YtocjkhfghldnnaaDoorCdG
namespace Go.Proofs.YtocjkhfghldnnaaDoor
open Go.ChangeShapes Go.WideShapes Go.ChangeAt Go.RowKit Go.PlainAid Go.Sort
set_option linter.unusedVariables false

theorem l1All_len (A : Option Addr) (c n : Nat) (xs : List Int) (hn : xs.length = n) (w : World) (hr : Lst w w.heap.size A xs) (hl : n ≤ 1048576) :
    Calls Tryd.prog 48 #[.slice A n c, .int .i64 0, .int .i64 9] w fun e w' => e = .returned (.bool (pB (∀ i, i < xs.length → 0 ≤ it xs i ∧ it xs i ≤ 9))) ∧ w = w' := by
  subst hn
  exact l1All_lims A c xs w hr hl
theorem areLimits_len (A : Option Addr) (c n : Nat) (xs : List Int) (hn : xs.length = n) (w : World) (hr : Lst w w.heap.size A xs) (hl : n ≤ 1048576) (ht : Tab w) :
    Calls Tryd.prog 53 #[.slice A n c] w fun e w' => e = .returned (.bool (pB (LimsOk xs))) ∧ w = w' := by
  subst hn
  exact areLimits_any A c xs w hr hl ht

set_option maxHeartbeats 1000000 in
theorem cdGood_any (A L : Option Addr) (c d : Nat) (x : Cd) (w : World) (hr : CdAt w A L x) (hl : CdFits x) :
    Calls Tryd.prog 24 #[x.val A c L d] w fun e w' => e = .returned (.bool (pB (CdOk x))) ∧ Below w.heap.size w w' := by
  obtain ⟨W, hW⟩ : ∃ W, W = w.alloc (.cells #[.slice A x.els.length c, .slice L x.lims.length d, .int .i64 x.rep, .int .i64 x.bon, .int .i64 x.kee, .int .i64 x.fal] 31) := ⟨_, rfl⟩
  have hb0 : Below w.heap.size w W := by rw [hW]; exact below_alloc _ _
  have HB0 := Lib.hid hb0
  have hs0 : W.heap.size = w.heap.size + 1 := by rw [hW]; simp
  have HS0 := Lib.hid hs0
  have HR := Lib.hid (hr.below hb0)
  have HX := Lib.hid (show CdBox W w.heap.size A c L d x by rw [hW]; exact cdBox_new w _ _ rfl A c L d x)
  have HF := Lib.hid hl
  have HW := Lib.hid hW
  clear hr hl hb0 hs0 hW
  unfold Cd.val
  go_enter Tryd.func24, Tryd.ntmps24
  go_wp2
  go_loopw [8] (fun i wr => ∃ k : Nat, k ≤ x.els.length ∧ i = .int .i64 k ∧ Hid (ElsTo x.els k) ∧ Below W.heap.size W wr) (fun i _ => x.els.length - (intOf i).toNat)
  case atStart => exact ⟨0, Nat.zero_le _, rfl, Lib.hid (fun j hj => absurd hj (by omega)), by rw [← HW.out]; exact Below.refl _ _⟩
  case round =>
    obtain ⟨k, hk, rfl, HI, hb⟩ := hrel
    have x0 : wr.cell? ⟨w.heap.size, 0, none⟩ = some (.slice A x.els.length c) := (HX.out.below hb (by rw [HS0.out]; omega)).c0
    by_cases hlt : k < x.els.length
    · obtain ⟨b, o, rfl, hbl, hc⟩ := HR.out.els.el (by omega)
      obtain ⟨c0, c1, c2, c3⟩ := (hc k hlt).below hb hbl
      have HB := Lib.hid hb
      have HC := Lib.hid hc
      clear hc hb
      go_wp2
      refine stop_end 4 ⟨?_⟩
      intro w7 hw7
      have hs7 : w7.heap.size = wr.heap.size + 1 := by rw [hw7]; simp
      have hb7 : Below wr.heap.size wr w7 := by rw [hw7]; exact below_alloc _ _
      have e0 : w7.cell? ⟨wr.heap.size, 0, none⟩ = some (.string (it x.els k).name) := by rw [hw7]; simp
      have e1 : w7.cell? ⟨wr.heap.size, 1, none⟩ = some (.int .i64 (it x.els k).fam) := by rw [hw7]; simp
      have e2 : w7.cell? ⟨wr.heap.size, 2, none⟩ = some (.int .i64 (it x.els k).lev) := by rw [hw7]; simp
      have e3 : w7.cell? ⟨wr.heap.size, 3, none⟩ = some (.int .i64 (it x.els k).base) := by rw [hw7]; simp
      have y0 : w7.cell? ⟨w.heap.size, 0, none⟩ = some (.slice (some ⟨b, o, none⟩) x.els.length c) := (hb7.cell (p := ⟨w.heap.size, 0, none⟩) (by show w.heap.size < wr.heap.size; have := HS0.out; have := HB.out.size; omega)).trans x0
      clear hw7 c0 c1 c2 c3 x0
      have HB7 := Lib.hid (HB.out.trans (hb7.mono HB.out.size))
      have hp7 : 0 < k → w7.cell? ⟨b, o + (k - 1) * 4, none⟩ = some (.string (it x.els (k - 1)).name) := fun hz => (((HC.out (k - 1) (by omega)).below HB.out hbl).below hb7 (Nat.lt_of_lt_of_le hbl HB.out.size)).c0
      have hnk := HF.out.1.2 k hlt
      have cI : ∀ d os, Calls Tryd.prog 46 #[(it x.els k).val] (grow (redrawn w7 d) os) fun e w'' => e = .returned (.bool (pB (ElOk (it x.els k)))) ∧ ∃ p : Regrown, w'' = grow (redrawn w7 p.d) p.os := fun d os => Calls.regrown_of (cdElement_any (it x.els k) _ hnk)
      have k0 := cell_regrown e0
      have k1 := cell_regrown e1
      have k2 := cell_regrown e2
      have k3 := cell_regrown e3
      have k4 := cell_regrown y0
      clear e0 e1 e2 e3 hs7 hb7 y0
      generalize wr.heap.size = g at *
      by_cases hok : ElOk (it x.els k)
      · rw [pB_yes hok] at cI
        rcases Nat.eq_zero_or_pos k with hz | hz
        · subst hz
          have HNX := Lib.hid (HI.out.next hok (fun h => absurd h (by omega)))
          clear hok
          refine wp_region_quiet_below (by kernel_rfl) (by kernel_rfl) ?_
          repeat (go_big_quiet_step (exact cI _ _))
          refine wpQuiet_nil ?_
          intro _ hw'
          obtain ⟨⟨dq, osq⟩, hw''⟩ := hw'
          subst hw''
          have HB8 := Lib.hid (HB7.out.trans ((below_regrown w7 dq osq).mono HB7.out.size))
          generalize grow (redrawn w7 dq) osq = w8 at HB8 ⊢
          go_wp2
          go_roundw
          case rel => exact ⟨0 + 1, by omega, by go_num, HNX.out, HB8.out⟩
          case measure => simp [intOf]; omega
        · obtain ⟨j, rfl⟩ : ∃ j, k = j + 1 := ⟨k - 1, by omega⟩
          have kp := cell_regrown (hp7 hz)
          rw [show j + 1 - 1 = j by omega] at kp
          have j0 : (0 : Int) ≤ (j : Int) := by omega
          have j1 : (j : Int) < (x.els.length : Int) := by omega
          have j2 : (j : Int) < 1048576 := by have := HF.out.1.1; omega
          by_cases hn : nlt (it x.els j).name (it x.els (j + 1)).name = true
          · have HNX := Lib.hid (HI.out.next hok (fun _ => hn))
            unfold nlt at hn
            clear hok hp7
            refine wp_region_quiet_below (by kernel_rfl) (by kernel_rfl) ?_
            repeat (go_big_quiet_step (exact cI _ _))
            refine wpQuiet_nil ?_
            intro _ hw'
            obtain ⟨⟨dq, osq⟩, hw''⟩ := hw'
            subst hw''
            have HB8 := Lib.hid (HB7.out.trans ((below_regrown w7 dq osq).mono HB7.out.size))
            generalize grow (redrawn w7 dq) osq = w8 at HB8 ⊢
            go_wp2
            go_roundw
            case rel => exact ⟨j + 1 + 1, by omega, by go_num, HNX.out, HB8.out⟩
            case measure => simp [intOf]; omega
          · have HV := Lib.hid (pB_no (fun h : CdOk x => hn (h.els.ord (j + 1) (by omega) hlt)))
            have hn' : Op.bytesLess (it x.els j).name.toList (it x.els (j + 1)).name.toList = false := by simpa [nlt] using hn
            clear hok hp7 hn
            refine wp_region_quiet_below (by kernel_rfl) (by kernel_rfl) ?_
            repeat (go_big_quiet_step (exact cI _ _))
            refine wpQuiet_nil ?_
            intro _ hw'
            obtain ⟨⟨dq, osq⟩, hw''⟩ := hw'
            subst hw''
            have HB8 := Lib.hid (HB7.out.trans ((below_regrown w7 dq osq).mono HB7.out.size))
            generalize grow (redrawn w7 dq) osq = w8 at HB8 ⊢
            go_wp2
            go_ret
            exact ⟨by rw [HV.out]; rfl, HB0.out.trans (HB8.out.mono HB0.out.size)⟩
      · rw [pB_no hok] at cI
        have HV := Lib.hid (pB_no (fun h : CdOk x => hok (h.els.el k hlt)))
        clear hok hp7
        refine wp_region_quiet_below (by kernel_rfl) (by kernel_rfl) ?_
        repeat (go_big_quiet_step (exact cI _ _))
        refine wpQuiet_nil ?_
        intro _ hw'
        obtain ⟨⟨dq, osq⟩, hw''⟩ := hw'
        subst hw''
        have HB8 := Lib.hid (HB7.out.trans ((below_regrown w7 dq osq).mono HB7.out.size))
        generalize grow (redrawn w7 dq) osq = w8 at HB8 ⊢
        go_wp2
        go_ret
        exact ⟨by rw [HV.out]; rfl, HB0.out.trans (HB8.out.mono HB0.out.size)⟩
    · obtain rfl : k = x.els.length := by omega
      have HO := Lib.hid (HB0.out.trans (hb.mono HB0.out.size))
      obtain ⟨_, x1, x2, x3, x4, x5⟩ := HX.out.below hb (by rw [HS0.out]; omega)
      have HRL := Lib.hid ((HR.out.below hb).lims)
      have hll := HF.out.2
      clear hb
      by_cases hL : 1 ≤ x.els.length ∧ x.els.length ≤ 24
      · have HE := Lib.hid (⟨hL.1, hL.2, fun i hi => (HI.out i hi).1, fun i h0 hi => (HI.out i hi).2 h0⟩ : ElsOk x.els)
        obtain ⟨hL1, hL2⟩ := hL
        by_cases h5 : x.lims.length = 5
        · have H5 := Lib.hid h5
          by_cases hlm : ∀ i, i < x.lims.length → 0 ≤ it x.lims i ∧ it x.lims i ≤ 9
          · have HLM := Lib.hid (pB_yes hlm)
            by_cases hq : (1 ≤ x.rep ∧ x.rep ≤ 3) ∧ (0 ≤ x.bon ∧ x.bon ≤ 20) ∧ (50 ≤ x.kee ∧ x.kee ≤ 100) ∧ (0 ≤ x.fal ∧ x.fal ≤ 500)
            · have HV := Lib.hid (pB_yes (⟨HE.out, ⟨h5, hlm⟩, hq.1, hq.2.1, hq.2.2.1, hq.2.2.2⟩ : CdOk x))
              clear hlm
              go_wp2_with (first | (go_at_call 47; first | (refine (l1In_yes _ _ _ _ (by omega) (by omega)).mono ?_; rintro e w2 ⟨rfl, rfl⟩) | (refine (l1In_no _ _ _ _ (by omega)).mono ?_; rintro e w2 ⟨rfl, rfl⟩)) | (go_at_call 48; refine (l1All_len L d _ x.lims H5.out _ HRL.out (by omega)).mono ?_; rintro e w2 ⟨he, rfl⟩; rw [HLM.out] at he; subst he))
              go_ret
              exact ⟨by rw [HV.out]; rfl, HO.out⟩
            · have HV := Lib.hid (pB_no (fun h : CdOk x => hq ⟨h.rep, h.bon, h.kee, h.fal⟩))
              have hq' : ¬ (1 ≤ x.rep ∧ x.rep ≤ 3) ∨ (1 ≤ x.rep ∧ x.rep ≤ 3) ∧ ¬ (0 ≤ x.bon ∧ x.bon ≤ 20) ∨ (1 ≤ x.rep ∧ x.rep ≤ 3) ∧ (0 ≤ x.bon ∧ x.bon ≤ 20) ∧ ¬ (50 ≤ x.kee ∧ x.kee ≤ 100) ∨ (1 ≤ x.rep ∧ x.rep ≤ 3) ∧ (0 ≤ x.bon ∧ x.bon ≤ 20) ∧ (50 ≤ x.kee ∧ x.kee ≤ 100) ∧ ¬ (0 ≤ x.fal ∧ x.fal ≤ 500) := by omega
              clear hlm hq
              rcases hq' with hq | ⟨g1, hq⟩ | ⟨g1, g2, hq⟩ | ⟨g1, g2, g3, hq⟩
              all_goals
                go_wp2_with (first | (go_at_call 47; first | (refine (l1In_yes _ _ _ _ (by omega) (by omega)).mono ?_; rintro e w2 ⟨rfl, rfl⟩) | (refine (l1In_no _ _ _ _ (by omega)).mono ?_; rintro e w2 ⟨rfl, rfl⟩)) | (go_at_call 48; refine (l1All_len L d _ x.lims H5.out _ HRL.out (by omega)).mono ?_; rintro e w2 ⟨he, rfl⟩; rw [HLM.out] at he; subst he))
                go_ret
                exact ⟨by rw [HV.out]; rfl, HO.out⟩
          · have HLM := Lib.hid (pB_no hlm)
            have HV := Lib.hid (pB_no (fun h : CdOk x => hlm h.lims.lim))
            clear hlm
            go_wp2_with (first | (go_at_call 47; first | (refine (l1In_yes _ _ _ _ (by omega) (by omega)).mono ?_; rintro e w2 ⟨rfl, rfl⟩) | (refine (l1In_no _ _ _ _ (by omega)).mono ?_; rintro e w2 ⟨rfl, rfl⟩)) | (go_at_call 48; refine (l1All_len L d _ x.lims H5.out _ HRL.out (by omega)).mono ?_; rintro e w2 ⟨he, rfl⟩; rw [HLM.out] at he; subst he))
            go_ret
            exact ⟨by rw [HV.out]; rfl, HO.out⟩
        · have HV := Lib.hid (pB_no (fun h : CdOk x => h5 h.lims.len))
          have h5' : ¬ (x.lims.length : Int) = 5 := by omega
          clear h5
          go_wp2_with (first | (go_at_call 47; first | (refine (l1In_yes _ _ _ _ (by omega) (by omega)).mono ?_; rintro e w2 ⟨rfl, rfl⟩) | (refine (l1In_no _ _ _ _ (by omega)).mono ?_; rintro e w2 ⟨rfl, rfl⟩)))
          go_ret
          exact ⟨by rw [HV.out]; rfl, HO.out⟩
      · have HV := Lib.hid (pB_no (fun h : CdOk x => hL ⟨h.els.lo, h.els.hi⟩))
        go_wp2_with (first | (go_at_call 47; first | (refine (l1In_yes _ _ _ _ (by omega) (by omega)).mono ?_; rintro e w2 ⟨rfl, rfl⟩) | (refine (l1In_no _ _ _ _ (by omega)).mono ?_; rintro e w2 ⟨rfl, rfl⟩)))
        go_ret
        exact ⟨by rw [HV.out]; rfl, HO.out⟩
end Go.Proofs.YtocjkhfghldnnaaDoor
