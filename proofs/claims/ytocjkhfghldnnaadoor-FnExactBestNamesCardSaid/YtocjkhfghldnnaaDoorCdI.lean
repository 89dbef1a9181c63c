/- Valid codes in the program; IsCode on both sides. -/
import Derived.Test.YtocjkhfghldnnaaDoorCdH
namespace Go.Proofs.YtocjkhfghldnnaaDoor
open Go.ChangeShapes Go.WideShapes Go.ChangeAt Go.RowKit Go.PlainAid Go.Sort
set_option linter.unusedVariables false

set_option maxHeartbeats 1000000 in
theorem iIsCode_any (A L : Option Addr) (c d : Nat) (x : Cd) (w : World) (hr : CdAt w A L x) (hl : CdFits x) (ht : Tab w) :
    Calls Tryd.prog 28 #[x.val A c L d] w fun e w' => e = .returned (.bool (pB (CdOk x))) ∧ Below w.heap.size w w' := by
  obtain ⟨W, hW⟩ : ∃ W, W = w.alloc (.cells #[.slice A x.els.length c, .slice L x.lims.length d, .int .i64 x.rep, .int .i64 x.bon, .int .i64 x.kee, .int .i64 x.fal] 31) := ⟨_, rfl⟩
  have hb0 : Below w.heap.size w W := by rw [hW]; exact below_alloc _ _
  have HB0 := Lib.hid hb0
  have hs0 : W.heap.size = w.heap.size + 1 := by rw [hW]; simp
  have HS0 := Lib.hid hs0
  have HR := Lib.hid (hr.below hb0)
  have HX := Lib.hid (show CdBox W w.heap.size A c L d x by rw [hW]; exact cdBox_new w _ _ rfl A c L d x)
  have HF := Lib.hid hl
  have HT := Lib.hid (ht.next hb0)
  clear hr hl hb0 hs0 ht
  have HE1 := Lib.hid (areElements_any A c x.els W HR.out.els HF.out.1 HT.out)
  unfold Cd.val
  go_enter Tryd.func28, Tryd.ntmps28
  go_wp2_with fail
  rw [← hW]
  clear hW
  refine HE1.out.mono ?_
  rintro e w2 ⟨he, hb2⟩
  have hlt : w.heap.size < W.heap.size := by rw [HS0.out]; omega
  obtain ⟨_, x1, x2, x3, x4, x5⟩ := HX.out.below hb2 hlt
  have HRL := Lib.hid ((HR.out.below hb2).lims)
  have HT2 := Lib.hid (HT.out.next hb2)
  have HO := Lib.hid (HB0.out.trans (hb2.mono HB0.out.size))
  have hll := HF.out.2
  clear hb2 hlt
  by_cases hE : ElsOk x.els
  · rw [pB_yes hE] at he
    subst he
    by_cases hL : LimsOk x.lims
    · have HLM := Lib.hid (pB_yes hL)
      by_cases hq : (1 ≤ x.rep ∧ x.rep ≤ 3) ∧ (0 ≤ x.bon ∧ x.bon ≤ 20) ∧ (50 ≤ x.kee ∧ x.kee ≤ 100) ∧ (0 ≤ x.fal ∧ x.fal ≤ 500)
      · have HV := Lib.hid (pB_yes (⟨hE, hL, hq.1, hq.2.1, hq.2.2.1, hq.2.2.2⟩ : CdOk x))
        clear hE hL
        go_wp2_with (first | (go_at_call 54; first | (refine (inBounds_yes _ _ _ _ _ HT2.out (by omega) rfl (by omega) (by omega)).mono ?_; rintro e w3 ⟨rfl, rfl⟩) | (refine (inBounds_no _ _ _ _ _ HT2.out (by omega) rfl (by omega)).mono ?_; rintro e w3 ⟨rfl, rfl⟩)) | (go_at_call 53; refine (areLimits_any L d x.lims _ HRL.out hll HT2.out).mono ?_; rintro e w3 ⟨he, rfl⟩; rw [HLM.out] at he; subst he))
        go_ret
        exact ⟨by rw [HV.out]; rfl, HO.out⟩
      · have HV := Lib.hid (pB_no (fun h : CdOk x => hq ⟨h.rep, h.bon, h.kee, h.fal⟩))
        have hq' : ¬ (1 ≤ x.rep ∧ x.rep ≤ 3) ∨ (1 ≤ x.rep ∧ x.rep ≤ 3) ∧ ¬ (0 ≤ x.bon ∧ x.bon ≤ 20) ∨ (1 ≤ x.rep ∧ x.rep ≤ 3) ∧ (0 ≤ x.bon ∧ x.bon ≤ 20) ∧ ¬ (50 ≤ x.kee ∧ x.kee ≤ 100) ∨ (1 ≤ x.rep ∧ x.rep ≤ 3) ∧ (0 ≤ x.bon ∧ x.bon ≤ 20) ∧ (50 ≤ x.kee ∧ x.kee ≤ 100) ∧ ¬ (0 ≤ x.fal ∧ x.fal ≤ 500) := by omega
        clear hE hL hq
        rcases hq' with hq | ⟨g1, hq⟩ | ⟨g1, g2, hq⟩ | ⟨g1, g2, g3, hq⟩
        all_goals
          go_wp2_with (first | (go_at_call 54; first | (refine (inBounds_yes _ _ _ _ _ HT2.out (by omega) rfl (by omega) (by omega)).mono ?_; rintro e w3 ⟨rfl, rfl⟩) | (refine (inBounds_no _ _ _ _ _ HT2.out (by omega) rfl (by omega)).mono ?_; rintro e w3 ⟨rfl, rfl⟩)) | (go_at_call 53; refine (areLimits_any L d x.lims _ HRL.out hll HT2.out).mono ?_; rintro e w3 ⟨he, rfl⟩; rw [HLM.out] at he; subst he))
          go_ret
          exact ⟨by rw [HV.out]; rfl, HO.out⟩
    · have HLM := Lib.hid (pB_no hL)
      have HV := Lib.hid (pB_no (fun h : CdOk x => hL h.lims))
      clear hE hL
      go_wp2_with (first | (go_at_call 54; first | (refine (inBounds_yes _ _ _ _ _ HT2.out (by omega) rfl (by omega) (by omega)).mono ?_; rintro e w3 ⟨rfl, rfl⟩) | (refine (inBounds_no _ _ _ _ _ HT2.out (by omega) rfl (by omega)).mono ?_; rintro e w3 ⟨rfl, rfl⟩)) | (go_at_call 53; refine (areLimits_any L d x.lims _ HRL.out hll HT2.out).mono ?_; rintro e w3 ⟨he, rfl⟩; rw [HLM.out] at he; subst he))
      go_ret
      exact ⟨by rw [HV.out]; rfl, HO.out⟩
  · rw [pB_no hE] at he
    subst he
    have HV := Lib.hid (pB_no (fun h : CdOk x => hE h.els))
    clear hE
    go_wp2
    go_ret
    exact ⟨by rw [HV.out]; rfl, HO.out⟩

/-- The world behind a code's own box. -/
def boxCd (t : TypeId) (w : World) (A : Option Addr) (c : Nat) (L : Option Addr) (d : Nat) (x : Cd) : World := w.alloc (.cells #[.slice A x.els.length c, .slice L x.lims.length d, .int .i64 x.rep, .int .i64 x.bon, .int .i64 x.kee, .int .i64 x.fal] t)
structure Boxed (w W : World) (A : Option Addr) (c : Nat) (L : Option Addr) (d : Nat) (x : Cd) : Prop where
  below : Below w.heap.size w W
  size : W.heap.size = w.heap.size + 1
  box : CdBox W w.heap.size A c L d x
theorem boxed (t : TypeId) (w : World) (A : Option Addr) (c : Nat) (L : Option Addr) (d : Nat) (x : Cd) : ∃ W, W = boxCd t w A c L d x ∧ Boxed w W A c L d x :=
  ⟨_, rfl, below_alloc _ _, by simp [boxCd], cdBox_new w _ _ rfl A c L d x⟩
theorem Boxed.lt {w W : World} {A : Option Addr} {c : Nat} {L : Option Addr} {d : Nat} {x : Cd} (h : Boxed w W A c L d x) : w.heap.size < W.heap.size := by rw [h.size]; omega

theorem Below_next {w w1 w2 : World} (h : Below w.heap.size w w1) (k : Below w1.heap.size w1 w2) : Below w.heap.size w w2 := h.trans (k.mono h.size)
/-- A code's box, still there. -/
structure BoxAt (w : World) (b : Nat) (A : Option Addr) (c : Nat) (L : Option Addr) (d : Nat) (x : Cd) : Prop where
  lt : b < w.heap.size
  box : CdBox w b A c L d x
theorem BoxAt.next {w w' : World} {b : Nat} {A : Option Addr} {c : Nat} {L : Option Addr} {d : Nat} {x : Cd} (h : BoxAt w b A c L d x) (k : Below w.heap.size w w') : BoxAt w' b A c L d x := ⟨Nat.lt_of_lt_of_le h.lt k.size, h.box.below k h.lt⟩
theorem Boxed.at_ {w W : World} {A : Option Addr} {c : Nat} {L : Option Addr} {d : Nat} {x : Cd} (h : Boxed w W A c L d x) : BoxAt W w.heap.size A c L d x := ⟨h.lt, h.box⟩

end Go.Proofs.YtocjkhfghldnnaaDoor
