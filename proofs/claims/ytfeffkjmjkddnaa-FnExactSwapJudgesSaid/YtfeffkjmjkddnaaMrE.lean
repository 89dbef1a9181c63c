/- AreMarks, JudgesOf, of both sides; who has a judge; marks if they are valid. -/
import Derived.Test.YtfeffkjmjkddnaaMrD
import Derived.Deep.RegionHeld3
namespace Go.Proofs.Ytfeffkjmjkddnaa
open Go.ChangeShapes Go.WideShapes Go.ChangeAt Go.RowKit Go.Lib Go.Proofs
set_option linter.unusedVariables false

structure MkN (g c : List (List Int)) (n : Int) : Prop where
  ok : MkL g c
  len : (g.length : Int) = n
noncomputable def jgN (g c : List (List Int)) : Int := pIf (MkL g c) (jgs c : Int) 0
theorem jgN_yes {g c : List (List Int)} (h : MkL g c) : jgN g c = (jgs c : Int) := pIf_yes h
theorem jgN_no {g c : List (List Int)} (h : ¬ MkL g c) : jgN g c = 0 := pIf_no h
theorem mkGood_any (x : Mr) (n : Int) (w : World) (hr : MrIn w w.heap.size x) (hl : MrFits x) :
    Calls Try.prog 40 #[x.val, .int .i64 n] w fun e w' => e = .returned (.bool (pB (MkN (ctt x.G) (ctt x.C) n))) ∧ Below w.heap.size w w' := by
  have hb0 := below_alloc w (.cells #[.slice x.G.A x.G.xs.length x.G.c, .slice x.C.A x.C.xs.length x.C.c] 27)
  have HR := Lib.hid (hr.next hb0)
  have HX := Lib.hid (mrBox_new w 27 x)
  have HB0 := Lib.hid hb0
  have hg1 := nfit_len hl.g
  have HC := Lib.hid (mkAll_any x _ (hr.next hb0) hl)
  clear hr hl hb0
  unfold Mr.val at HC ⊢
  by_cases h1 : MkL (ctt x.G) (ctt x.C)
  rotate_left
  · rw [pB_no h1] at HC
    have HV := Lib.hid (pB_no (fun q : MkN (ctt x.G) (ctt x.C) n => h1 q.ok))
    clear h1
    go_enter Try.func40, Try.ntmps40
    go_wp2_with (go_at_call 46; refine HC.out.mono ?_; rintro e w1 ⟨rfl, hb1⟩; have HB1 := Lib.hid (below_next HB0.out hb1); clear hb1)
    go_ret
    exact ⟨by rw [HV.out]; rfl, HB1.out⟩
  rw [pB_yes h1] at HC
  have H1 := Lib.hid h1
  clear h1
  by_cases h2 : (x.G.xs.length : Int) = n
  · have HV := Lib.hid (pB_yes (⟨H1.out, by rw [ctt_len]; exact h2⟩ : MkN (ctt x.G) (ctt x.C) n))
    subst h2
    go_enter Try.func40, Try.ntmps40
    go_wp2_with (go_at_call 46; refine HC.out.mono ?_; rintro e w1 ⟨rfl, hb1⟩; have HB1 := Lib.hid (below_next HB0.out hb1); obtain ⟨x0, x1, xf⟩ := (HX.out.next hb1).mem; clear hb1)
    go_ret
    exact ⟨by rw [HV.out]; simp, HB1.out⟩
  · have HV := Lib.hid (pB_no (fun q : MkN (ctt x.G) (ctt x.C) n => h2 (by rw [← ctt_len]; exact q.len)))
    have hd : ((x.G.xs.length : Int) == n) = false := by simp; omega
    clear h2
    go_enter Try.func40, Try.ntmps40
    go_wp2_with (go_at_call 46; refine HC.out.mono ?_; rintro e w1 ⟨rfl, hb1⟩; have HB1 := Lib.hid (below_next HB0.out hb1); obtain ⟨x0, x1, xf⟩ := (HX.out.next hb1).mem; clear hb1)
    go_ret
    exact ⟨by rw [HV.out]; rfl, HB1.out⟩
theorem sAreMarks_any (x : Mr) (n : Int) (w : World) (hr : MrIn w w.heap.size x) (hl : MrFits x) :
    Calls Try.prog 13 #[x.val, .int .i64 n] w fun e w' => e = .returned (.bool (pB (MkN (ctt x.G) (ctt x.C) n))) ∧ Below w.heap.size w w' := by
  have hb0 := below_alloc w (.cells #[.slice x.G.A x.G.xs.length x.G.c, .slice x.C.A x.C.xs.length x.C.c] 27)
  have HB0 := Lib.hid hb0
  have HC := Lib.hid (mkGood_any x n _ (hr.next hb0) hl)
  clear hr hl hb0
  unfold Mr.val at HC ⊢
  go_enter Try.func13, Try.ntmps13
  go_wp2_with (go_at_call 40; refine HC.out.mono ?_; rintro e w1 ⟨rfl, hb1⟩; have HB1 := Lib.hid (below_next HB0.out hb1); clear hb1)
  go_ret
  exact ⟨rfl, HB1.out⟩
theorem mkJudges_any (x : Mr) (w : World) (hr : MrIn w w.heap.size x) (hl : MrFits x) (hp : 0 < x.C.xs.length) :
    Calls Try.prog 47 #[x.val] w fun e w' => e = .returned (.int .i64 (jgs (ctt x.C))) ∧ Below w.heap.size w w' := by
  have hb0 := below_alloc w (.cells #[.slice x.G.A x.G.xs.length x.G.c, .slice x.C.A x.C.xs.length x.C.c] 27)
  obtain ⟨b, o, hA, hbl, hc⟩ := mr_cell (hr.next hb0).c hp
  have hc0 := hc 0 hp
  rw [Nat.add_zero] at hc0
  have h0p : (0 : Int) < (x.C.xs.length : Int) := by omega
  have HB0 := Lib.hid hb0
  have HJ := Lib.hid (show (it x.C.xs 0).xs.length = jgs (ctt x.C) by unfold jgs; rw [ctt_it])
  have hj0 := nfit_len (nfit_each hl.c 0 hp)
  have hc1 := nfit_len hl.c
  rw [hA] at hc0 HB0
  clear hr hl hc hb0
  unfold Mr.val
  rw [hA]
  clear hA
  go_enter Try.func47, Try.ntmps47
  go_wp2
  go_ret
  exact ⟨by rw [← HJ.out]; rfl, HB0.out⟩
set_option maxHeartbeats 1000000 in
theorem sJudgesOf_any (x : Mr) (w : World) (hr : MrIn w w.heap.size x) (hl : MrFits x) :
    Calls Try.prog 17 #[x.val] w fun e w' => e = .returned (.tuple #[.int .i64 (jgN (ctt x.G) (ctt x.C)), .bool (pB (MkL (ctt x.G) (ctt x.C)))]) ∧ Below w.heap.size w w' := by
  have hb0 := below_alloc w (.cells #[.slice x.G.A x.G.xs.length x.G.c, .slice x.C.A x.C.xs.length x.C.c] 27)
  have HB0 := Lib.hid hb0
  have HR := Lib.hid (hr.next hb0)
  have HF := Lib.hid hl
  have HX := Lib.hid (mrBox_new w 27 x)
  have HC := Lib.hid (mkAll_any x _ (hr.next hb0) hl)
  clear hr hl hb0
  unfold Mr.val at HC ⊢
  by_cases h1 : MkL (ctt x.G) (ctt x.C)
  · rw [pB_yes h1] at HC ⊢
    rw [jgN_yes h1]
    have h3 := h1.three
    rw [ctt_len] at h3
    have HCJ := Lib.hid (fun w' hr' => mkJudges_any x w' hr' HF.out (by omega))
    unfold Mr.val at HCJ
    clear h1 h3
    go_enter Try.func17, Try.ntmps17
    go_wp2_with (first
      | (go_at_call 46; refine HC.out.mono ?_; rintro e w1 ⟨rfl, hb1⟩; have HB1 := Lib.hid (below_next HB0.out hb1); have HR1 := Lib.hid (HR.out.next hb1); obtain ⟨x0, x1, xf⟩ := (HX.out.next hb1).mem; clear hb1)
      | (go_at_call 47; refine (HCJ.out _ HR1.out).mono ?_; rintro e w2 ⟨rfl, hb2⟩; have HB2 := Lib.hid (below_next HB1.out hb2); clear hb2))
    go_returns
    exact ⟨rfl, HB2.out⟩
  · rw [pB_no h1] at HC ⊢
    rw [jgN_no h1]
    clear h1
    go_enter Try.func17, Try.ntmps17
    go_wp2_with (go_at_call 46; refine HC.out.mono ?_; rintro e w1 ⟨rfl, hb1⟩; have HB1 := Lib.hid (below_next HB0.out hb1); clear hb1)
    go_returns
    exact ⟨rfl, HB1.out⟩
set_option maxHeartbeats 1000000 in
theorem mkHas_any (x : Mr) (j : Int) (w : World) (hr : MrIn w w.heap.size x) (hl : MrFits x) :
    Calls Try.prog 48 #[x.val, .int .i64 j] w fun e w' => e = .returned (.bool (pB (MkHas (ctt x.G) (ctt x.C) j))) ∧ Below w.heap.size w w' := by
  have hb0 := below_alloc w (.cells #[.slice x.G.A x.G.xs.length x.G.c, .slice x.C.A x.C.xs.length x.C.c] 27)
  have HB0 := Lib.hid hb0
  have HR := Lib.hid (hr.next hb0)
  have HF := Lib.hid hl
  have HX := Lib.hid (mrBox_new w 27 x)
  have HC := Lib.hid (mkAll_any x _ (hr.next hb0) hl)
  clear hr hl hb0
  unfold Mr.val at HC ⊢
  by_cases h1 : MkL (ctt x.G) (ctt x.C)
  · rw [pB_yes h1] at HC
    have h3 := h1.three
    rw [ctt_len] at h3
    have HCJ := Lib.hid (fun w' hr' => mkJudges_any x w' hr' HF.out (by omega))
    unfold Mr.val at HCJ
    have HV := Lib.hid (show pB (0 ≤ j ∧ j ≤ (jgs (ctt x.C) : Int) - 1) = pB (MkHas (ctt x.G) (ctt x.C) j) from pB_iff ⟨fun h => ⟨h1, h.1, by omega⟩, fun h => ⟨h.lo, by have := h.hi; omega⟩⟩)
    have hj9 := h1.j9
    have hj3 := h1.j3
    clear h1 h3
    go_enter Try.func48, Try.ntmps48
    go_wp2_with (first
      | (go_at_call 46; refine HC.out.mono ?_; rintro e w1 ⟨rfl, hb1⟩; have HB1 := Lib.hid (below_next HB0.out hb1); have HR1 := Lib.hid (HR.out.next hb1); obtain ⟨x0, x1, xf⟩ := (HX.out.next hb1).mem; clear hb1)
      | (go_at_call 47; refine (HCJ.out _ HR1.out).mono ?_; rintro e w2 ⟨rfl, hb2⟩; have HB2 := Lib.hid (below_next HB1.out hb2); clear hb2)
      | (go_at_call 53; refine (l1In_any _ _ _ _).mono ?_; rintro e w3 ⟨rfl, rfl⟩))
    go_ret
    exact ⟨by rw [← HV.out]; rfl, HB2.out⟩
  · rw [pB_no h1] at HC
    have HV := Lib.hid (pB_no (fun q : MkHas (ctt x.G) (ctt x.C) j => h1 q.ok))
    clear h1
    go_enter Try.func48, Try.ntmps48
    go_wp2_with (go_at_call 46; refine HC.out.mono ?_; rintro e w1 ⟨rfl, hb1⟩; have HB1 := Lib.hid (below_next HB0.out hb1); clear hb1)
    go_ret
    exact ⟨by rw [HV.out]; rfl, HB1.out⟩
end Go.Proofs.Ytfeffkjmjkddnaa
