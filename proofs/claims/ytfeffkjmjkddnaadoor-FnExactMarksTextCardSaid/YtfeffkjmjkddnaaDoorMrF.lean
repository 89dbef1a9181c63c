/- AreMarks and JudgesOf of the program; who has a judge. -/
import Derived.Test.YtfeffkjmjkddnaaDoorMrE
import Derived.Deep.RegionHeld3
namespace Go.Proofs.YtfeffkjmjkddnaaDoor
open Go.ChangeShapes Go.WideShapes Go.ChangeAt Go.RowKit Go.Lib Go.Proofs
set_option linter.unusedVariables false

set_option maxHeartbeats 4000000 in
theorem iAreMarks_any (x : Mr) (n : Int) (w : World) (hr : MrIn w w.heap.size x) (hl : MrFits x) :
    Calls Tryd.prog 18 #[x.val, .int .i64 n] w fun e w' => e = .returned (.bool (pB (MkN (ctt x.G) (ctt x.C) n))) ∧ Below w.heap.size w w' := by
  have hb0 := below_alloc w (.cells #[.slice x.G.A x.G.xs.length x.G.c, .slice x.C.A x.C.xs.length x.C.c] 28)
  have HR := Lib.hid (hr.next hb0)
  have HX := Lib.hid (mrBox_new w 28 x)
  have HB0 := Lib.hid hb0
  have HF := Lib.hid hl
  have hg1 := nfit_len hl.g
  have hc1 := nfit_len hl.c
  clear hr hl hb0
  unfold Mr.val
  by_cases h1 : (x.G.xs.length : Int) = n
  rotate_left
  · have HV := Lib.hid (pB_no (fun q : MkN (ctt x.G) (ctt x.C) n => h1 (by rw [← ctt_len]; exact q.len)))
    have hd : ((x.G.xs.length : Int) != n) = true := by simp; omega
    clear h1
    go_enter Tryd.func18, Tryd.ntmps18
    go_wp2_with fail
    generalize World.alloc w _ = W at HR HX HB0 ⊢
    obtain ⟨x0, x1, xf⟩ := HX.out.mem
    go_wp2
    go_ret
    exact ⟨by rw [HV.out]; rfl, HB0.out⟩
  subst h1
  have HN := Lib.hid (show pB (MkN (ctt x.G) (ctt x.C) x.G.xs.length) = pB (MkL (ctt x.G) (ctt x.C)) from pB_iff ⟨fun h => h.ok, fun h => ⟨h, by rw [ctt_len]⟩⟩)
  rw [HN.out]
  have hd0 : ((x.G.xs.length : Int) != (x.G.xs.length : Int)) = false := by simp
  rcases Nat.lt_or_ge 14 x.G.xs.length with h2 | h2
  · have HV := Lib.hid (pB_no (fun q : MkL (ctt x.G) (ctt x.C) => by have := q.few; rw [ctt_len] at this; omega))
    go_enter Tryd.func18, Tryd.ntmps18
    go_wp2_with fail
    generalize World.alloc w _ = W at HR HX HB0 ⊢
    obtain ⟨x0, x1, xf⟩ := HX.out.mem
    go_wp2
    go_ret
    exact ⟨by rw [HV.out]; rfl, HB0.out⟩
  by_cases h1 : x.C.xs.length = 3
  rotate_left
  · have HV := Lib.hid (pB_no (fun q : MkL (ctt x.G) (ctt x.C) => h1 (by rw [← ctt_len]; exact q.three)))
    have hd : ((x.C.xs.length : Int) != 3) = true := by simp; omega
    clear h1
    go_enter Tryd.func18, Tryd.ntmps18
    go_wp2_with fail
    generalize World.alloc w _ = W at HR HX HB0 ⊢
    obtain ⟨x0, x1, xf⟩ := HX.out.mem
    go_wp2
    go_ret
    exact ⟨by rw [HV.out]; rfl, HB0.out⟩
  have hd : ((x.C.xs.length : Int) != 3) = false := by simp [h1]
  have H3 := Lib.hid h1
  have h13 : 0 < x.C.xs.length := by omega
  clear h1
  obtain ⟨b, o, hA, hbl, hc⟩ := mr_cell HR.out.c h13
  have hc0 := hc 0 h13
  rw [Nat.add_zero] at hc0
  have h0p : (0 : Int) < (x.C.xs.length : Int) := by omega
  have HA := Lib.hid hA
  have HCG := Lib.hid (fun w' hr' => areGrades_any x.G (jgs (ctt x.C)) w' hr' HF.out.g)
  have HCC := Lib.hid (fun w' hr' => areComps_any x.C (jgs (ctt x.C)) w' hr' HF.out.c)
  rw [hA] at HX HR HB0 hc0 HCC
  rw [hA]
  clear hc hA
  have HJ := Lib.hid (show (it x.C.xs 0).xs.length = jgs (ctt x.C) by unfold jgs; rw [ctt_it])
  have hj0 := nfit_len (nfit_each HF.out.c 0 h13)
  rw [HJ.out] at hj0 hc0
  generalize hJ : jgs (ctt x.C) = J at hj0 hc0 HCG HCC
  have HJ2 := Lib.hid hJ
  clear hJ
  rcases Nat.lt_or_ge J 3 with h4 | h4
  · have HV := Lib.hid (pB_no (fun q : MkL (ctt x.G) (ctt x.C) => by have := q.j3; have := HJ2.out; omega))
    go_enter Tryd.func18, Tryd.ntmps18
    go_wp2
    go_ret
    exact ⟨by rw [HV.out]; rfl, HB0.out⟩
  rcases Nat.lt_or_ge 9 J with h5 | h5
  · have HV := Lib.hid (pB_no (fun q : MkL (ctt x.G) (ctt x.C) => by have := q.j9; have := HJ2.out; omega))
    go_enter Tryd.func18, Tryd.ntmps18
    go_wp2
    go_ret
    exact ⟨by rw [HV.out]; rfl, HB0.out⟩
  by_cases h6 : RowsV GdOk J (ctt x.G)
  rotate_left
  · have HV := Lib.hid (pB_no (fun q : MkL (ctt x.G) (ctt x.C) => h6 (HJ2.out ▸ q.gs)))
    rw [pB_no h6] at HCG
    clear h6
    go_enter Tryd.func18, Tryd.ntmps18
    go_wp2_with (go_at_call 31; refine (HCG.out _ HR.out.g hj0).mono ?_; rintro e w1 ⟨rfl, hb1⟩; have HB1 := Lib.hid (below_next HB0.out hb1); clear hb1)
    go_ret
    exact ⟨by rw [HV.out]; rfl, HB1.out⟩
  rw [pB_yes h6] at HCG
  have HV := Lib.hid (show pB (RowsV CpOk J (ctt x.C)) = pB (MkL (ctt x.G) (ctt x.C)) from pB_iff ⟨fun h => ⟨by rw [ctt_len]; exact h2, by rw [ctt_len]; exact H3.out, by have := HJ2.out; omega, by have := HJ2.out; omega, by rw [HJ2.out]; exact h6, by rw [HJ2.out]; exact h⟩, fun h => by have := h.cs; rw [HJ2.out] at this; exact this⟩)
  clear h6
  have HXX := Lib.hid (show ∀ w', Below (World.alloc w (.cells #[.slice x.G.A x.G.xs.length x.G.c, .slice (some ⟨b, o, none⟩) x.C.xs.length x.C.c] 28)).heap.size (World.alloc w (.cells #[.slice x.G.A x.G.xs.length x.G.c, .slice (some ⟨b, o, none⟩) x.C.xs.length x.C.c] 28)) w' → Mem2 w' w.heap.size (.slice x.G.A x.G.xs.length x.G.c) (.slice (some ⟨b, o, none⟩) x.C.xs.length x.C.c) from fun w' hb => by
    have h := (HX.out.next hb).mem
    rw [HA.out] at h
    exact h)
  go_enter Tryd.func18, Tryd.ntmps18
  go_wp2_with (first
    | (go_at_call 31; (with_reducible refine (HCG.out _ HR.out.g hj0).mono ?_); rintro e w1 ⟨rfl, hb1⟩; have HB1 := Lib.hid (below_next HB0.out hb1); have HR1 := Lib.hid (HR.out.next hb1); obtain ⟨x0, x1, xf⟩ := HXX.out _ hb1; clear hb1)
    | (go_at_call 31; (with_reducible refine (HCC.out _ HR1.out.c hj0).mono ?_); rintro e w2 ⟨rfl, hb2⟩; have HB2 := Lib.hid (below_next HB1.out hb2); clear hb2)
    | fail)
  go_ret
  exact ⟨by rw [← HV.out]; rfl, HB2.out⟩
end Go.Proofs.YtfeffkjmjkddnaaDoor
