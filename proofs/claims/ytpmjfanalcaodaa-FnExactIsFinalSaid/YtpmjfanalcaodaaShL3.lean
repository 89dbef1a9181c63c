/- The walk of the law IsFinal. -/
import Derived.Test.YtpmjfanalcaodaaShQ
import Derived.Test.YtpmjfanalcaodaaShW
import Derived.Deep.RegionHeld3
namespace Go.Proofs.Ytpmjfanalcaodaa
open Go.ChangeShapes Go.WideShapes Go.ChangeAt Go.RowKit Go.Lib Go.Proofs
set_option linter.unusedVariables false

theorem sIsFinal_s (x y : Sh) (w : World) (hs : ShSame x y) (hr : ShIn w w.heap.size y) (hl : ShFits x) :
    Calls Try.prog 46 #[y.val] w fun e w' => e = .returned (fiV x) ∧ Below w.heap.size w w' := by
  rw [← (show fiV y = fiV x from fiV_same hs)]
  exact sIsFinal_any y w hr (hs.fits hl)
theorem iIsFinal_s (x y : Sh) (w : World) (hs : ShSame x y) (hr : ShIn w w.heap.size y) (hl : ShFits x) :
    Calls Try.prog 47 #[y.val] w fun e w' => e = .returned (fiV x) ∧ Below w.heap.size w w' := by
  rw [← (show fiV y = fiV x from fiV_same hs)]
  exact iIsFinal_any y w hr (hs.fits hl)
set_option maxHeartbeats 4000000 in
set_option maxRecDepth 20000 in
theorem walkIsFinal (x : Sh) (w : World) (hr : ShIn w w.heap.size x) (hl : ShLen x) :
    Calls Try.prog 11 #[x.val] w fun e w' => e = .returned (.bool true) ∧ Below w.heap.size w w' := by
  have hb0 := below_alloc w (.cells #[.slice x.P x.l.length x.c, .slice x.V.A x.V.xs.length x.V.c, .slice x.R x.rv.length x.e] 26)
  have HB0 := Lib.hid hb0
  have HX0 := Lib.hid (shBox_new w 26 x)
  have HR0 := Lib.hid (hr.next hb0)
  have HL := Lib.hid hl
  clear hr hl hb0
  unfold Sh.val
  go_enter Try.func11, Try.ntmps11
  go_wp2_with fail
  generalize World.alloc w _ = W at HB0 HX0 HR0 ⊢
  refine (szSheet_any x _ W HR0.out HL.out (by omega) (by omega)).mono ?_
  rintro e w1 ⟨⟨q, rfl, hq⟩, hb1⟩
  have HB1 := Lib.hid (below_next HB0.out hb1)
  have HX1 := Lib.hid (HX0.out.next hb1)
  have HR1 := Lib.hid (HR0.out.next hb1)
  clear hb1
  rcases hq with hq | ⟨hq0, hq1, HF⟩
  · go_wp2
    go_ret
    exact ⟨rfl, HB1.out⟩
  obtain ⟨pa, pb, hvf⟩ := fiV_form x
  have HVF := Lib.hid hvf
  clear hvf
  obtain ⟨c0, c1, c2, cf⟩ := HX1.out.mem
  go_wp2_with fail
  clear c0 c1 c2
  refine (toSheet_c x w1 HR1.out HF.out).mono ?_
  rintro e w2 ⟨⟨y, rfl, hs, hy⟩, hb2⟩
  have HB2 := Lib.hid (below_next HB1.out hb2)
  have HX2 := Lib.hid (HX1.out.next hb2)
  have HR2 := Lib.hid (HR1.out.next hb2)
  have HC := Lib.hid (sIsFinal_s x y w2 hs hy.sh HF.out)
  rw [HVF.out] at HC
  clear hb2 hs hy
  unfold Sh.val at HC ⊢
  go_wp2_with fail
  refine HC.out.mono ?_
  rintro e w3 ⟨rfl, hb3⟩
  have HB3 := Lib.hid (below_next HB2.out hb3)
  have HX3 := Lib.hid (HX2.out.next hb3)
  have HR3 := Lib.hid (HR2.out.next hb3)
  clear hb3 HC
  obtain ⟨c0, c1, c2, cf⟩ := HX3.out.mem
  go_wp2_with fail
  clear c0 c1 c2
  refine (toSheet_c x w3 HR3.out HF.out).mono ?_
  rintro e w4 ⟨⟨y, rfl, hs, hy⟩, hb4⟩
  have hb5 := below_alloc w4 (.cells #[.slice y.P y.l.length y.c, .slice y.V.A y.V.xs.length y.V.c, .slice y.R y.rv.length y.e] 32)
  have HB5 := Lib.hid (below_next (below_next HB3.out hb4) hb5)
  have HX5 := Lib.hid ((HX3.out.next hb4).next hb5)
  have HR5 := Lib.hid ((HR3.out.next hb4).next hb5)
  have HY5 := Lib.hid (shBox_new w4 32 y)
  have HS := Lib.hid hs
  have HI5 := Lib.hid (hy.sh.next hb5)
  have HC := Lib.hid (iIsFinal_s x y _ hs (hy.sh.next hb5) HF.out)
  rw [HVF.out] at HC
  clear hb4 hb5 hs hy
  unfold Sh.val at HC ⊢
  go_wp2_with fail
  generalize World.alloc w4 _ = W5 at HB5 HX5 HR5 HY5 HI5 HC ⊢
  refine HC.out.mono ?_
  rintro e w6 ⟨rfl, hb6⟩
  have HB6 := Lib.hid (below_next HB5.out hb6)
  have HX6 := Lib.hid (HX5.out.next hb6)
  have HY6 := Lib.hid (HY5.out.next hb6)
  have HR6 := Lib.hid (HR5.out.next hb6)
  have HI6 := Lib.hid (HI5.out.next hb6)
  clear hb6 HC
  go_wp2_with fail
  have HB7 := Lib.hid (below_next HB6.out (below_drew _))
  have HX7 := Lib.hid (HX6.out.next (below_drew _))
  have HY7 := Lib.hid (HY6.out.next (below_drew _))
  have HR7 := Lib.hid (HR6.out.next (below_drew _))
  have HI7 := Lib.hid (HI6.out.next (below_drew _))
  clear HB6 HX6 HY6 HR6 HI6
  go_region_held3 (fun w' => w'.cell? ⟨w.heap.size, 0, none⟩ = some (.slice x.P x.l.length x.c) ∧ w'.cell? ⟨w.heap.size, 1, none⟩ = some (.slice x.V.A x.V.xs.length x.V.c) ∧ w'.cell? ⟨w.heap.size, 2, none⟩ = some (.slice x.R x.rv.length x.e) ∧ w'.cell? ⟨w4.heap.size, 0, none⟩ = some (.slice y.P y.l.length y.c) ∧ w'.cell? ⟨w4.heap.size, 1, none⟩ = some (.slice y.V.A y.V.xs.length y.V.c) ∧ w'.cell? ⟨w4.heap.size, 2, none⟩ = some (.slice y.R y.rv.length y.e))
    (first | exact shBox_cells HX7.out.mem HY7.out.mem | exact shBox_cells HX8.out.mem HY8.out.mem | exact shBox_cells HX9.out.mem HY9.out.mem)
    (first
      | (go_at_call 15; refine (toSheet_c x _ HR7.out HF.out).mono ?_; rintro e w8 ⟨⟨z, rfl, hz, hzi⟩, hb8⟩; have HB8 := Lib.hid (below_next HB7.out hb8); have HX8 := Lib.hid (HX7.out.next hb8); have HY8 := Lib.hid (HY7.out.next hb8); have HI8 := Lib.hid (HI7.out.next hb8); have HC := Lib.hid (eqSheet_yes y z _ (HS.out.symm.trans hz) HI8.out hzi.sh (HS.out.fits HF.out)); unfold Sh.val at HC ⊢; clear hb8 hz hzi)
      | (go_at_call 17; refine HC.out.mono ?_; rintro e w9 ⟨rfl, hb9⟩; have HB9 := Lib.hid (below_next HB8.out hb9); have HX9 := Lib.hid (HX8.out.next hb9); have HY9 := Lib.hid (HY8.out.next hb9); clear hb9)
      )
  go_wp2
  go_ret
  exact ⟨rfl, HB9.out⟩
end Go.Proofs.Ytpmjfanalcaodaa
