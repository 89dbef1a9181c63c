/- The walk of the law MarksText. -/
import Derived.Test.YtfeffkjmjkddnaaDoorMrZ
import Derived.Deep.RegionHeld3
namespace Go.Proofs.YtfeffkjmjkddnaaDoor
open Go.ChangeShapes Go.WideShapes Go.ChangeAt Go.RowKit Go.Lib Go.Proofs
set_option linter.unusedVariables false

theorem sMarksText_s (x y : Mr) (w : World) (hs : MrSame x y) (hr : MrIn w w.heap.size y) (hl : MrFits x) :
    Calls Tryd.prog 6 #[y.val] w fun e w' => e = .returned (.tuple #[.string (mtF (ctt x.G) (ctt x.C)), .bool (pB (MkL (ctt x.G) (ctt x.C)))]) ∧ Below w.heap.size w w' := by
  have h := sMarksText_any y w hr (hs.fits hl)
  rw [hs.cg, hs.cc] at h
  exact h
theorem iMarksText_s (x y : Mr) (w : World) (hs : MrSame x y) (hr : MrIn w w.heap.size y) (hl : MrFits x) (ht : Tab10 w) :
    Calls Tryd.prog 8 #[y.val] w fun e w' => e = .returned (.tuple #[.string (mtF (ctt x.G) (ctt x.C)), .bool (pB (MkL (ctt x.G) (ctt x.C)))]) ∧ Below w.heap.size w w' := by
  have h := iMarksText_any y w hr (hs.fits hl) ht
  rw [hs.cg, hs.cc] at h
  exact h
set_option maxHeartbeats 4000000 in
set_option maxRecDepth 20000 in
theorem walkMarksText (x : Mr) (w : World) (hr : MrIn w w.heap.size x) (hl : MrLen x) (ht : Tab10 w) :
    Calls Tryd.prog 3 #[x.val] w fun e w' => e = .returned (.bool true) ∧ Below w.heap.size w w' := by
  have hb0 := below_alloc w (.cells #[.slice x.G.A x.G.xs.length x.G.c, .slice x.C.A x.C.xs.length x.C.c] 24)
  have HB0 := Lib.hid hb0
  have HX0 := Lib.hid (mrBox_new w 24 x)
  have HR0 := Lib.hid (hr.next hb0)
  have HL := Lib.hid hl
  have HT_0 := Lib.hid (ht.next hb0)
  clear ht
  clear hr hl hb0
  unfold Mr.val
  go_enter Tryd.func3, Tryd.ntmps3
  go_wp2_with fail
  have zW := HB0.out.size
  have ZW := Lib.hid HX0.out.lt
  clear zW
  generalize World.alloc w _ = W at HB0 HX0 HR0 ZW HT_0 ⊢
  have HB_0 := Lib.hid (Below.refl W.heap.size W)
  refine (szMarks_any x _ W HR0.out HL.out (by omega) (by omega)).mono ?_
  rintro e w1 ⟨⟨q, rfl, hq⟩, hb⟩
  have Z1 := Lib.hid hb.size
  have HB_1 := Lib.hid (below_next HB_0.out hb)
  have HT_1 := Lib.hid (HT_0.out.next hb)
  clear HB_0 HT_0 hb
  rcases hq with hq | ⟨hq0, hq1, HF⟩
  · go_wp2
    go_ret
    exact ⟨rfl, below_next HB0.out HB_1.out⟩
  obtain ⟨c0, c1, cf⟩ := (HX0.out.next HB_1.out).mem
  go_wp2_with fail
  clear c0 c1 cf
  refine (toMarks_c x w1 (HR0.out.next HB_1.out) HF.out).mono ?_
  rintro e w2 ⟨⟨ya, rfl, hs, hy⟩, hb⟩
  have Z2 := Lib.hid hb.size
  have HB_2 := Lib.hid (below_next HB_1.out hb)
  have HT_2 := Lib.hid (HT_1.out.next hb)
  clear HB_1 HT_1 hb
  have HSya := Lib.hid hs
  clear hs
  have HC := Lib.hid (sMarksText_s x ya w2 HSya.out hy.mr HF.out)
  clear hy
  unfold Mr.val at HC ⊢
  go_wp2_with fail
  refine (HC.out).mono ?_
  rintro e w3 ⟨rfl, hb⟩
  have Z3 := Lib.hid hb.size
  have HB_3 := Lib.hid (below_next HB_2.out hb)
  have HT_3 := Lib.hid (HT_2.out.next hb)
  clear HB_2 HT_2 hb
  clear HC HSya
  obtain ⟨c0, c1, cf⟩ := (HX0.out.next HB_3.out).mem
  go_wp2_with fail
  clear c0 c1 cf
  refine (toMarks_c x w3 (HR0.out.next HB_3.out) HF.out).mono ?_
  rintro e w4 ⟨⟨y, rfl, hs, hy⟩, hb⟩
  have Z4 := Lib.hid hb.size
  have HB_4 := Lib.hid (below_next HB_3.out hb)
  have HT_4 := Lib.hid (HT_3.out.next hb)
  clear HB_3 HT_3 hb
  have HSy := Lib.hid hs
  clear hs
  have HO_4 := Lib.hid (hy)
  clear hy
  obtain ⟨w5, hW⟩ : ∃ W', W' = w4.alloc (.cells #[.slice y.G.A y.G.xs.length y.G.c, .slice y.C.A y.C.xs.length y.C.c] 28) := ⟨_, rfl⟩
  have hb : Below w4.heap.size w4 w5 := by rw [hW]; exact below_alloc _ _
  have Z5 := Lib.hid hb.size
  have HB_5 := Lib.hid (below_next HB_4.out hb)
  have HT_5 := Lib.hid (HT_4.out.next hb)
  have HO_5 := Lib.hid (HO_4.out.next hb)
  clear HB_4 HT_4 HO_4 hb
  have HY_5 := Lib.hid (show MrBox w5 w4.heap.size y by rw [hW]; exact mrBox_new _ _ _)
  have HC := Lib.hid (iMarksText_s x y w5 HSy.out HO_5.out.mr HF.out HT_5.out)
  unfold Mr.val at HC ⊢
  go_wp2_with fail
  rw [← hW]
  clear hW
  refine (HC.out).mono ?_
  rintro e w6 ⟨rfl, hb⟩
  have Z6 := Lib.hid hb.size
  have HB_6 := Lib.hid (below_next HB_5.out hb)
  have HT_6 := Lib.hid (HT_5.out.next hb)
  have HO_6 := Lib.hid (HO_5.out.next hb)
  have HY_6 := Lib.hid (HY_5.out.next hb)
  clear HB_5 HT_5 HO_5 HY_5 hb
  clear HC
  go_wp2_with fail
  have hb := below_drew w6
  have Z7 := Lib.hid hb.size
  have HB_7 := Lib.hid (below_next HB_6.out hb)
  have HT_7 := Lib.hid (HT_6.out.next hb)
  have HO_7 := Lib.hid (HO_6.out.next hb)
  have HY_7 := Lib.hid (HY_6.out.next hb)
  clear HB_6 HT_6 HO_6 HY_6 hb
  go_region_held3 (fun w' => w'.cell? ⟨w.heap.size, 0, none⟩ = some (.slice x.G.A x.G.xs.length x.G.c) ∧ w'.cell? ⟨w.heap.size, 1, none⟩ = some (.slice x.C.A x.C.xs.length x.C.c) ∧ w'.cell? ⟨w4.heap.size, 0, none⟩ = some (.slice y.G.A y.G.xs.length y.G.c) ∧ w'.cell? ⟨w4.heap.size, 1, none⟩ = some (.slice y.C.A y.C.xs.length y.C.c))
    (first | exact mrBox_cells (HX0.out.next HB_7.out).mem HY_7.out.mem | exact mrBox_cells (HX0.out.next HB_8.out).mem HY_8.out.mem | exact mrBox_cells (HX0.out.next HB_9.out).mem HY_9.out.mem)
    (first
      | (go_at_call 7; refine (toMarks_c x _ (HR0.out.next HB_7.out) HF.out).mono ?_; rintro e w8 ⟨⟨z, rfl, hz, hzi⟩, hb⟩; have Z8 := Lib.hid hb.size; have HB_8 := Lib.hid (below_next HB_7.out hb); have HT_8 := Lib.hid (HT_7.out.next hb); have HO_8 := Lib.hid (HO_7.out.next hb); have HY_8 := Lib.hid (HY_7.out.next hb); have HC := Lib.hid (eqMarks_yes y z w8 (HSy.out.symm.trans hz) HO_8.out.mr hzi.mr (HSy.out.fits HF.out)); unfold Mr.val at HC ⊢; clear hb hz hzi)
      | (go_at_call 9; refine HC.out.mono ?_; rintro e w9 ⟨rfl, hb⟩; have Z9 := Lib.hid hb.size; have HB_9 := Lib.hid (below_next HB_8.out hb); have HT_9 := Lib.hid (HT_8.out.next hb); have HO_9 := Lib.hid (HO_8.out.next hb); have HY_9 := Lib.hid (HY_8.out.next hb); clear hb)
      )
  clear HC HB_7 HB_8 HT_7 HT_8 HO_7 HO_8 HY_7 HY_8
  go_wp2
  go_ret
  exact ⟨rfl, below_next HB0.out HB_9.out⟩
end Go.Proofs.YtfeffkjmjkddnaaDoor
