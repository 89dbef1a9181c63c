/- The walk of the program's ParseCode. -/
import Derived.Test.YtnlcdfaojcnkpaaDoorPcH
namespace Go.Proofs.YtnlcdfaojcnkpaaDoor
open Go.ChangeShapes Go.WideShapes Go.ChangeAt Go.RowKit Go.PlainAid Go.Sort
set_option linter.unusedVariables false

/-- What the program's ParseCode asks of the world. -/
structure PcW (w : World) : Prop where
  lib : LibW w
  tab : Tab w
  pow : Tab10 w
theorem PcW.next {w w' : World} (h : PcW w) (hb : Below w.heap.size w w') : PcW w' := ⟨h.lib.next hb, h.tab.next hb, h.pow.next hb⟩

set_option maxHeartbeats 4000000 in
set_option maxRecDepth 20000 in
theorem iParse_any (s : ByteArray) (w : World) (hs : s.size ≤ 1048576) (hT : PcW w) :
    Calls Tryd.prog 13 #[.string s] w (PcAns s w) := by
  unfold PcAns
  have HTS := Lib.hid (isTx_I s)
  have HTC := Lib.hid (fun h => txC_I (s := s) h)
  have HTL := Lib.hid (isTx_len (s := s))
  have HT := Lib.hid hT
  have hfew := split_few' 10 s
  have HSZ := Lib.hid (fun l h => split_size (c := 10) (s := s) (l := l) h)
  have HSP := Lib.hid (fun W hW => iSplit_any s 10 W hs hW)
  rw [show ((10 : UInt8).toNat : Int) = 10 from rfl] at HSP
  generalize splitL 10 s.data.toList = ls at *
  clear hT
  by_cases hlong : 395 < s.size
  · have HNO := Lib.hid (show ¬ IsTx s from fun q => by have := HTL.out q; omega)
    have hlong' : (395 : Int) < (s.size : Int) := by omega
    go_enter Tryd.func13, Tryd.ntmps13
    go_upto_region 1 with fail
    generalize hW : World.alloc w _ = W
    have HB1 : Hid (Below w.heap.size w W) := Lib.hid (by
      rw [← hW]
      go_grown)
    have HM1 : Hid (CdMem W w.heap.size (.slice none 0 0) (.slice none 0 0) (.int .i64 0) (.int .i64 0) (.int .i64 0) (.int .i64 0)) := Lib.hid (by
      rw [← hW]
      exact cdMem_new _ _ _ rfl _ _ _ _ _ _)
    clear hW
    obtain ⟨m0, m1, m2, m3, m4, m5, mf⟩ := HM1.out
    go_wp2
    refine stop_body ⟨?_⟩
    intro w8 hw8
    have hm8 := HM1.out.all (.slice none 0 0) (.slice none 0 0) (.int .i64 0) (.int .i64 0) (.int .i64 0) (.int .i64 0)
    have hb8 := below_six HB1.out w.heap.size (Nat.le_refl _) (.slice none 0 0) (.slice none 0 0) (.int .i64 0) (.int .i64 0) (.int .i64 0) (.int .i64 0)
    rw [show put6 W w.heap.size (.slice none 0 0) (.slice none 0 0) (.int .i64 0) (.int .i64 0) (.int .i64 0) (.int .i64 0) = w8 from hw8.symm] at hm8 hb8
    have HB8 := Lib.hid hb8
    clear hw8 hb8 m0 m1 m2 m3 m4 m5 mf
    obtain ⟨m0, m1, m2, m3, m4, m5, mf⟩ := hm8
    refine bodyPost_ret (v := .tuple #[.agg #[.slice none 0 0, .slice none 0 0, .int .i64 0, .int .i64 0, .int .i64 0, .int .i64 0], .bool false]) (by simp [results, Tryd.results13, go_sem, m0, m1, m2, m3, m4, m5]) rfl ?_
    exact .inr ⟨HNO.out, rfl, HB8.out⟩
  have hlong' : (s.size : Int) ≤ 395 := by omega
  go_enter Tryd.func13, Tryd.ntmps13
  go_upto_region 1 with fail
  generalize hW : World.alloc w _ = W
  have HB1 : Hid (Below w.heap.size w W) := Lib.hid (by
    rw [← hW]
    go_grown)
  have HM1 : Hid (CdMem W w.heap.size (.slice none 0 0) (.slice none 0 0) (.int .i64 0) (.int .i64 0) (.int .i64 0) (.int .i64 0)) := Lib.hid (by
    rw [← hW]
    exact cdMem_new _ _ _ rfl _ _ _ _ _ _)
  have HS1 := Lib.hid (show W.heap.size = w.heap.size + 1 by rw [← hW]; simp)
  clear hW
  have HT1 := Lib.hid (HT.out.next HB1.out)
  clear HT
  go_wp2_with fail
  refine (HSP.out W HT1.out.lib).mono ?_
  rintro e w1 ⟨rfl, hA, hb⟩
  have HA := Lib.hid hA
  have HB2 := Lib.hid (Below_next HB1.out hb)
  have HM2 := Lib.hid (HM1.out.below hb (by have := HS1.out; omega))
  have HT2 := Lib.hid (HT1.out.next hb)
  have HS2 := Lib.hid (show w.heap.size < w1.heap.size by have := HS1.out; have := hb.size; omega)
  clear hA hb HB1 HM1 HT1 HSP
  go_wp2_with fail
  refine (looseCode_any W.heap.size ls w1 HA.out (fun l hl => by have := HSZ.out l hl; omega) (by omega) HT2.out.lib).mono ?_
  rintro e w2 hans
  rcases hans with ⟨hPI, ⟨A, c, L, d, B, rfl, hE, hL, hB⟩, hb⟩ | ⟨hPI, rfl, hb⟩
  rotate_left
  · have HNO := Lib.hid (show ¬ IsTx s from fun q => hPI (HTS.out.1 q).1)
    have hsz2 := hb.size
    go_upto_region 4 with fail
    generalize hV : World.alloc w2 _ = V
    have HB3 : Hid (Below w.heap.size w V) := Lib.hid (by
      rw [← hV]
      exact Below_next (Below_next HB2.out hb) (below_alloc _ _))
    have HM3 : Hid (CdMem V w.heap.size (.slice none 0 0) (.slice none 0 0) (.int .i64 0) (.int .i64 0) (.int .i64 0) (.int .i64 0)) := Lib.hid (by
      rw [← hV]
      exact (HM2.out.below hb HS2.out).below (below_alloc w2 _) (by have := HS2.out; omega))
    clear hV hb
    obtain ⟨m0, m1, m2, m3, m4, m5, mf⟩ := HM3.out
    go_wp2
    refine stop_body ⟨?_⟩
    intro w8 hw8
    have hm8 := HM3.out.all (.slice none 0 0) (.slice none 0 0) (.int .i64 0) (.int .i64 0) (.int .i64 0) (.int .i64 0)
    have hb8 := below_six HB3.out w.heap.size (Nat.le_refl _) (.slice none 0 0) (.slice none 0 0) (.int .i64 0) (.int .i64 0) (.int .i64 0) (.int .i64 0)
    rw [show put6 V w.heap.size (.slice none 0 0) (.slice none 0 0) (.int .i64 0) (.int .i64 0) (.int .i64 0) (.int .i64 0) = w8 from hw8.symm] at hm8 hb8
    have HB8 := Lib.hid hb8
    clear hw8 hb8 m0 m1 m2 m3 m4 m5 mf
    obtain ⟨m0, m1, m2, m3, m4, m5, mf⟩ := hm8
    refine bodyPost_ret (v := .tuple #[.agg #[.slice none 0 0, .slice none 0 0, .int .i64 0, .int .i64 0, .int .i64 0, .int .i64 0], .bool false]) (by simp [results, Tryd.results13, go_sem, m0, m1, m2, m3, m4, m5]) rfl ?_
    exact .inr ⟨HNO.out, rfl, HB8.out⟩
  have HPI := Lib.hid hPI
  obtain ⟨x, hx⟩ : ∃ x, x = parN nmsI ls := ⟨_, rfl⟩
  rw [← hx] at hE hL
  rw [← hx]
  obtain ⟨w3, hW3, hBx⟩ := boxed 31 w2 A c L d x
  have hb3 := hBx.below
  have HX3 := Lib.hid hBx.at_
  have HB3 := Lib.hid (Below_next (Below_next HB2.out hb) hb3)
  have HM3 := Lib.hid ((HM2.out.below hb HS2.out).below hb3 (by have := HS2.out; have := hb.size; omega))
  have HT3 := Lib.hid ((HT2.out.next hb).next hb3)
  have HE3 := Lib.hid (hE.keepB hb3)
  have HL3 := Lib.hid (hL.keepB hb3)
  have HS3 := Lib.hid (show w.heap.size < w2.heap.size ∧ w2.heap.size < w3.heap.size ∧ w1.heap.size ≤ B ∧ w.heap.size < w1.heap.size by have := HS2.out; have := hb.size; have := hBx.size; omega)
  have HFit : Hid (CdFits x) := Lib.hid (by
    rw [hx]
    exact parN_fits nmsI_few (by omega) (by have := HPI.out.lo; omega) (fun l hl => by have := HSZ.out l hl; omega))
  have HAt : Hid (CdAt w3 A L x) := Lib.hid ⟨HE3.out.lst, HL3.out.lst⟩
  have HTT1 := Lib.hid (show CdOk x → txt x = s → IsTx s from fun h1 h2 => ⟨x, h1, h2⟩)
  have HTT2 := Lib.hid (show IsTx s → CdOk x ∧ txt x = s ∧ txC s = x from fun h => by
    have h1 := HTS.out.1 h
    have h2 := HTC.out h
    rw [← hx] at h1 h2
    exact ⟨h1.2.1, h1.2.2, h2⟩)
  have HCT := Lib.hid (iCodeText_any A L c d x w3 HAt.out HFit.out HT3.out.tab HT3.out.pow)
  unfold boxCd at hW3
  clear hb hE hL hBx hb3 HTS HTC hx hPI hB
  obtain ⟨x0, x1, x2, x3, x4, x5⟩ := HX3.out.box
  rw [hW3] at x0 x1 x2 x3 x4 x5
  go_wp2_with fail
  rw [← hW3]
  clear hW3 x0 x1 x2 x3 x4 x5
  refine HCT.out.mono ?_
  rintro e w4 ⟨he, hb⟩
  have HB4 := Lib.hid (Below_next HB3.out hb)
  have HM4 := Lib.hid (HM3.out.below hb (by have := HS3.out; omega))
  have HX4 := Lib.hid (HX3.out.next hb)
  have HE4 := Lib.hid (HE3.out.keepB hb)
  have HL4 := Lib.hid (HL3.out.keepB hb)
  have HS4 := Lib.hid (show w.heap.size < w4.heap.size by have := HS3.out; have := hb.size; omega)
  clear hb HCT
  by_cases hok : CdOk x
  rotate_left
  · rw [pB_no hok] at he
    subst he
    have HNO := Lib.hid (show ¬ IsTx s from fun q => hok (HTT2.out q).1)
    obtain ⟨m0, m1, m2, m3, m4, m5, mf⟩ := HM4.out
    go_wp2
    refine stop_body ⟨?_⟩
    intro w8 hw8
    have hm8 := HM4.out.all (.slice none 0 0) (.slice none 0 0) (.int .i64 0) (.int .i64 0) (.int .i64 0) (.int .i64 0)
    have hb8 := below_six HB4.out w.heap.size (Nat.le_refl _) (.slice none 0 0) (.slice none 0 0) (.int .i64 0) (.int .i64 0) (.int .i64 0) (.int .i64 0)
    rw [show put6 w4 w.heap.size (.slice none 0 0) (.slice none 0 0) (.int .i64 0) (.int .i64 0) (.int .i64 0) (.int .i64 0) = w8 from hw8.symm] at hm8 hb8
    have HB8 := Lib.hid hb8
    clear hw8 hb8 m0 m1 m2 m3 m4 m5 mf
    obtain ⟨m0, m1, m2, m3, m4, m5, mf⟩ := hm8
    refine bodyPost_ret (v := .tuple #[.agg #[.slice none 0 0, .slice none 0 0, .int .i64 0, .int .i64 0, .int .i64 0, .int .i64 0], .bool false]) (by simp [results, Tryd.results13, go_sem, m0, m1, m2, m3, m4, m5]) rfl ?_
    exact .inr ⟨HNO.out, rfl, HB8.out⟩
  rw [pB_yes hok, txtR_yes hok] at he
  subst he
  have HOK := Lib.hid hok
  clear hok
  by_cases hte : txt x = s
  rotate_left
  · have HNO := Lib.hid (show ¬ IsTx s from fun q => hte (HTT2.out q).2.1)
    have hne := text_ne' hte
    obtain ⟨m0, m1, m2, m3, m4, m5, mf⟩ := HM4.out
    go_wp2
    refine stop_body ⟨?_⟩
    intro w8 hw8
    have hm8 := HM4.out.all (.slice none 0 0) (.slice none 0 0) (.int .i64 0) (.int .i64 0) (.int .i64 0) (.int .i64 0)
    have hb8 := below_six HB4.out w.heap.size (Nat.le_refl _) (.slice none 0 0) (.slice none 0 0) (.int .i64 0) (.int .i64 0) (.int .i64 0) (.int .i64 0)
    rw [show put6 w4 w.heap.size (.slice none 0 0) (.slice none 0 0) (.int .i64 0) (.int .i64 0) (.int .i64 0) (.int .i64 0) = w8 from hw8.symm] at hm8 hb8
    have HB8 := Lib.hid hb8
    clear hw8 hb8 m0 m1 m2 m3 m4 m5 mf
    obtain ⟨m0, m1, m2, m3, m4, m5, mf⟩ := hm8
    refine bodyPost_ret (v := .tuple #[.agg #[.slice none 0 0, .slice none 0 0, .int .i64 0, .int .i64 0, .int .i64 0, .int .i64 0], .bool false]) (by simp [results, Tryd.results13, go_sem, m0, m1, m2, m3, m4, m5]) rfl ?_
    exact .inr ⟨HNO.out, rfl, HB8.out⟩
  have HTX := Lib.hid (HTT1.out HOK.out hte)
  have HXC := Lib.hid (HTT2.out HTX.out).2.2
  have heq := text_eq' hte
  clear hte
  obtain ⟨n0, n1, n2, n3, n4, n5⟩ := HX4.out.box
  obtain ⟨m0, m1, m2, m3, m4, m5, mf⟩ := HM4.out
  go_wp2
  refine stop_body ⟨?_⟩
  intro w8 hw8
  have hm8 := HM4.out.all (.slice A x.els.length c) (.slice L x.lims.length d) (.int .i64 x.rep) (.int .i64 x.bon) (.int .i64 x.kee) (.int .i64 x.fal)
  have hb8 := below_six HB4.out w.heap.size (Nat.le_refl _) (.slice A x.els.length c) (.slice L x.lims.length d) (.int .i64 x.rep) (.int .i64 x.bon) (.int .i64 x.kee) (.int .i64 x.fal)
  have hk8 := only_six w4 w.heap.size (.slice A x.els.length c) (.slice L x.lims.length d) (.int .i64 x.rep) (.int .i64 x.bon) (.int .i64 x.kee) (.int .i64 x.fal)
  rw [show put6 w4 w.heap.size (.slice A x.els.length c) (.slice L x.lims.length d) (.int .i64 x.rep) (.int .i64 x.bon) (.int .i64 x.kee) (.int .i64 x.fal) = w8 from hw8.symm] at hm8 hb8 hk8
  have HB8 := Lib.hid hb8
  have HE8 := Lib.hid (HE4.out.keep hk8 (fun i h1 h2 => by have := HS3.out; omega))
  have HL8 := Lib.hid (HL4.out.keep hk8 (fun i h1 h2 => by have := HS3.out; omega))
  clear hw8 hb8 hk8 m0 m1 m2 m3 m4 m5 mf n0 n1 n2 n3 n4 n5
  obtain ⟨m0, m1, m2, m3, m4, m5, mf⟩ := hm8
  refine bodyPost_ret (v := .tuple #[.agg #[.slice A x.els.length c, .slice L x.lims.length d, .int .i64 x.rep, .int .i64 x.bon, .int .i64 x.kee, .int .i64 x.fal], .bool true]) (by simp [results, Tryd.results13, go_sem, m0, m1, m2, m3, m4, m5]) rfl ?_
  obtain ⟨gE, oE, rfl, hE1, hE2, hE3⟩ := HE8.out (by have := HOK.out.els.lo; omega)
  obtain ⟨gL, oL, rfl, hL1, hL2, hL3⟩ := HL8.out (by have := HOK.out.lims.len; omega)
  refine .inl ⟨HTX.out, ⟨⟨some ⟨gE, oE, none⟩, c, some ⟨gL, oL, none⟩, d, gE, gL, ?_, ?_, ?_, ?_, ?_⟩, HB8.out⟩⟩
  · rw [HXC.out, pB_yes HTX.out]
  · rw [HXC.out]
    exact ⟨fun _ => ⟨gE, oE, rfl, rfl, hE2, hE3⟩, fun _ => ⟨gL, oL, rfl, rfl, hL2, hL3⟩⟩
  · omega
  · have := HS3.out; exact ⟨by omega, hE2⟩
  · have := HS3.out; exact ⟨by omega, hL2⟩
end Go.Proofs.YtnlcdfaojcnkpaaDoor
