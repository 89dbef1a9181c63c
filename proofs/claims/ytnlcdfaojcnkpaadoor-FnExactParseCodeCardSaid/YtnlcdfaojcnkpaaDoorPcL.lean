/- The walk of the law ParseCode. -/
import Derived.Test.YtnlcdfaojcnkpaaDoorPcI
namespace Go.Proofs.YtnlcdfaojcnkpaaDoor
open Go.ChangeShapes Go.WideShapes Go.ChangeAt Go.RowKit Go.PlainAid Go.Sort
set_option linter.unusedVariables false

/-- What the law carries: nothing that was there at its call has turned. -/
structure LawP (w0 w : World) (B : Nat) : Prop where
  bel : Below w0.heap.size w0 w
  le : B ≤ w.heap.size
  base : w0.heap.size ≤ B
theorem LawP.goB {w0 w w' : World} {B : Nat} (h : LawP w0 w B) (hb : Below B w w') : LawP w0 w' B := ⟨h.bel.trans (hb.mono h.base), Nat.le_trans h.le hb.size, h.base⟩
theorem LawP.next {w0 w w' : World} {B : Nat} (h : LawP w0 w B) (hb : Below w.heap.size w w') : LawP w0 w' B := h.goB (hb.mono h.le)
theorem own_zero (w : World) (p q : Nat) : CdOwn w p q none none Cd.zero := ⟨Owned.nil _ _ _, Owned.nil _ _ _⟩

set_option maxHeartbeats 4000000 in
theorem walkPc_yes (s : ByteArray) (w : World) (hs : s.size ≤ 1048576) (hx : IsTx s) (ht : PcW w) :
    Calls Tryd.prog 4 #[.string s] w fun e w' => e = .returned (.bool true) ∧ Below w.heap.size w w' := by
  have HX := Lib.hid hx
  have HT := Lib.hid ht
  have HSP := Lib.hid (sParse_any s w hs)
  have HIP := Lib.hid (fun w' h => iParse_any s w' hs h)
  have HRF : Hid (CdFits (txC s)) := Lib.hid (Cd.fit (txC_ok hx))
  have hs' : (s.size : Int) ≤ 1048576 := by omega
  clear hx ht
  go_enter Tryd.func4, Tryd.ntmps4
  go_wp2_with fail
  refine (HSP.out).mono ?_
  rintro e w1 hans
  rcases hans with ⟨_, ⟨A0, c0', L0, d0', p0, q0, rfl, ho0, hpq0, hp0, hq0⟩, hb⟩ | ⟨hno, _⟩
  rotate_left
  · exact absurd HX.out hno
  rw [pB_yes HX.out]
  obtain ⟨w2, hW, hB⟩ := boxed 31 w1 A0 c0' L0 d0' (txC s)
  have hb2 := hB.below
  have HB2 := Lib.hid (Below_next hb hb2)
  have HV_2 := Lib.hid (AtB.mk' (w := w2) (ho0.keepB hb2).at_)
  have HZ_2 := Lib.hid (BoxB.mk' hB.at_)
  have HS_2 := Lib.hid (show LawP w w2 w2.heap.size from ⟨HB2.out, Nat.le_refl _, HB2.out.size⟩)
  unfold boxCd at hW
  clear hb hb2 hB ho0 hpq0 hp0 hq0
  go_wp2_with fail
  rw [← hW]
  clear hW
  refine (HIP.out w2 (HT.out.next HS_2.out.bel)).mono ?_
  rintro e w3 hans
  rcases hans with ⟨_, ⟨A1, c1', L1, d1', p1, q1, rfl, ho1, hpq1, hp1, hq1⟩, hb⟩ | ⟨hno, _⟩
  rotate_left
  · exact absurd HX.out hno
  rw [pB_yes HX.out]
  have HV_3 := Lib.hid (HV_2.out.next hb)
  have HZ_3 := Lib.hid (HZ_2.out.next hb)
  have HS_3 := Lib.hid (HS_2.out.next hb)
  have hz3 := hb.size
  obtain ⟨z0, z1, z2, z3, z4, z5⟩ := HZ_3.out.box
  have zl := Nat.lt_of_lt_of_le HZ_3.out.lt HZ_3.out.le
  obtain ⟨w4, hW, hB⟩ := boxed 31 w3 A1 c1' L1 d1' (txC s)
  have hb4 := hB.below
  have HV_4 := Lib.hid (HV_3.out.next hb4)
  have HZ_4 := Lib.hid (HZ_3.out.next hb4)
  have HS_4 := Lib.hid (HS_3.out.next hb4)
  have HK_4 := Lib.hid (hB.at_)
  have HA_4 := Lib.hid (ho1.keepB hb4)
  unfold boxCd at hW
  clear hb hb4 hB HV_2 HZ_2 HS_2 HV_3 HZ_3 HS_3 ho1
  go_wp2_with fail
  rw [← hW]
  clear hW zl z0 z1 z2 z3 z4 z5
  refine (eqCode_yes A1 L1 A0 L0 c1' d1' c0' d0' (txC s) _ HA_4.out.at_ HV_4.out.at_ HRF.out).mono ?_
  rintro e w5 ⟨rfl, hb⟩
  have HV_5 := Lib.hid (HV_4.out.next hb)
  have HZ_5 := Lib.hid (HZ_4.out.next hb)
  have HS_5 := Lib.hid (HS_4.out.next hb)
  have HK_5 := Lib.hid (HK_4.out.next hb)
  have HA_5 := Lib.hid (HA_4.out.keepB hb)
  clear HV_4 HZ_4 HS_4 HK_4 HA_4
  clear hb
  obtain ⟨c0, c1, c2, c3, c4, c5⟩ := HK_5.out.box
  go_wp2_with fail
  clear c0 c1 c2 c3 c4 c5
  refine (markCode_any p1 q1 _ _ _ _ (txC s) _ HA_5.out hpq1 HRF.out).mono ?_
  rintro e w6 ⟨rfl, ho, hk⟩
  have hb := hk.below HS_5.out.le (fun i hi => by rcases hi with rfl | rfl; exact hp1.1; exact hq1.1)
  clear HA_5
  have HV_6 := Lib.hid (HV_5.out.goB hb)
  have HZ_6 := Lib.hid (HZ_5.out.goB hb)
  have HS_6 := Lib.hid (HS_5.out.goB hb)
  have HK_6 := Lib.hid (HK_5.out.only hk (by omega))
  clear HV_5 HZ_5 HS_5 HK_5
  have HA_6 := Lib.hid ho
  clear hb hk ho
  obtain ⟨c0, c1, c2, c3, c4, c5⟩ := HK_6.out.box
  go_wp2_with fail
  clear c0 c1 c2 c3 c4 c5
  refine (heldCode_any A1 L1 c1' d1' (txC s).els.length (txC s).lims.length (marksCd (txC s) 1) _ HA_6.out.at_ rfl rfl HRF.out.1.1 HRF.out.2).mono ?_
  rintro e w7 ⟨rfl, hb⟩
  have HV_7 := Lib.hid (HV_6.out.next hb)
  have HZ_7 := Lib.hid (HZ_6.out.next hb)
  have HS_7 := Lib.hid (HS_6.out.next hb)
  have HK_7 := Lib.hid (HK_6.out.next hb)
  have HA_7 := Lib.hid (HA_6.out.keepB hb)
  clear HV_6 HZ_6 HS_6 HK_6 HA_6
  clear hb
  go_wp2_with fail
  refine (HIP.out w7 (HT.out.next HS_7.out.bel)).mono ?_
  rintro e w8 hans
  rcases hans with ⟨_, ⟨A2, c2', L2, d2', p2, q2, rfl, ho2, hpq2, hp2, hq2⟩, hb⟩ | ⟨hno, _⟩
  rotate_left
  · exact absurd HX.out hno
  rw [pB_yes HX.out]
  have HV_8 := Lib.hid (HV_7.out.next hb)
  have HZ_8 := Lib.hid (HZ_7.out.next hb)
  have HS_8 := Lib.hid (HS_7.out.next hb)
  have HK_8 := Lib.hid (HK_7.out.next hb)
  have HA_8 := Lib.hid (HA_7.out.keepB hb)
  clear HV_7 HZ_7 HS_7 HK_7 HA_7
  obtain ⟨z0, z1, z2, z3, z4, z5⟩ := HZ_8.out.box
  have zl := Nat.lt_of_lt_of_le HZ_8.out.lt HZ_8.out.le
  obtain ⟨w9, hW, hB⟩ := boxed 31 w8 A2 c2' L2 d2' (txC s)
  clear hb
  have hb := hB.below
  have HH_8 := Lib.hid ho2
  have HV_9 := Lib.hid (HV_8.out.next hb)
  have HZ_9 := Lib.hid (HZ_8.out.next hb)
  have HS_9 := Lib.hid (HS_8.out.next hb)
  have HK_9 := Lib.hid (HK_8.out.next hb)
  have HA_9 := Lib.hid (HA_8.out.keepB hb)
  have HH_9 := Lib.hid (HH_8.out.keepB hb)
  clear HV_8 HZ_8 HS_8 HK_8 HA_8 HH_8
  unfold boxCd at hW
  clear hb hB ho2
  go_wp2_with fail
  rw [← hW]
  clear hW zl z0 z1 z2 z3 z4 z5
  refine (eqCode_yes A2 L2 A0 L0 c2' d2' c0' d0' (txC s) _ HH_9.out.at_ HV_9.out.at_ HRF.out).mono ?_
  rintro e w10 ⟨rfl, hb⟩
  have HV_10 := Lib.hid (HV_9.out.next hb)
  have HZ_10 := Lib.hid (HZ_9.out.next hb)
  have HS_10 := Lib.hid (HS_9.out.next hb)
  have HK_10 := Lib.hid (HK_9.out.next hb)
  have HA_10 := Lib.hid (HA_9.out.keepB hb)
  have HH_10 := Lib.hid (HH_9.out.keepB hb)
  clear HV_9 HZ_9 HS_9 HK_9 HA_9 HH_9
  clear hb
  obtain ⟨c0, c1, c2, c3, c4, c5⟩ := HK_10.out.box
  go_wp2_with fail
  clear c0 c1 c2 c3 c4 c5
  refine (heldCode_any A1 L1 c1' d1' (txC s).els.length (txC s).lims.length (marksCd (txC s) 1) _ HA_10.out.at_ rfl rfl HRF.out.1.1 HRF.out.2).mono ?_
  rintro e w11 ⟨rfl, hb⟩
  have HV_11 := Lib.hid (HV_10.out.next hb)
  have HZ_11 := Lib.hid (HZ_10.out.next hb)
  have HS_11 := Lib.hid (HS_10.out.next hb)
  have HK_11 := Lib.hid (HK_10.out.next hb)
  have HA_11 := Lib.hid (HA_10.out.keepB hb)
  have HH_11 := Lib.hid (HH_10.out.keepB hb)
  clear HV_10 HZ_10 HS_10 HK_10 HA_10 HH_10
  clear hb
  go_wp2_with fail
  go_ret
  exact ⟨rfl, HS_11.out.bel⟩

set_option maxHeartbeats 4000000 in
theorem walkPc_no (s : ByteArray) (w : World) (hs : s.size ≤ 1048576) (hx : ¬ IsTx s) (ht : PcW w) :
    Calls Tryd.prog 4 #[.string s] w fun e w' => e = .returned (.bool true) ∧ Below w.heap.size w w' := by
  have HX := Lib.hid hx
  have HT := Lib.hid ht
  have HSP := Lib.hid (sParse_any s w hs)
  have HIP := Lib.hid (fun w' h => iParse_any s w' hs h)
  have HRF : Hid (CdFits Cd.zero) := Lib.hid zero_fits
  have hs' : (s.size : Int) ≤ 1048576 := by omega
  clear hx ht
  go_enter Tryd.func4, Tryd.ntmps4
  go_wp2_with fail
  refine (HSP.out).mono ?_
  rintro e w1 hans
  rcases hans with ⟨hyes, _⟩ | ⟨_, rfl, hb⟩
  · exact absurd hyes HX.out
  obtain ⟨w2, hW, hB⟩ := boxed 31 w1 none 0 none 0 Cd.zero
  have hb2 := hB.below
  have HB2 := Lib.hid (Below_next hb hb2)
  have HV_2 := Lib.hid (AtB.mk' (w := w2) (own_zero w2 0 1).at_)
  have HZ_2 := Lib.hid (BoxB.mk' hB.at_)
  have HS_2 := Lib.hid (show LawP w w2 w2.heap.size from ⟨HB2.out, Nat.le_refl _, HB2.out.size⟩)
  replace hW : w2 = World.alloc w1 (.cells #[.slice none 0 0, .slice none 0 0, .int .i64 0, .int .i64 0, .int .i64 0, .int .i64 0] 31) := hW
  clear hb hb2 hB
  go_wp2_with fail
  rw [← hW]
  clear hW
  refine (HIP.out w2 (HT.out.next HS_2.out.bel)).mono ?_
  rintro e w3 hans
  rcases hans with ⟨hyes, _⟩ | ⟨_, rfl, hb⟩
  · exact absurd hyes HX.out
  have HV_3 := Lib.hid (HV_2.out.next hb)
  have HZ_3 := Lib.hid (HZ_2.out.next hb)
  have HS_3 := Lib.hid (HS_2.out.next hb)
  have hz3 := hb.size
  obtain ⟨z0, z1, z2, z3, z4, z5⟩ := HZ_3.out.box
  have zl := Nat.lt_of_lt_of_le HZ_3.out.lt HZ_3.out.le
  obtain ⟨w4, hW, hB⟩ := boxed 31 w3 none 0 none 0 Cd.zero
  have hb4 := hB.below
  have HV_4 := Lib.hid (HV_3.out.next hb4)
  have HZ_4 := Lib.hid (HZ_3.out.next hb4)
  have HS_4 := Lib.hid (HS_3.out.next hb4)
  have HK_4 := Lib.hid (hB.at_)
  replace hW : w4 = World.alloc w3 (.cells #[.slice none 0 0, .slice none 0 0, .int .i64 0, .int .i64 0, .int .i64 0, .int .i64 0] 31) := hW
  clear hb hb4 hB HV_2 HZ_2 HS_2 HV_3 HZ_3 HS_3
  go_wp2_with fail
  rw [← hW]
  clear hW zl z0 z1 z2 z3 z4 z5
  refine (eqCode_yes none none none none 0 0 0 0 Cd.zero _ (own_zero _ 0 1).at_ HV_4.out.at_ HRF.out).mono ?_
  rintro e w5 ⟨rfl, hb⟩
  have HV_5 := Lib.hid (HV_4.out.next hb)
  have HZ_5 := Lib.hid (HZ_4.out.next hb)
  have HS_5 := Lib.hid (HS_4.out.next hb)
  have HK_5 := Lib.hid (HK_4.out.next hb)
  clear HV_4 HZ_4 HS_4 HK_4
  clear hb
  obtain ⟨c0, c1, c2, c3, c4, c5⟩ := HK_5.out.box
  go_wp2_with fail
  clear c0 c1 c2 c3 c4 c5
  refine (markCode_any w5.heap.size (w5.heap.size + 1) none none 0 0 Cd.zero _ (own_zero _ _ _) (by omega) HRF.out).mono ?_
  rintro e w6 ⟨rfl, ho, hk⟩
  have hb := hk.below HS_5.out.le (fun i hi => by have := HS_5.out.le; rcases hi with rfl | rfl <;> omega)
  have HV_6 := Lib.hid (HV_5.out.goB hb)
  have HZ_6 := Lib.hid (HZ_5.out.goB hb)
  have HS_6 := Lib.hid (HS_5.out.goB hb)
  have HK_6 := Lib.hid (HK_5.out.only hk (by have := HK_5.out.lt; omega))
  clear HV_5 HZ_5 HS_5 HK_5
  have HA_6 := Lib.hid ho
  clear hb hk ho
  obtain ⟨c0, c1, c2, c3, c4, c5⟩ := HK_6.out.box
  go_wp2_with fail
  clear c0 c1 c2 c3 c4 c5
  refine (heldCode_any none none 0 0 Cd.zero.els.length Cd.zero.lims.length (marksCd Cd.zero 1) _ HA_6.out.at_ rfl rfl HRF.out.1.1 HRF.out.2).mono ?_
  rintro e w7 ⟨rfl, hb⟩
  have HV_7 := Lib.hid (HV_6.out.next hb)
  have HZ_7 := Lib.hid (HZ_6.out.next hb)
  have HS_7 := Lib.hid (HS_6.out.next hb)
  have HK_7 := Lib.hid (HK_6.out.next hb)
  have HA_7 := Lib.hid (HA_6.out.keepB hb)
  clear HV_6 HZ_6 HS_6 HK_6 HA_6
  clear hb
  go_wp2_with fail
  refine (HIP.out w7 (HT.out.next HS_7.out.bel)).mono ?_
  rintro e w8 hans
  rcases hans with ⟨hyes, _⟩ | ⟨_, rfl, hb⟩
  · exact absurd hyes HX.out
  have HV_8 := Lib.hid (HV_7.out.next hb)
  have HZ_8 := Lib.hid (HZ_7.out.next hb)
  have HS_8 := Lib.hid (HS_7.out.next hb)
  have HK_8 := Lib.hid (HK_7.out.next hb)
  have HA_8 := Lib.hid (HA_7.out.keepB hb)
  clear HV_7 HZ_7 HS_7 HK_7 HA_7
  obtain ⟨z0, z1, z2, z3, z4, z5⟩ := HZ_8.out.box
  have zl := Nat.lt_of_lt_of_le HZ_8.out.lt HZ_8.out.le
  obtain ⟨w9, hW, hB⟩ := boxed 31 w8 none 0 none 0 Cd.zero
  clear hb
  have hb := hB.below
  have HV_9 := Lib.hid (HV_8.out.next hb)
  have HZ_9 := Lib.hid (HZ_8.out.next hb)
  have HS_9 := Lib.hid (HS_8.out.next hb)
  have HK_9 := Lib.hid (HK_8.out.next hb)
  have HA_9 := Lib.hid (HA_8.out.keepB hb)
  clear HV_8 HZ_8 HS_8 HK_8 HA_8
  replace hW : w9 = World.alloc w8 (.cells #[.slice none 0 0, .slice none 0 0, .int .i64 0, .int .i64 0, .int .i64 0, .int .i64 0] 31) := hW
  clear hb hB
  go_wp2_with fail
  rw [← hW]
  clear hW zl z0 z1 z2 z3 z4 z5
  refine (eqCode_yes none none none none 0 0 0 0 Cd.zero _ (own_zero _ 0 1).at_ HV_9.out.at_ HRF.out).mono ?_
  rintro e w10 ⟨rfl, hb⟩
  have HV_10 := Lib.hid (HV_9.out.next hb)
  have HZ_10 := Lib.hid (HZ_9.out.next hb)
  have HS_10 := Lib.hid (HS_9.out.next hb)
  have HK_10 := Lib.hid (HK_9.out.next hb)
  have HA_10 := Lib.hid (HA_9.out.keepB hb)
  clear HV_9 HZ_9 HS_9 HK_9 HA_9
  clear hb
  obtain ⟨c0, c1, c2, c3, c4, c5⟩ := HK_10.out.box
  go_wp2_with fail
  clear c0 c1 c2 c3 c4 c5
  refine (heldCode_any none none 0 0 Cd.zero.els.length Cd.zero.lims.length (marksCd Cd.zero 1) _ HA_10.out.at_ rfl rfl HRF.out.1.1 HRF.out.2).mono ?_
  rintro e w11 ⟨rfl, hb⟩
  have HV_11 := Lib.hid (HV_10.out.next hb)
  have HZ_11 := Lib.hid (HZ_10.out.next hb)
  have HS_11 := Lib.hid (HS_10.out.next hb)
  have HK_11 := Lib.hid (HK_10.out.next hb)
  have HA_11 := Lib.hid (HA_10.out.keepB hb)
  clear HV_10 HZ_10 HS_10 HK_10 HA_10
  clear hb
  go_wp2_with fail
  go_ret
  exact ⟨rfl, HS_11.out.bel⟩

theorem walkParseCode (s : ByteArray) (w : World) (w0 : s.size ≤ maxLen) (ht : PcW w) :
    Calls Tryd.prog 4 #[.string s] w fun e w' => e = .returned (.bool true) ∧ Below w.heap.size w w' := by
  unfold maxLen at w0
  by_cases hs : s.size ≤ 1048576
  · by_cases hx : IsTx s
    · exact walkPc_yes s w hs hx ht
    · exact walkPc_no s w hs hx ht
  · go_enter Tryd.func4, Tryd.ntmps4
    go_wp2
    go_ret
    exact ⟨rfl, Below.refl _ _⟩
end Go.Proofs.YtnlcdfaojcnkpaaDoor
