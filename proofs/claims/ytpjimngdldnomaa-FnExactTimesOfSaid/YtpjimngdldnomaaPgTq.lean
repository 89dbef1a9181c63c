/- The walk of the law TimesOf. -/
import Derived.Test.YtpjimngdldnomaaPgTo
import Derived.Test.YtpjimngdldnomaaItemM
import Derived.Deep.RegionHeld3
namespace Go.Proofs.Ytpjimngdldnomaa
open Go.ChangeShapes Go.WideShapes Go.ChangeAt Go.RowKit Go.PlainAid
set_option linter.unusedVariables false

theorem sTimesOf_n (P0 : Option Addr) (c0 n0 : Nat) (xs ys0 : List Im) (hs0 : SameS xs ys0) (hn0 : xs.length = n0) (s : ByteArray) (w : World) (hp0 : Ims w w.heap.size P0 ys0) (hq0 : ImsFits xs) (hm1 : s.size ≤ 1048576) :
    Calls Try.prog 5 #[.slice P0 n0 c0, .string s] w fun e w' => e = .returned (tmV xs s) ∧ Below w.heap.size w w' := by
  subst hn0
  rw [← hs0.len, tmV_same hs0 s]
  exact sTimesOf_any P0 c0 ys0 s w hp0 (hs0.fits hq0) hm1
theorem iTimesOf_n (P0 : Option Addr) (c0 n0 : Nat) (xs ys0 : List Im) (hs0 : SameS xs ys0) (hn0 : xs.length = n0) (s : ByteArray) (w : World) (hp0 : Ims w w.heap.size P0 ys0) (hq0 : ImsFits xs) (hm1 : s.size ≤ 1048576) :
    Calls Try.prog 7 #[.slice P0 n0 c0, .string s] w fun e w' => e = .returned (tmV xs s) ∧ Below w.heap.size w w' := by
  subst hn0
  rw [← hs0.len, tmV_same hs0 s]
  exact iTimesOf_any P0 c0 ys0 s w hp0 (hs0.fits hq0) hm1

set_option maxHeartbeats 4000000 in
theorem walkTimesOf (P0 : Option Addr) (c0 : Nat) (xs : List Im) (s : ByteArray) (w : World) (hp0 : Ims w w.heap.size P0 xs) (hq0 : ImsLen xs) (hm1 : s.size ≤ maxLen) :
    Calls Try.prog 3 #[.slice P0 xs.length c0, .string s] w fun e w' => e = .returned (.bool true) ∧ Below w.heap.size w w' := by
  obtain ⟨p, q, b, hv⟩ := tmV_form xs s
  have HV := Lib.hid hv
  clear hv
  unfold maxLen at hm1
  by_cases hs1 : s.size ≤ 1048576
  rotate_left
  · go_enter Try.func3, Try.ntmps3
    go_wp2
    go_ret
    exact ⟨rfl, by first | exact Below.refl _ _ | exact below_alloc _ _⟩
  have HM1 := Lib.hid hs1
  clear hm1
  have HBW := Lib.hid (Below.refl w.heap.size w)
  have HP0 := Lib.hid hp0
  have HQ0 := Lib.hid hq0
  clear hp0 hq0
  have HB_0 := Lib.hid (Below.refl w.heap.size w)
  go_enter Try.func3, Try.ntmps3
  go_wp2_with fail
  refine (szItemS_any P0 c0 xs _ w (HP0.out.next HB_0.out) HQ0.out (by omega) (by omega)).mono ?_
  rintro e w1 ⟨⟨q0, rfl, hq⟩, hb⟩
  have Z1 := Lib.hid hb.size
  have HB_1 := Lib.hid (Below_next HB_0.out hb)
  clear HB_0 hb
  rcases hq with hq | ⟨hq00, hq10, HF0⟩
  · go_wp2
    go_ret
    exact ⟨rfl, Below_next HBW.out HB_1.out⟩
  · have hq10 : q0 ≤ 1048576 := by omega
    go_wp2_with fail
    refine (toItemS_c P0 c0 xs w1 (HP0.out.next HB_1.out) HF0.out).mono ?_
    rintro e w2 ⟨rfl, ⟨ys2, g2, G2, hs, ho⟩, hb⟩
    have Z2 := Lib.hid hb.size
    have HB_2 := Lib.hid (Below_next HB_1.out hb)
    clear HB_1 hb
    have HS2 := Lib.hid hs
    have HIt0_2 := Lib.hid (ho)
    clear hs ho
    go_wp2_with fail
    refine (sTimesOf_n _ _ _ xs ys2 HS2.out rfl s w2 HIt0_2.out.ims HF0.out HM1.out).mono ?_
    rintro e w3 ⟨he, hb⟩
    have Z3 := Lib.hid hb.size
    have HB_3 := Lib.hid (Below_next HB_2.out hb)
    have HIt0_3 := Lib.hid (HIt0_2.out.next hb)
    clear HB_2 HIt0_2 hb
    rw [HV.out] at he
    subst he
    clear HIt0_3
    go_wp2_with fail
    refine (toItemS_c P0 c0 xs w3 (HP0.out.next HB_3.out) HF0.out).mono ?_
    rintro e w4 ⟨rfl, ⟨ys4, g4, G4, hs, ho⟩, hb⟩
    have Z4 := Lib.hid hb.size
    have HB_4 := Lib.hid (Below_next HB_3.out hb)
    clear HB_3 hb
    have HS4 := Lib.hid hs
    have HIx0_4 := Lib.hid (ho)
    clear hs ho
    go_wp2_with fail
    refine (iTimesOf_n _ _ _ xs ys4 HS4.out rfl s w4 HIx0_4.out.ims HF0.out HM1.out).mono ?_
    rintro e w5 ⟨he, hb⟩
    have Z5 := Lib.hid hb.size
    have HB_5 := Lib.hid (Below_next HB_4.out hb)
    have HIx0_5 := Lib.hid (HIx0_4.out.next hb)
    clear HB_4 HIx0_4 hb
    rw [HV.out] at he
    subst he
    go_wp2_with fail
    refine (toItemS_c P0 c0 xs w5 (HP0.out.next HB_5.out) HF0.out).mono ?_
    rintro e w6 ⟨rfl, ⟨zs, g', G', hs', ho'⟩, hb⟩
    have Z6 := Lib.hid hb.size
    have HB_6 := Lib.hid (Below_next HB_5.out hb)
    have HIx0_6 := Lib.hid (HIx0_5.out.next hb)
    clear HB_5 HIx0_5 hb
    have HC := Lib.hid (eqItemS_n (some ⟨w3.heap.size, 0, none⟩) (some ⟨w5.heap.size, 0, none⟩) xs.length xs.length xs.length ys4 zs HS4.out.len w6 (HS4.out.symm.trans hs') HIx0_6.out.ims ho'.ims (HS4.out.fits HF0.out))
    clear hs' ho'
    go_wp2_with fail
    refine (HC.out).mono ?_
    rintro e w7 ⟨rfl, hb⟩
    have Z7 := Lib.hid hb.size
    have HB_7 := Lib.hid (Below_next HB_6.out hb)
    have HIx0_7 := Lib.hid (HIx0_6.out.next hb)
    clear HB_6 HIx0_6 hb
    clear HC
    go_wp2
    go_ret
    exact ⟨rfl, Below_next HBW.out HB_7.out⟩
end Go.Proofs.Ytpjimngdldnomaa
