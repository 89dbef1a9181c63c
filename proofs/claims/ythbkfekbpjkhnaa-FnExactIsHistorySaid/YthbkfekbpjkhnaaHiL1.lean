/- The walk of the law IsHistory. -/
import Derived.Test.YthbkfekbpjkhnaaHiN
import Derived.Test.YthbkfekbpjkhnaaHiO
import Derived.Deep.RegionHeld3
namespace Go.Proofs.Ythbkfekbpjkhnaa
open Go.ChangeShapes Go.WideShapes Go.ChangeAt Go.RowKit Go.Lib Go.Proofs Go.PlainAid
set_option linter.unusedVariables false

theorem sIsHistory_n (P0 : Option Addr) (c0 n0 : Nat) (xs ys0 : List Im) (hs0 : SameS xs ys0) (hn0 : xs.length = n0) (P1 : Option Addr) (c1 : Nat) (hs : List Cg) (w : World) (hp0 : Ims w w.heap.size P0 ys0) (hq0 : ImsFits xs) (hp1 : Lst w w.heap.size P1 hs) (hq1 : hs.length ≤ 1048576) (hc1 : hs.length ≤ c1 ∧ c1 ≤ 9223372036854775807) :
    Calls Try.prog 13 #[.slice P0 n0 c0, .slice P1 hs.length c1] w fun e w' => e = .returned (hiV xs hs) ∧ Below w.heap.size w w' := by
  subst hn0
  rw [← hs0.len, ← hiV_same hs0 hs]
  exact sIsHistory_any P0 c0 ys0 P1 c1 hs w hp0 (hs0.fits hq0) hp1 hq1 hc1
theorem iIsHistory_n (P0 : Option Addr) (c0 n0 : Nat) (xs ys0 : List Im) (hs0 : SameS xs ys0) (hn0 : xs.length = n0) (P1 : Option Addr) (c1 : Nat) (hs : List Cg) (w : World) (hp0 : Ims w w.heap.size P0 ys0) (hq0 : ImsFits xs) (hp1 : Lst w w.heap.size P1 hs) (hq1 : hs.length ≤ 1048576) (hc1 : hs.length ≤ c1 ∧ c1 ≤ 9223372036854775807) :
    Calls Try.prog 16 #[.slice P0 n0 c0, .slice P1 hs.length c1] w fun e w' => e = .returned (hiV xs hs) ∧ Below w.heap.size w w' := by
  subst hn0
  rw [← hs0.len, ← hiV_same hs0 hs]
  exact iIsHistory_any P0 c0 ys0 P1 c1 hs w hp0 (hs0.fits hq0) hp1 hq1 hc1

set_option maxHeartbeats 4000000 in
theorem walkIsHistory (P0 : Option Addr) (c0 : Nat) (xs : List Im) (P1 : Option Addr) (c1 : Nat) (hs : List Cg) (w : World) (hp0 : Ims w w.heap.size P0 xs) (hq0 : ImsLen xs) (hp1 : Lst w w.heap.size P1 hs) (hq1 : hs.length ≤ 9223372036854775807) :
    Calls Try.prog 3 #[.slice P0 xs.length c0, .slice P1 hs.length c1] w fun e w' => e = .returned (.bool true) ∧ Below w.heap.size w w' := by
  obtain ⟨p, q, hv⟩ := hiV_form xs hs
  have HV := Lib.hid hv
  clear hv
  have HBW := Lib.hid (Below.refl w.heap.size w)
  have HP0 := Lib.hid hp0
  have HQ0 := Lib.hid hq0
  clear hp0 hq0
  have HP1 := Lib.hid hp1
  have HQ1 := Lib.hid hq1
  clear hp1 hq1
  have HB_0 := Lib.hid (Below.refl w.heap.size w)
  go_enter Try.func3, Try.ntmps3
  go_wp2_with fail
  refine (szItemS_any P0 c0 xs _ w (HP0.out.next HB_0.out) HQ0.out (by omega) (by omega)).mono ?_
  rintro e w1 ⟨⟨q0, rfl, hq⟩, hb⟩
  have Z1 := Lib.hid hb.size
  have HB_1 := Lib.hid (Below_next HB_0.out hb)
  clear HB_0 hb
  rcases hq with hq | ⟨hq00, hq10, HF0⟩
  · go_wp2
    go_ret
    exact ⟨rfl, Below_next HBW.out HB_1.out⟩
  · have hq10 : q0 ≤ 1048576 := by omega
    go_wp2_with fail
    refine (szChangeS_b P1 c1 hs q0 w1 HQ1.out hq00 hq10).mono ?_
    rintro e w2 ⟨⟨q1, rfl, hq⟩, hb⟩
    have Z2 := Lib.hid hb.size
    have HB_2 := Lib.hid (Below_next HB_1.out hb)
    clear HB_1 hb
    rcases hq with hq | ⟨hq01, hq11, HF1⟩
    · go_wp2
      go_ret
      exact ⟨rfl, Below_next HBW.out HB_2.out⟩
    · have hq11 : q1 ≤ 1048576 := by omega
      have HF1 := Lib.hid HF1
      go_wp2_with fail
      refine (toItemS_c P0 c0 xs w2 (HP0.out.next HB_2.out) HF0.out).mono ?_
      rintro e w3 ⟨rfl, ⟨ys3, g3, G3, hs, ho⟩, hb⟩
      have Z3 := Lib.hid hb.size
      have HB_3 := Lib.hid (Below_next HB_2.out hb)
      clear HB_2 hb
      have HS3 := Lib.hid hs
      have HIt0_3 := Lib.hid (ho)
      clear hs ho
      go_wp2_with fail
      refine (toChangeS_c P1 c1 hs w3 (HP1.out.next HB_3.out) HF1.out).mono ?_
      rintro e w4 ⟨rfl, ho, hb⟩
      have Z4 := Lib.hid hb.size
      have HB_4 := Lib.hid (Below_next HB_3.out hb)
      have HIt0_4 := Lib.hid (HIt0_3.out.next hb)
      clear HB_3 HIt0_3 hb
      have HIt1_4 := Lib.hid (ho)
      clear ho
      go_wp2_with fail
      refine (sIsHistory_n _ _ _ xs ys3 HS3.out rfl _ _ hs w4 HIt0_4.out.ims HF0.out HIt1_4.out.lst HF1.out ⟨Nat.le_refl _, by have := HF1.out; omega⟩).mono ?_
      rintro e w5 ⟨he, hb⟩
      have Z5 := Lib.hid hb.size
      have HB_5 := Lib.hid (Below_next HB_4.out hb)
      have HIt0_5 := Lib.hid (HIt0_4.out.next hb)
      have HIt1_5 := Lib.hid (HIt1_4.out.keepB hb)
      clear HB_4 HIt0_4 HIt1_4 hb
      rw [HV.out] at he
      subst he
      clear HIt0_5
      clear HIt1_5
      go_wp2_with fail
      refine (toItemS_c P0 c0 xs w5 (HP0.out.next HB_5.out) HF0.out).mono ?_
      rintro e w6 ⟨rfl, ⟨ys6, g6, G6, hs, ho⟩, hb⟩
      have Z6 := Lib.hid hb.size
      have HB_6 := Lib.hid (Below_next HB_5.out hb)
      clear HB_5 hb
      have HS6 := Lib.hid hs
      have HIx0_6 := Lib.hid (ho)
      clear hs ho
      go_wp2_with fail
      refine (toChangeS_c P1 c1 hs w6 (HP1.out.next HB_6.out) HF1.out).mono ?_
      rintro e w7 ⟨rfl, ho, hb⟩
      have Z7 := Lib.hid hb.size
      have HB_7 := Lib.hid (Below_next HB_6.out hb)
      have HIx0_7 := Lib.hid (HIx0_6.out.next hb)
      clear HB_6 HIx0_6 hb
      have HIx1_7 := Lib.hid (ho)
      clear ho
      go_wp2_with fail
      refine (iIsHistory_n _ _ _ xs ys6 HS6.out rfl _ _ hs w7 HIx0_7.out.ims HF0.out HIx1_7.out.lst HF1.out ⟨Nat.le_refl _, by have := HF1.out; omega⟩).mono ?_
      rintro e w8 ⟨he, hb⟩
      have Z8 := Lib.hid hb.size
      have HB_8 := Lib.hid (Below_next HB_7.out hb)
      have HIx0_8 := Lib.hid (HIx0_7.out.next hb)
      have HIx1_8 := Lib.hid (HIx1_7.out.keepB hb)
      clear HB_7 HIx0_7 HIx1_7 hb
      rw [HV.out] at he
      subst he
      go_wp2_with fail
      refine (toItemS_c P0 c0 xs w8 (HP0.out.next HB_8.out) HF0.out).mono ?_
      rintro e w9 ⟨rfl, ⟨zs, g', G', hs', ho'⟩, hb⟩
      have Z9 := Lib.hid hb.size
      have HB_9 := Lib.hid (Below_next HB_8.out hb)
      have HIx0_9 := Lib.hid (HIx0_8.out.next hb)
      have HIx1_9 := Lib.hid (HIx1_8.out.keepB hb)
      clear HB_8 HIx0_8 HIx1_8 hb
      have HC := Lib.hid (eqItemS_n (some ⟨w5.heap.size, 0, none⟩) (some ⟨w8.heap.size, 0, none⟩) xs.length xs.length xs.length ys6 zs HS6.out.len w9 (HS6.out.symm.trans hs') HIx0_9.out.ims ho'.ims (HS6.out.fits HF0.out))
      clear hs' ho'
      go_wp2_with fail
      refine (HC.out).mono ?_
      rintro e w10 ⟨rfl, hb⟩
      have Z10 := Lib.hid hb.size
      have HB_10 := Lib.hid (Below_next HB_9.out hb)
      have HIx0_10 := Lib.hid (HIx0_9.out.next hb)
      have HIx1_10 := Lib.hid (HIx1_9.out.keepB hb)
      clear HB_9 HIx0_9 HIx1_9 hb
      clear HC
      go_wp2_with fail
      refine (toChangeS_c P1 c1 hs w10 (HP1.out.next HB_10.out) HF1.out).mono ?_
      rintro e w11 ⟨rfl, ho', hb⟩
      have Z11 := Lib.hid hb.size
      have HB_11 := Lib.hid (Below_next HB_10.out hb)
      have HIx0_11 := Lib.hid (HIx0_10.out.next hb)
      have HIx1_11 := Lib.hid (HIx1_10.out.keepB hb)
      clear HB_10 HIx0_10 HIx1_10 hb
      have HC := Lib.hid (eqChangeS_n (some ⟨w6.heap.size, 0, none⟩) (some ⟨w10.heap.size, 0, none⟩) hs.length hs.length hs.length hs rfl w11 HIx1_11.out.lst ho'.lst HF1.out)
      clear ho'
      go_wp2_with fail
      refine (HC.out).mono ?_
      rintro e w12 ⟨rfl, hb⟩
      have Z12 := Lib.hid hb.size
      have HB_12 := Lib.hid (Below_next HB_11.out hb)
      have HIx0_12 := Lib.hid (HIx0_11.out.next hb)
      have HIx1_12 := Lib.hid (HIx1_11.out.keepB hb)
      clear HB_11 HIx0_11 HIx1_11 hb
      clear HC
      go_wp2
      go_ret
      exact ⟨rfl, Below_next HBW.out HB_12.out⟩
end Go.Proofs.Ythbkfekbpjkhnaa
