/- The walk of the law CleanItems. -/
import Derived.Test.YtfcffbbafcpcgaaItemV
namespace Go.Proofs.Ytfcffbbafcpcgaa
open Go.ChangeShapes Go.WideShapes Go.ChangeAt Go.RowKit
set_option linter.unusedVariables false

theorem sCleanItems_n (P : Option Addr) (c n : Nat) (xs ys : List Im) (hs : SameS xs ys) (hn : xs.length = n) (w : World) (hr : Ims w w.heap.size P ys) (hl : ImsFits xs) :
    Calls Try.prog 6 #[.slice P n c] w fun e w' => (∃ R d zs g G, e = .returned (.tuple #[.slice R (clnF xs).length d, .bool (pB (ListOk xs))]) ∧ SameS (clnF xs) zs ∧ ImsOwn (fun i => w.heap.size ≤ i ∧ i < w'.heap.size) w' R g G zs) ∧ Below w.heap.size w w' := by
  subst hn
  rw [← hs.len, ← listOk_same hs]
  refine (sCleanItems_any P c ys w hr (hs.fits hl)).mono ?_
  rintro e w' ⟨⟨R, d, zs, g, G, rfl, h1, h2⟩, hb⟩
  have h3 := (clnF_same hs).trans h1
  exact ⟨⟨R, d, zs, g, G, by rw [h3.len], h3, h2⟩, hb⟩
theorem iCleanItems_n (P : Option Addr) (c n : Nat) (xs ys : List Im) (hs : SameS xs ys) (hn : xs.length = n) (w : World) (hr : Ims w w.heap.size P ys) (hl : ImsFits xs) :
    Calls Try.prog 8 #[.slice P n c] w fun e w' => (∃ R d zs g G, e = .returned (.tuple #[.slice R (clnF xs).length d, .bool (pB (ListOk xs))]) ∧ SameS (clnF xs) zs ∧ ImsOwn (fun i => w.heap.size ≤ i ∧ i < w'.heap.size) w' R g G zs) ∧ Below w.heap.size w w' := by
  subst hn
  rw [← hs.len, ← listOk_same hs]
  refine (iCleanItems_any P c ys w hr (hs.fits hl)).mono ?_
  rintro e w' ⟨⟨R, d, zs, g, G, rfl, h1, h2⟩, hb⟩
  have h3 := (clnF_same hs).trans h1
  exact ⟨⟨R, d, zs, g, G, by rw [h3.len], h3, h2⟩, hb⟩
set_option maxHeartbeats 2000000 in
theorem walkCleanItems (P : Option Addr) (c : Nat) (xs : List Im) (w : World) (hr : Ims w w.heap.size P xs) (hl : ImsLen xs) :
    Calls Try.prog 3 #[.slice P xs.length c] w fun e w' => e = .returned (.bool true) ∧ Below w.heap.size w w' := by
  have HR := Lib.hid hr
  have HL := Lib.hid hl
  clear hr hl
  go_enter Try.func3, Try.ntmps3
  go_wp2_with fail
  refine (szItemS_any P c xs _ w HR.out HL.out (by omega) (by omega)).mono ?_
  rintro e w1 ⟨⟨q, rfl, hq⟩, hb1⟩
  have HB1 := Lib.hid hb1
  have HR1 := Lib.hid (HR.out.next hb1)
  clear hb1
  rcases hq with hq | ⟨hq0, hq1, HF⟩
  · go_wp2
    go_ret
    exact ⟨rfl, HB1.out⟩
  · have HV := Lib.hid (clnF_fits HF.out)
    go_wp2_with fail
    refine (toItemS_c P c xs w1 HR1.out HF.out).mono ?_
    rintro e w2 ⟨rfl, ⟨ys, g, G, hs, ho⟩, hb2⟩
    have HB2 := Lib.hid (below_next HB1.out hb2)
    have HR2 := Lib.hid (HR1.out.next hb2)
    have HC := Lib.hid (sCleanItems_n (some ⟨w1.heap.size, 0, none⟩) xs.length xs.length xs ys hs rfl w2 ho.ims HF.out)
    clear hb2 hs ho
    go_wp2_with fail
    refine HC.out.mono ?_
    rintro e w3 ⟨⟨W0, d0, lw, gw, Gw, rfl, hsw, how⟩, hb3⟩
    have HSW := Lib.hid hsw
    clear hsw
    have HB3 := Lib.hid (below_next HB2.out hb3)
    have HR3 := Lib.hid (HR2.out.next hb3)
    have HW3 := Lib.hid how
    have S23 := Lib.hid hb3.size
    clear hb3 HC how
    go_wp2_with fail
    refine (toItemS_c P c xs w3 HR3.out HF.out).mono ?_
    rintro e w4 ⟨rfl, ⟨ys, g, G, hs, ho⟩, hb4⟩
    have HB4 := Lib.hid (below_next HB3.out hb4)
    have HR4 := Lib.hid (HR3.out.next hb4)
    have HW4 := Lib.hid (HW3.out.next hb4)
    have HX4 := Lib.hid ho
    have HS := Lib.hid hs
    have S34 := Lib.hid hb4.size
    have HC := Lib.hid (iCleanItems_n (some ⟨w3.heap.size, 0, none⟩) xs.length xs.length xs ys hs rfl w4 ho.ims HF.out)
    clear hb4 hs ho
    go_wp2_with fail
    refine HC.out.mono ?_
    rintro e w5 ⟨⟨G0, d1, lg, gg, Gg, rfl, hsg, hog⟩, hb5⟩
    have HSG := Lib.hid hsg
    clear hsg
    have HB5 := Lib.hid (below_next HB4.out hb5)
    have HR5 := Lib.hid (HR4.out.next hb5)
    have HW5 := Lib.hid (HW4.out.next hb5)
    have HX5 := Lib.hid (HX4.out.next hb5)
    have HG5 := Lib.hid hog
    have S45 := Lib.hid hb5.size
    clear hb5 HC hog
    go_wp2_with fail
    refine (eqItemS_n G0 W0 d1 d0 (clnF xs).length lg lw HSG.out.len _ (HSG.out.symm.trans HSW.out) HG5.out.ims HW5.out.ims (HSG.out.fits HV.out)).mono ?_
    rintro e w6 ⟨rfl, hb6⟩
    have HB6 := Lib.hid (below_next HB5.out hb6)
    have HR6 := Lib.hid (HR5.out.next hb6)
    have HW6 := Lib.hid (HW5.out.next hb6)
    have HX6 := Lib.hid (HX5.out.next hb6)
    have HG6 := Lib.hid (HG5.out.next hb6)
    clear hb6
    go_wp2_with fail
    refine (toItemS_c P c xs w6 HR6.out HF.out).mono ?_
    rintro e w7 ⟨rfl, ⟨zs, g', G', hs', ho'⟩, hb7⟩
    have HB7 := Lib.hid (below_next HB6.out hb7)
    have HR7 := Lib.hid (HR6.out.next hb7)
    have HW7 := Lib.hid (HW6.out.next hb7)
    have HX7 := Lib.hid (HX6.out.next hb7)
    have HG7 := Lib.hid (HG6.out.next hb7)
    have HC := Lib.hid (eqItemS_n (some ⟨w3.heap.size, 0, none⟩) (some ⟨w6.heap.size, 0, none⟩) xs.length xs.length xs.length ys zs HS.out.len w7 (HS.out.symm.trans hs') HX7.out.ims ho'.ims (HS.out.fits HF.out))
    clear hb7 hs' ho'
    go_wp2_with fail
    refine HC.out.mono ?_
    rintro e w8 ⟨rfl, hb8⟩
    have HB8 := Lib.hid (below_next HB7.out hb8)
    have HR8 := Lib.hid (HR7.out.next hb8)
    have HW8 := Lib.hid (HW7.out.next hb8)
    have HX8 := Lib.hid (HX7.out.next hb8)
    have HG8 := Lib.hid (HG7.out.next hb8)
    clear hb8 HC
    go_wp2_with fail
    refine (markItemS_n _ _ xs.length g G xs ys _ 1 w8 rfl HS.out HX8.out HF.out (by omega) (by omega)).mono ?_
    rintro e w9 ⟨⟨m9, rfl, hm9⟩, on9⟩
    have b9 : Below w.heap.size w8 w9 := on9.below HB8.out.size (fun k hk => by have := HB3.out.size; omega)
    have HB9 := Lib.hid (HB8.out.trans b9)
    have HR9 := Lib.hid (ims_kept HR.out HB9.out)
    have HW9 := Lib.hid (HW8.out.keep on9 (fun i h1 h2 => by omega))
    have HG9 := Lib.hid (HG8.out.keep on9 (fun i h1 h2 => by omega))
    clear on9 b9
    go_wp2_with fail
    refine (eqItemS_n G0 W0 d1 d0 (clnF xs).length lg lw HSG.out.len _ (HSG.out.symm.trans HSW.out) HG9.out.ims HW9.out.ims (HSG.out.fits HV.out)).mono ?_
    rintro e w10 ⟨rfl, hb10⟩
    have HB10 := Lib.hid (below_next HB9.out hb10)
    have HR10 := Lib.hid (HR9.out.next hb10)
    have HW10 := Lib.hid (HW9.out.next hb10)
    have HG10 := Lib.hid (HG9.out.next hb10)
    clear hb10
    go_wp2_with fail
    refine (markItemS_m _ G0 d1 (clnF xs).length gg Gg lg _ 1 w10 rfl HSG.out.len HG10.out (HSG.out.fits HV.out) (by omega) (by omega)).mono ?_
    rintro e w11 ⟨rfl, ⟨lm, hmk, hog⟩, on11⟩
    have HG11 := Lib.hid hog
    have HMK := Lib.hid hmk
    clear hog hmk
    have b11 : Below w.heap.size w10 w11 := on11.below HB10.out.size (fun k hk => by have := HB4.out.size; omega)
    have HB11 := Lib.hid (HB10.out.trans b11)
    have HR11 := Lib.hid (ims_kept HR.out HB11.out)
    have HW11 := Lib.hid (HW10.out.keep on11 (fun i h1 h2 => by have := S34.out; omega))
    clear on11 b11
    go_wp2_with fail
    refine (heldItemS_m G0 d1 (clnF xs).length lg lm _ 1 w11 rfl HSG.out.len HMK.out HG11.out.ims (HSG.out.fits HV.out) (by omega) (by omega)).mono ?_
    rintro e w12 ⟨rfl, hb12⟩
    have HB12 := Lib.hid (below_next HB11.out hb12)
    have HR12 := Lib.hid (HR11.out.next hb12)
    have HW12 := Lib.hid (HW11.out.next hb12)
    have HG12 := Lib.hid (HG11.out.next hb12)
    clear hb12
    go_wp2_with fail
    refine (toItemS_c P c xs w12 HR12.out HF.out).mono ?_
    rintro e w13 ⟨rfl, ⟨zs, g', G', hs', ho'⟩, hb13⟩
    have HB13 := Lib.hid (below_next HB12.out hb13)
    have HW13 := Lib.hid (HW12.out.next hb13)
    have HG13 := Lib.hid (HG12.out.next hb13)
    have HC := Lib.hid (iCleanItems_n (some ⟨w12.heap.size, 0, none⟩) xs.length xs.length xs zs hs' rfl w13 ho'.ims HF.out)
    clear hb13 hs' ho'
    go_wp2_with fail
    refine HC.out.mono ?_
    rintro e w14 ⟨⟨H0, d2, lh, gh, Gh, rfl, hsh, hoh⟩, hb14⟩
    have HSH := Lib.hid hsh
    clear hsh
    have HB14 := Lib.hid (below_next HB13.out hb14)
    have HW14 := Lib.hid (HW13.out.next hb14)
    have HG14 := Lib.hid (HG13.out.next hb14)
    have HH14 := Lib.hid hoh
    clear hb14 HC hoh
    go_wp2_with fail
    refine (eqItemS_n H0 W0 d2 d0 (clnF xs).length lh lw HSH.out.len _ (HSH.out.symm.trans HSW.out) HH14.out.ims HW14.out.ims (HSH.out.fits HV.out)).mono ?_
    rintro e w15 ⟨rfl, hb15⟩
    have HB15 := Lib.hid (below_next HB14.out hb15)
    have HG15 := Lib.hid (HG14.out.next hb15)
    clear hb15
    go_wp2_with fail
    refine (heldItemS_m G0 d1 (clnF xs).length lg lm _ 1 w15 rfl HSG.out.len HMK.out HG15.out.ims (HSG.out.fits HV.out) (by omega) (by omega)).mono ?_
    rintro e w16 ⟨rfl, hb16⟩
    have HB16 := Lib.hid (below_next HB15.out hb16)
    clear hb16
    go_wp2
    go_ret
    exact ⟨rfl, HB16.out⟩
end Go.Proofs.Ytfcffbbafcpcgaa
