/- The walk of the law CalledItems. -/
import Derived.Test.YtbhfhjhegcfdkaaShY
import Derived.Test.YtbhfhjhegcfdkaaShCc
import Derived.Deep.RegionHeld3
namespace Go.Proofs.Ytbhfhjhegcfdkaa
open Go.ChangeShapes Go.WideShapes Go.ChangeAt Go.RowKit Go.Lib Go.Proofs
set_option linter.unusedVariables false

theorem eqItemS_2 (P P' : Option Addr) (c c' : Nat) (xs ys : List Im) (w : World) (hs : SameS xs ys) (hr : Ims w w.heap.size P xs) (hr' : Ims w w.heap.size P' ys) (hl : ImsFits xs) :
    Calls Try.prog 8 #[.slice P xs.length c, .slice P' ys.length c'] w fun e w' => e = .returned (.bool true) ∧ Below w.heap.size w w' := by
  have h := hs.len
  obtain ⟨n, hn⟩ : ∃ n, n = ys.length := ⟨_, rfl⟩
  rw [← hn] at h ⊢
  subst h
  exact eqItemS_yes P P' c c' xs ys w hs hr hr' hl
theorem markItemS_1 (S : Nat → Prop) (P : Option Addr) (c : Nat) (g : Nat) (G : Nat → Nat) (xs : List Im) (m : Int) (k : Nat) (w : World) (hm : m = (k : Int)) (hr : ImsOwn S w P g G xs) (hl : ImsFits xs) (hk : 0 < k) (hk2 : k ≤ 10000000000000) :
    Calls Try.prog 11 #[.slice P xs.length c, .int .i64 m] w fun e w' => e = .returned (.int .i64 ((kAt xs k xs.length : Nat) : Int)) ∧ (∃ ys, Marked xs k xs.length ys ∧ ImsOwn S w' P g G ys) ∧ Only S w w' := by
  subst hm
  exact markItemS_any S P c g G xs k w hr hl hk hk2
theorem heldItemS_1 (P : Option Addr) (c : Nat) (xs ys : List Im) (m : Int) (k : Nat) (w : World) (hm : m = (k : Int)) (hmk : Marked xs k xs.length ys) (hr : Ims w w.heap.size P ys) (hl : ImsFits xs) (hk : 0 < k) (hk2 : k ≤ 10000000000000) :
    Calls Try.prog 12 #[.slice P xs.length c, .int .i64 m] w fun e w' => e = .returned (.int .i64 ((kAt xs k xs.length : Nat) : Int)) ∧ Below w.heap.size w w' := by
  subst hm
  exact heldItemS_any P c xs ys k w hmk hr hl hk hk2
theorem sCalledItems_s (x y : Sh) (w : World) (hs : ShSame x y) (hr : ShIn w w.heap.size y) (hl : ShFits x) :
    Calls Try.prog 5 #[y.val] w fun e w' => (∃ R d ys g G, e = .returned (.tuple #[.slice R ys.length d, .bool (clB x)]) ∧ ItsAns (clF x) w w' R ys g G) ∧ Below w.heap.size w w' := by
  refine (sCalledItems_any y w hr (hs.fits hl)).mono ?_
  rintro e w' ⟨⟨R, d, ys, g, G, rfl, h⟩, hb⟩
  exact ⟨⟨R, d, ys, g, G, by rw [clB_same hs], (clF_same hs).trans h.val, h.own⟩, hb⟩
theorem iCalledItems_s (x y : Sh) (w : World) (hs : ShSame x y) (hr : ShIn w w.heap.size y) (hl : ShFits x) :
    Calls Try.prog 7 #[y.val] w fun e w' => (∃ R d ys g G, e = .returned (.tuple #[.slice R ys.length d, .bool (clB x)]) ∧ ItsAns (clF x) w w' R ys g G) ∧ Below w.heap.size w w' := by
  refine (iCalledItems_any y w hr (hs.fits hl)).mono ?_
  rintro e w' ⟨⟨R, d, ys, g, G, rfl, h⟩, hb⟩
  exact ⟨⟨R, d, ys, g, G, by rw [clB_same hs], (clF_same hs).trans h.val, h.own⟩, hb⟩
set_option maxHeartbeats 4000000 in
set_option maxRecDepth 20000 in
theorem walkCalledItems (x : Sh) (w : World) (hr : ShIn w w.heap.size x) (hl : ShLen x) :
    Calls Try.prog 3 #[x.val] w fun e w' => e = .returned (.bool true) ∧ Below w.heap.size w w' := by
  have hb0 := below_alloc w (.cells #[.slice x.P x.l.length x.c, .slice x.V.A x.V.xs.length x.V.c, .slice x.R x.rv.length x.e] 26)
  have HB0 := Lib.hid hb0
  have HX0 := Lib.hid (shBox_new w 26 x)
  have HR0 := Lib.hid (hr.next hb0)
  have HL := Lib.hid hl
  clear hr hl hb0
  unfold Sh.val
  go_enter Try.func3, Try.ntmps3
  go_wp2_with fail
  have zW := HB0.out.size
  have ZW := Lib.hid HX0.out.lt
  clear zW
  generalize World.alloc w _ = W at HB0 HX0 HR0 ZW ⊢
  have HB_0 := Lib.hid (Below.refl W.heap.size W)
  refine (szSheet_any x _ W HR0.out HL.out (by omega) (by omega)).mono ?_
  rintro e w1 ⟨⟨q, rfl, hq⟩, hb⟩
  have Z1 := Lib.hid hb.size
  have HB_1 := Lib.hid (below_next HB_0.out hb)
  clear HB_0 hb
  rcases hq with hq | ⟨hq0, hq1, HF⟩
  · go_wp2
    go_ret
    exact ⟨rfl, below_next HB0.out HB_1.out⟩
  have HVL := Lib.hid (clF_fits HF.out)
  obtain ⟨c0, c1, c2, cf⟩ := (HX0.out.next HB_1.out).mem
  go_wp2_with fail
  clear c0 c1 c2 cf
  refine (toSheet_c x w1 (HR0.out.next HB_1.out) HF.out).mono ?_
  rintro e w2 ⟨⟨ya, rfl, hs, hy⟩, hb⟩
  have Z2 := Lib.hid hb.size
  have HB_2 := Lib.hid (below_next HB_1.out hb)
  clear HB_1 hb
  have HSya := Lib.hid hs
  clear hs
  have HC := Lib.hid (sCalledItems_s x ya w2 HSya.out hy.sh HF.out)
  clear hy
  unfold Sh.val at HC ⊢
  go_wp2_with fail
  refine (HC.out).mono ?_
  rintro e w3 ⟨⟨RV, dV, aV, gV, GV, rfl, ha⟩, hb⟩
  have Z3 := Lib.hid hb.size
  have HB_3 := Lib.hid (below_next HB_2.out hb)
  clear HB_2 hb
  have HPV := Lib.hid ha.val
  have HV_3 := Lib.hid (ha.own)
  clear ha
  clear HC HSya
  obtain ⟨c0, c1, c2, cf⟩ := (HX0.out.next HB_3.out).mem
  go_wp2_with fail
  clear c0 c1 c2 cf
  refine (toSheet_c x w3 (HR0.out.next HB_3.out) HF.out).mono ?_
  rintro e w4 ⟨⟨y, rfl, hs, hy⟩, hb⟩
  have Z4 := Lib.hid hb.size
  have HB_4 := Lib.hid (below_next HB_3.out hb)
  have HV_4 := Lib.hid (HV_3.out.next hb)
  clear HB_3 HV_3 hb
  have HSy := Lib.hid hs
  clear hs
  have HO_4 := Lib.hid (hy)
  clear hy
  obtain ⟨w5, hW⟩ : ∃ W', W' = w4.alloc (.cells #[.slice y.P y.l.length y.c, .slice y.V.A y.V.xs.length y.V.c, .slice y.R y.rv.length y.e] 33) := ⟨_, rfl⟩
  have hb : Below w4.heap.size w4 w5 := by rw [hW]; exact below_alloc _ _
  have Z5 := Lib.hid hb.size
  have HB_5 := Lib.hid (below_next HB_4.out hb)
  have HV_5 := Lib.hid (HV_4.out.next hb)
  have HO_5 := Lib.hid (HO_4.out.next hb)
  clear HB_4 HV_4 HO_4 hb
  have HY_5 := Lib.hid (show ShBox w5 w4.heap.size y by rw [hW]; exact shBox_new _ _ _)
  have HC := Lib.hid (iCalledItems_s x y w5 HSy.out HO_5.out.sh HF.out)
  unfold Sh.val at HC ⊢
  go_wp2_with fail
  rw [← hW]
  clear hW
  refine (HC.out).mono ?_
  rintro e w6 ⟨⟨RG, dG, aG, gG, GG, rfl, ha⟩, hb⟩
  have Z6 := Lib.hid hb.size
  have HB_6 := Lib.hid (below_next HB_5.out hb)
  have HV_6 := Lib.hid (HV_5.out.next hb)
  have HO_6 := Lib.hid (HO_5.out.next hb)
  have HY_6 := Lib.hid (HY_5.out.next hb)
  clear HB_5 HV_5 HO_5 HY_5 hb
  have HPG := Lib.hid ha.val
  have HG_6 := Lib.hid (ha.own)
  clear ha
  clear HC
  go_wp2_with fail
  refine (eqItemS_2 RG RV dG dV aG aV w6 (HPG.out.symm.trans HPV.out) HG_6.out.ims HV_6.out.ims (HPG.out.fits HVL.out)).mono ?_
  rintro e w7 ⟨rfl, hb⟩
  have Z7 := Lib.hid hb.size
  have HB_7 := Lib.hid (below_next HB_6.out hb)
  have HV_7 := Lib.hid (HV_6.out.next hb)
  have HO_7 := Lib.hid (HO_6.out.next hb)
  have HY_7 := Lib.hid (HY_6.out.next hb)
  have HG_7 := Lib.hid (HG_6.out.next hb)
  clear HB_6 HV_6 HO_6 HY_6 HG_6 hb
  go_wp2_with fail
  have hb := below_drew w7
  have Z8 := Lib.hid hb.size
  have HB_8 := Lib.hid (below_next HB_7.out hb)
  have HV_8 := Lib.hid (HV_7.out.next hb)
  have HO_8 := Lib.hid (HO_7.out.next hb)
  have HY_8 := Lib.hid (HY_7.out.next hb)
  have HG_8 := Lib.hid (HG_7.out.next hb)
  clear HB_7 HV_7 HO_7 HY_7 HG_7 hb
  go_region_held3 (fun w' => w'.cell? ⟨w.heap.size, 0, none⟩ = some (.slice x.P x.l.length x.c) ∧ w'.cell? ⟨w.heap.size, 1, none⟩ = some (.slice x.V.A x.V.xs.length x.V.c) ∧ w'.cell? ⟨w.heap.size, 2, none⟩ = some (.slice x.R x.rv.length x.e) ∧ w'.cell? ⟨w4.heap.size, 0, none⟩ = some (.slice y.P y.l.length y.c) ∧ w'.cell? ⟨w4.heap.size, 1, none⟩ = some (.slice y.V.A y.V.xs.length y.V.c) ∧ w'.cell? ⟨w4.heap.size, 2, none⟩ = some (.slice y.R y.rv.length y.e))
    (first | exact shBox_cells (HX0.out.next HB_8.out).mem HY_8.out.mem | exact shBox_cells (HX0.out.next HB_9.out).mem HY_9.out.mem | exact shBox_cells (HX0.out.next HB_10.out).mem HY_10.out.mem)
    (first
      | (go_at_call 6; refine (toSheet_c x _ (HR0.out.next HB_8.out) HF.out).mono ?_; rintro e w9 ⟨⟨z, rfl, hz, hzi⟩, hb⟩; have Z9 := Lib.hid hb.size; have HB_9 := Lib.hid (below_next HB_8.out hb); have HV_9 := Lib.hid (HV_8.out.next hb); have HO_9 := Lib.hid (HO_8.out.next hb); have HY_9 := Lib.hid (HY_8.out.next hb); have HG_9 := Lib.hid (HG_8.out.next hb); have HC := Lib.hid (eqSheet_yes y z w9 (HSy.out.symm.trans hz) HO_9.out.sh hzi.sh (HSy.out.fits HF.out)); unfold Sh.val at HC ⊢; clear hb hz hzi)
      | (go_at_call 9; refine HC.out.mono ?_; rintro e w10 ⟨rfl, hb⟩; have Z10 := Lib.hid hb.size; have HB_10 := Lib.hid (below_next HB_9.out hb); have HV_10 := Lib.hid (HV_9.out.next hb); have HO_10 := Lib.hid (HO_9.out.next hb); have HY_10 := Lib.hid (HY_9.out.next hb); have HG_10 := Lib.hid (HG_9.out.next hb); clear hb)
      )
  clear HC HB_8 HB_9 HV_8 HV_9 HO_8 HO_9 HY_8 HY_9 HG_8 HG_9
  obtain ⟨c0, c1, c2, cf⟩ := HY_10.out.mem
  go_wp2_with fail
  clear c0 c1 c2 cf
  refine (markSheet_any _ y _ 1 w10 rfl HO_10.out (fun i hi => by have q2 := hi.2; have z1 := Z1.out; have z2 := Z2.out; have z3 := Z3.out; have z4 := Z4.out; have z5 := Z5.out; have z6 := Z6.out; have z7 := Z7.out; have z8 := Z8.out; have z9 := Z9.out; have z10 := Z10.out; omega) (HSy.out.fits HF.out) (by omega) (by omega)).mono ?_
  rintro e w11 ⟨rfl, _, hk⟩
  clear HO_10
  clear HY_10
  have Z11 := Lib.hid hk.size
  have HB_11 := Lib.hid (HB_10.out.trans (hk.below HB_10.out.size (fun i hi => by have q1 := hi.1; have z1 := Z1.out; have z2 := Z2.out; have z3 := Z3.out; have z4 := Z4.out; have z5 := Z5.out; have z6 := Z6.out; have z7 := Z7.out; have z8 := Z8.out; have z9 := Z9.out; have z10 := Z10.out; have z11 := Z11.out; omega)))
  have HV_11 := Lib.hid (HV_10.out.keep hk (fun i h1 h2 => by have q1 := h1.1; have q2 := h1.2; have q3 := h2.1; have q4 := h2.2; have z1 := Z1.out; have z2 := Z2.out; have z3 := Z3.out; have z4 := Z4.out; have z5 := Z5.out; have z6 := Z6.out; have z7 := Z7.out; have z8 := Z8.out; have z9 := Z9.out; have z10 := Z10.out; have z11 := Z11.out; omega))
  have HG_11 := Lib.hid (HG_10.out.keep hk (fun i h1 h2 => by have q1 := h1.1; have q2 := h1.2; have q3 := h2.1; have q4 := h2.2; have z1 := Z1.out; have z2 := Z2.out; have z3 := Z3.out; have z4 := Z4.out; have z5 := Z5.out; have z6 := Z6.out; have z7 := Z7.out; have z8 := Z8.out; have z9 := Z9.out; have z10 := Z10.out; have z11 := Z11.out; omega))
  clear HB_10 HV_10 HG_10 hk
  go_wp2_with fail
  refine (eqItemS_2 RG RV dG dV aG aV w11 (HPG.out.symm.trans HPV.out) HG_11.out.ims HV_11.out.ims (HPG.out.fits HVL.out)).mono ?_
  rintro e w12 ⟨rfl, hb⟩
  have Z12 := Lib.hid hb.size
  have HB_12 := Lib.hid (below_next HB_11.out hb)
  have HV_12 := Lib.hid (HV_11.out.next hb)
  have HG_12 := Lib.hid (HG_11.out.next hb)
  clear HB_11 HV_11 HG_11 hb
  go_wp2_with fail
  refine (markItemS_1 _ RG dG gG GG aG _ 1 w12 rfl HG_12.out (HPG.out.fits HVL.out) (by omega) (by omega)).mono ?_
  rintro e w13 ⟨rfl, ⟨lm, hmk, hgo⟩, hk⟩
  have HMK := Lib.hid hmk
  clear hmk
  clear HG_12
  have Z13 := Lib.hid hk.size
  have HB_13 := Lib.hid (HB_12.out.trans (hk.below HB_12.out.size (fun i hi => by have q1 := hi.1; have z1 := Z1.out; have z2 := Z2.out; have z3 := Z3.out; have z4 := Z4.out; have z5 := Z5.out; have z6 := Z6.out; have z7 := Z7.out; have z8 := Z8.out; have z9 := Z9.out; have z10 := Z10.out; have z11 := Z11.out; have z12 := Z12.out; have z13 := Z13.out; omega)))
  have HV_13 := Lib.hid (HV_12.out.keep hk (fun i h1 h2 => by have q1 := h1.1; have q2 := h1.2; have q3 := h2.1; have q4 := h2.2; have z1 := Z1.out; have z2 := Z2.out; have z3 := Z3.out; have z4 := Z4.out; have z5 := Z5.out; have z6 := Z6.out; have z7 := Z7.out; have z8 := Z8.out; have z9 := Z9.out; have z10 := Z10.out; have z11 := Z11.out; have z12 := Z12.out; have z13 := Z13.out; omega))
  clear HB_12 HV_12 hk
  have HG_13 := Lib.hid (hgo)
  clear hgo
  go_wp2_with fail
  refine (heldItemS_1 RG dG aG lm _ 1 w13 rfl HMK.out HG_13.out.ims (HPG.out.fits HVL.out) (by omega) (by omega)).mono ?_
  rintro e w14 ⟨rfl, hb⟩
  have Z14 := Lib.hid hb.size
  have HB_14 := Lib.hid (below_next HB_13.out hb)
  have HV_14 := Lib.hid (HV_13.out.next hb)
  have HG_14 := Lib.hid (HG_13.out.next hb)
  clear HB_13 HV_13 HG_13 hb
  obtain ⟨c0, c1, c2, cf⟩ := (HX0.out.next HB_14.out).mem
  go_wp2_with fail
  clear c0 c1 c2 cf
  refine (toSheet_c x w14 (HR0.out.next HB_14.out) HF.out).mono ?_
  rintro e w15 ⟨⟨yb, rfl, hs, hy⟩, hb⟩
  have Z15 := Lib.hid hb.size
  have HB_15 := Lib.hid (below_next HB_14.out hb)
  have HV_15 := Lib.hid (HV_14.out.next hb)
  have HG_15 := Lib.hid (HG_14.out.next hb)
  clear HB_14 HV_14 HG_14 hb
  have HSyb := Lib.hid hs
  clear hs
  have HC := Lib.hid (iCalledItems_s x yb w15 HSyb.out hy.sh HF.out)
  clear hy
  unfold Sh.val at HC ⊢
  go_wp2_with fail
  refine (HC.out).mono ?_
  rintro e w16 ⟨⟨RH, dH, aH, gH, GH, rfl, ha⟩, hb⟩
  have Z16 := Lib.hid hb.size
  have HB_16 := Lib.hid (below_next HB_15.out hb)
  have HV_16 := Lib.hid (HV_15.out.next hb)
  have HG_16 := Lib.hid (HG_15.out.next hb)
  clear HB_15 HV_15 HG_15 hb
  have HPH := Lib.hid ha.val
  have HH_16 := Lib.hid (ha.own)
  clear ha
  clear HC HSyb
  go_wp2_with fail
  refine (eqItemS_2 RH RV dH dV aH aV w16 (HPH.out.symm.trans HPV.out) HH_16.out.ims HV_16.out.ims (HPH.out.fits HVL.out)).mono ?_
  rintro e w17 ⟨rfl, hb⟩
  have Z17 := Lib.hid hb.size
  have HB_17 := Lib.hid (below_next HB_16.out hb)
  have HV_17 := Lib.hid (HV_16.out.next hb)
  have HG_17 := Lib.hid (HG_16.out.next hb)
  have HH_17 := Lib.hid (HH_16.out.next hb)
  clear HB_16 HV_16 HG_16 HH_16 hb
  go_wp2_with fail
  refine (heldItemS_1 RG dG aG lm _ 1 w17 rfl HMK.out HG_17.out.ims (HPG.out.fits HVL.out) (by omega) (by omega)).mono ?_
  rintro e w18 ⟨rfl, hb⟩
  have Z18 := Lib.hid hb.size
  have HB_18 := Lib.hid (below_next HB_17.out hb)
  have HV_18 := Lib.hid (HV_17.out.next hb)
  have HG_18 := Lib.hid (HG_17.out.next hb)
  have HH_18 := Lib.hid (HH_17.out.next hb)
  clear HB_17 HV_17 HG_17 HH_17 hb
  go_wp2
  go_ret
  exact ⟨rfl, below_next HB0.out HB_18.out⟩
end Go.Proofs.Ytbhfhjhegcfdkaa
