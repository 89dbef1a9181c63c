/- SameCalls, in the model and in the program; the walk of its law. -/
import Derived.Test.YtjnimmjlmfhpdaaItemS
namespace Go.Proofs.Ytjnimmjlmfhpdaa
open Go.ChangeShapes Go.WideShapes Go.ChangeAt Go.RowKit
set_option linter.unusedVariables false

def LC (xs ys : List Im) : Prop := ListOk xs ∧ ListOk ys
def SC (xs ys : List Im) : Prop := LC xs ys ∧ SameN xs ys
theorem ListOk.same {xs ys : List Im} (h : SameS xs ys) (k : ListOk xs) : ListOk ys :=
  ⟨by have := h.len; have := k.len; omega, fun i hi => by have hk := k.each i (by have := h.len; omega); have he := h.each i (by have := h.len; omega); rw [he.ns, he.ms]; exact hk⟩
theorem lc_same {xs ys xs' ys' : List Im} (h : SameS xs xs') (k : SameS ys ys') : pB (LC xs' ys') = pB (LC xs ys) :=
  pB_iff ⟨fun q => ⟨q.1.same h.symm, q.2.same k.symm⟩, fun q => ⟨q.1.same h, q.2.same k⟩⟩
theorem SameN.same {xs ys xs' ys' : List Im} (h : SameS xs xs') (k : SameS ys ys') (q : SameN xs ys) : SameN xs' ys' :=
  ⟨by rw [k.len, h.len, q.len], fun i hi => by
    have hi' : i < xs.length := by have := h.len; omega
    rw [(k.each i (by have := q.len; omega)).ns, (h.each i hi').ns, q.each i hi']⟩
theorem sc_same {xs ys xs' ys' : List Im} (h : SameS xs xs') (k : SameS ys ys') : pB (SC xs' ys') = pB (SC xs ys) :=
  pB_iff ⟨fun q => ⟨⟨q.1.1.same h.symm, q.1.2.same k.symm⟩, q.2.same h.symm k.symm⟩, fun q => ⟨⟨q.1.1.same h, q.1.2.same k⟩, q.2.same h k⟩⟩

set_option maxHeartbeats 1000000 in
theorem sSame_any (P P' : Option Addr) (c c' : Nat) (xs ys : List Im) (w : World) (hr : Ims w w.heap.size P xs) (hr' : Ims w w.heap.size P' ys) (hl : ImsFits xs) (hl' : ImsFits ys) :
    Calls Try.prog 45 #[.slice P xs.length c, .slice P' ys.length c'] w fun e w' => e = .returned (.tuple #[.bool (pB (SC xs ys)), .bool (pB (LC xs ys))]) ∧ Below w.heap.size w w' := by
  have HR := Lib.hid hr
  have HR' := Lib.hid hr'
  have HF := Lib.hid hl
  have HF' := Lib.hid hl'
  have hl1 := hl.len
  have hl2 := hl'.len
  have HA := Lib.hid (itList_any P c xs w hr hl)
  clear hr hr' hl hl'
  by_cases h1 : ListOk xs
  · rw [pB_yes h1] at HA
    have HC := Lib.hid (fun w1 (hb : Below w.heap.size w w1) => itList_any P' c' ys w1 (HR'.out.next hb) HF'.out)
    by_cases h2 : ListOk ys
    · rw [pB_yes h2] at HC
      have HV := Lib.hid (pB_yes (show LC xs ys from ⟨h1, h2⟩))
      have HW := Lib.hid (pB_iff (p := SameN xs ys) (q := SC xs ys) ⟨fun q => ⟨⟨h1, h2⟩, q⟩, fun q => q.2⟩)
      rw [HV.out, ← HW.out]
      clear h1 h2 HV HW
      go_enter Try.func45, Try.ntmps45
      go_wp2_with fail
      refine HA.out.mono ?_
      rintro e w1 ⟨rfl, hb1⟩
      have HB1 := Lib.hid hb1
      clear hb1
      go_wp2_with fail
      refine (HC.out _ HB1.out).mono ?_
      rintro e w2 ⟨rfl, hb2⟩
      have HB2 := Lib.hid (below_next HB1.out hb2)
      clear hb2
      go_wp2_with fail
      refine (itSame_any P P' c c' xs ys _ (HR.out.next HB2.out) (HR'.out.next HB2.out) HF.out HF'.out).mono ?_
      rintro e w3 ⟨rfl, hb3⟩
      have HB3 := Lib.hid (below_next HB2.out hb3)
      clear hb3
      go_wp2
      go_returns
      exact ⟨rfl, HB3.out⟩
    · rw [pB_no h2] at HC
      rw [pB_no (show ¬ LC xs ys from fun q => h2 q.2), pB_no (show ¬ SC xs ys from fun q => h2 q.1.2)]
      clear h1 h2
      go_enter Try.func45, Try.ntmps45
      go_wp2_with fail
      refine HA.out.mono ?_
      rintro e w1 ⟨rfl, hb1⟩
      have HB1 := Lib.hid hb1
      clear hb1
      go_wp2_with fail
      refine (HC.out _ HB1.out).mono ?_
      rintro e w2 ⟨rfl, hb2⟩
      have HB2 := Lib.hid (below_next HB1.out hb2)
      clear hb2
      go_wp2
      go_returns
      exact ⟨rfl, HB2.out⟩
  · rw [pB_no h1] at HA
    rw [pB_no (show ¬ LC xs ys from fun q => h1 q.1), pB_no (show ¬ SC xs ys from fun q => h1 q.1.1)]
    clear h1
    go_enter Try.func45, Try.ntmps45
    go_wp2_with fail
    refine HA.out.mono ?_
    rintro e w1 ⟨rfl, hb1⟩
    have HB1 := Lib.hid hb1
    clear hb1
    go_wp2
    go_returns
    exact ⟨rfl, HB1.out⟩
theorem sSame_n (P P' : Option Addr) (c c' n n' : Nat) (xs ys xs' ys' : List Im) (h1 : SameS xs xs') (h2 : SameS ys ys') (hn : xs.length = n) (hn' : ys.length = n') (w : World) (hr : Ims w w.heap.size P xs') (hr' : Ims w w.heap.size P' ys') (hl : ImsFits xs) (hl' : ImsFits ys) :
    Calls Try.prog 45 #[.slice P n c, .slice P' n' c'] w fun e w' => e = .returned (.tuple #[.bool (pB (SC xs ys)), .bool (pB (LC xs ys))]) ∧ Below w.heap.size w w' := by
  subst hn hn'
  rw [← h1.len, ← h2.len, ← sc_same h1 h2, ← lc_same h1 h2]
  exact sSame_any P P' c c' xs' ys' w hr hr' (h1.fits hl) (h2.fits hl')

set_option maxHeartbeats 1000000 in
theorem iSame_any (P P' : Option Addr) (c c' : Nat) (xs ys : List Im) (w : World) (hr : Ims w w.heap.size P xs) (hr' : Ims w w.heap.size P' ys) (hl : ImsFits xs) (hl' : ImsFits ys) :
    Calls Try.prog 46 #[.slice P xs.length c, .slice P' ys.length c'] w fun e w' => e = .returned (.tuple #[.bool (pB (SC xs ys)), .bool (pB (LC xs ys))]) ∧ Below w.heap.size w w' := by
  have HR := Lib.hid hr
  have HR' := Lib.hid hr'
  have HF := Lib.hid hl
  have HF' := Lib.hid hl'
  have hl1 := hl.len
  have hl2 := hl'.len
  have HA := Lib.hid (iAreItems_any P c xs w hr hl)
  clear hr hr' hl hl'
  by_cases h1 : ListOk xs
  · rw [pB_yes h1] at HA
    have HC := Lib.hid (fun w1 (hb : Below w.heap.size w w1) => iAreItems_any P' c' ys w1 (HR'.out.next hb) HF'.out)
    by_cases h2 : ListOk ys
    · rw [pB_yes h2] at HC
      have HV := Lib.hid (pB_yes (show LC xs ys from ⟨h1, h2⟩))
      have HW := Lib.hid (pB_iff (p := SameN xs ys) (q := SC xs ys) ⟨fun q => ⟨⟨h1, h2⟩, q⟩, fun q => q.2⟩)
      rw [HV.out, ← HW.out]
      clear h1 h2 HV HW
      go_enter Try.func46, Try.ntmps46
      go_wp2_with fail
      refine HA.out.mono ?_
      rintro e w1 ⟨rfl, hb1⟩
      have HB1 := Lib.hid hb1
      clear hb1
      go_wp2_with fail
      refine (HC.out _ HB1.out).mono ?_
      rintro e w2 ⟨rfl, hb2⟩
      have HB2 := Lib.hid (below_next HB1.out hb2)
      clear hb2
      go_wp2_with fail
      refine (equalFunc_any P P' c c' xs ys _ (HR.out.next HB2.out) (HR'.out.next HB2.out) HF.out HF'.out).mono ?_
      rintro e w3 ⟨rfl, hb3⟩
      have HB3 := Lib.hid (below_next HB2.out hb3)
      clear hb3
      go_wp2
      go_returns
      exact ⟨rfl, HB3.out⟩
    · rw [pB_no h2] at HC
      rw [pB_no (show ¬ LC xs ys from fun q => h2 q.2), pB_no (show ¬ SC xs ys from fun q => h2 q.1.2)]
      clear h1 h2
      go_enter Try.func46, Try.ntmps46
      go_wp2_with fail
      refine HA.out.mono ?_
      rintro e w1 ⟨rfl, hb1⟩
      have HB1 := Lib.hid hb1
      clear hb1
      go_wp2_with fail
      refine (HC.out _ HB1.out).mono ?_
      rintro e w2 ⟨rfl, hb2⟩
      have HB2 := Lib.hid (below_next HB1.out hb2)
      clear hb2
      go_wp2
      go_returns
      exact ⟨rfl, HB2.out⟩
  · rw [pB_no h1] at HA
    rw [pB_no (show ¬ LC xs ys from fun q => h1 q.1), pB_no (show ¬ SC xs ys from fun q => h1 q.1.1)]
    clear h1
    go_enter Try.func46, Try.ntmps46
    go_wp2_with fail
    refine HA.out.mono ?_
    rintro e w1 ⟨rfl, hb1⟩
    have HB1 := Lib.hid hb1
    clear hb1
    go_wp2
    go_returns
    exact ⟨rfl, HB1.out⟩
theorem iSame_n (P P' : Option Addr) (c c' n n' : Nat) (xs ys xs' ys' : List Im) (h1 : SameS xs xs') (h2 : SameS ys ys') (hn : xs.length = n) (hn' : ys.length = n') (w : World) (hr : Ims w w.heap.size P xs') (hr' : Ims w w.heap.size P' ys') (hl : ImsFits xs) (hl' : ImsFits ys) :
    Calls Try.prog 46 #[.slice P n c, .slice P' n' c'] w fun e w' => e = .returned (.tuple #[.bool (pB (SC xs ys)), .bool (pB (LC xs ys))]) ∧ Below w.heap.size w w' := by
  subst hn hn'
  rw [← h1.len, ← h2.len, ← sc_same h1 h2, ← lc_same h1 h2]
  exact iSame_any P P' c c' xs' ys' w hr hr' (h1.fits hl) (h2.fits hl')

set_option maxHeartbeats 2000000 in
theorem walkSameCalls (P : Option Addr) (c : Nat) (xs : List Im) (P' : Option Addr) (c' : Nat) (xs' : List Im) (w : World) (hr : Ims w w.heap.size P xs) (hl : ImsLen xs) (hr' : Ims w w.heap.size P' xs') (hl' : ImsLen xs') :
    Calls Try.prog 12 #[.slice P xs.length c, .slice P' xs'.length c'] w fun e w' => e = .returned (.bool true) ∧ Below w.heap.size w w' := by
  have HR := Lib.hid hr
  have HL := Lib.hid hl
  have HR' := Lib.hid hr'
  have HL' := Lib.hid hl'
  clear hr hl hr' hl'
  go_enter Try.func12, Try.ntmps12
  go_wp2_with fail
  refine (szItemS_any P c xs _ w HR.out HL.out (by omega) (by omega)).mono ?_
  rintro e w0 ⟨⟨q, rfl, hq⟩, hb0⟩
  have HB0 := Lib.hid hb0
  clear hb0
  rcases hq with hq | ⟨hq0, hq1, HF⟩
  · go_wp2
    go_ret
    exact ⟨rfl, HB0.out⟩
  go_wp2_with fail
  refine (szItemS_any P' c' xs' _ w0 (HR'.out.next HB0.out) HL'.out (by omega) (by omega)).mono ?_
  rintro e w1 ⟨⟨q', rfl, hq⟩, hb1⟩
  have HB1 := Lib.hid (below_next HB0.out hb1)
  clear hb1
  rcases hq with hq | ⟨hq2, hq3, HF'⟩
  · go_wp2
    go_ret
    exact ⟨rfl, HB1.out⟩
  go_wp2_with fail
  refine (toItemS_c P c xs w1 (HR.out.next HB1.out) HF.out).mono ?_
  rintro e w2 ⟨rfl, ⟨ys2, g2, G2, hs, ho⟩, hb⟩
  have HB2 := Lib.hid (below_next HB1.out hb)
  have HS2 := Lib.hid hs
  have HO2_2 := Lib.hid ho.ims
  clear hb hs ho
  go_wp2_with fail
  refine (toItemS_c P' c' xs' w2 (HR'.out.next HB2.out) HF'.out).mono ?_
  rintro e w3 ⟨rfl, ⟨ys3, g3, G3, hs, ho⟩, hb⟩
  have HB3 := Lib.hid (below_next HB2.out hb)
  have HS3 := Lib.hid hs
  have HO3_3 := Lib.hid ho.ims
  have HO2_3 := Lib.hid (HO2_2.out.next hb)
  clear hb hs ho
  go_wp2_with fail
  refine (sSame_n (some ⟨w1.heap.size, 0, none⟩) (some ⟨w2.heap.size, 0, none⟩) xs.length xs'.length xs.length xs'.length xs xs' ys2 ys3 HS2.out HS3.out rfl rfl w3 HO2_3.out HO3_3.out HF.out HF'.out).mono ?_
  rintro e w4 ⟨rfl, hb⟩
  have HB4 := Lib.hid (below_next HB3.out hb)
  clear hb
  go_wp2_with fail
  refine (toItemS_c P c xs w4 (HR.out.next HB4.out) HF.out).mono ?_
  rintro e w5 ⟨rfl, ⟨ys5, g5, G5, hs, ho⟩, hb⟩
  have HB5 := Lib.hid (below_next HB4.out hb)
  have HS5 := Lib.hid hs
  have HO5_5 := Lib.hid ho.ims
  clear hb hs ho
  go_wp2_with fail
  refine (toItemS_c P' c' xs' w5 (HR'.out.next HB5.out) HF'.out).mono ?_
  rintro e w6 ⟨rfl, ⟨ys6, g6, G6, hs, ho⟩, hb⟩
  have HB6 := Lib.hid (below_next HB5.out hb)
  have HS6 := Lib.hid hs
  have HO6_6 := Lib.hid ho.ims
  have HO5_6 := Lib.hid (HO5_5.out.next hb)
  clear hb hs ho
  go_wp2_with fail
  refine (iSame_n (some ⟨w4.heap.size, 0, none⟩) (some ⟨w5.heap.size, 0, none⟩) xs.length xs'.length xs.length xs'.length xs xs' ys5 ys6 HS5.out HS6.out rfl rfl w6 HO5_6.out HO6_6.out HF.out HF'.out).mono ?_
  rintro e w7 ⟨rfl, hb⟩
  have HB7 := Lib.hid (below_next HB6.out hb)
  have HO5_7 := Lib.hid (HO5_6.out.next hb)
  have HO6_7 := Lib.hid (HO6_6.out.next hb)
  clear hb
  go_wp2_with fail
  refine (toItemS_c P c xs w7 (HR.out.next HB7.out) HF.out).mono ?_
  rintro e w8 ⟨rfl, ⟨ys8, g8, G8, hs, ho⟩, hb⟩
  have HB8 := Lib.hid (below_next HB7.out hb)
  have HS8 := Lib.hid hs
  have HO8_8 := Lib.hid ho.ims
  have HO5_8 := Lib.hid (HO5_7.out.next hb)
  have HO6_8 := Lib.hid (HO6_7.out.next hb)
  clear hb hs ho
  go_wp2_with fail
  refine (eqItemS_n (some ⟨w4.heap.size, 0, none⟩) (some ⟨w7.heap.size, 0, none⟩) xs.length xs.length xs.length ys5 ys8 HS5.out.len w8 (HS5.out.symm.trans HS8.out) HO5_8.out HO8_8.out (HS5.out.fits HF.out)).mono ?_
  rintro e w9 ⟨rfl, hb⟩
  have HB9 := Lib.hid (below_next HB8.out hb)
  have HO6_9 := Lib.hid (HO6_8.out.next hb)
  clear hb
  go_wp2_with fail
  refine (toItemS_c P' c' xs' w9 (HR'.out.next HB9.out) HF'.out).mono ?_
  rintro e w10 ⟨rfl, ⟨ys10, g10, G10, hs, ho⟩, hb⟩
  have HB10 := Lib.hid (below_next HB9.out hb)
  have HS10 := Lib.hid hs
  have HO10_10 := Lib.hid ho.ims
  have HO6_10 := Lib.hid (HO6_9.out.next hb)
  clear hb hs ho
  go_wp2_with fail
  refine (eqItemS_n (some ⟨w5.heap.size, 0, none⟩) (some ⟨w9.heap.size, 0, none⟩) xs'.length xs'.length xs'.length ys6 ys10 HS6.out.len w10 (HS6.out.symm.trans HS10.out) HO6_10.out HO10_10.out (HS6.out.fits HF'.out)).mono ?_
  rintro e w11 ⟨rfl, hb⟩
  have HB11 := Lib.hid (below_next HB10.out hb)
  clear hb
  go_wp2
  go_ret
  exact ⟨rfl, HB11.out⟩
end Go.Proofs.Ytjnimmjlmfhpdaa
