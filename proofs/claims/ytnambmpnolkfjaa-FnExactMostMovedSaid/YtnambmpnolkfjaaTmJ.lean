/- MeanRange and MostMoved, in the program and in its model. -/
import Derived.Test.YtnambmpnolkfjaaTmI
namespace Go.Proofs.Ytnambmpnolkfjaa.One
open Go.ChangeShapes Go.WideShapes Go.ChangeAt Go.RowKit Go.Lib Go.Proofs
set_option linter.unusedVariables false

/-- The greatest difference. -/
def mmV (xs : List Int) (k u v : Int) : Int := max (tmS xs - tmS (xs.set k.toNat u)) (tmS (xs.set k.toNat v) - tmS xs)
theorem absI_nat (x : Int) : absI x = (x.natAbs : Int) := by unfold absI; split <;> omega
theorem mm_abs {xs : List Int} {k u v : Int} (h : TmAsked xs k u v) : max ((tmS xs - tmS (xs.set k.toNat u)).natAbs : Int) ((tmS (xs.set k.toNat v) - tmS xs).natAbs : Int) = mmV xs k u v := by
  rw [← absI_nat, ← absI_nat]
  exact most_moved (tmS_mono xs k.toNat u v (by have := h.has.lo; have := h.has.hi; omega) h.mid)
theorem l1Most_any (a b : Int) (w : World) : Calls Try.prog 71 #[.int .i64 a, .int .i64 b] w fun e w' => e = .returned (.int .i64 (max a b)) ∧ w' = w := by
  by_cases h : b < a
  · have HE := Lib.hid (show max a b = a by omega)
    go_enter Try.func71, Try.ntmps71
    go_wp2
    go_ret
    rw [HE.out]
    exact ⟨rfl, rfl⟩
  · have HE := Lib.hid (show max a b = b by omega)
    go_enter Try.func71, Try.ntmps71
    go_wp2
    go_ret
    rw [HE.out]
    exact ⟨rfl, rfl⟩
structure AskBd (xs : List Int) (k u v : Int) : Prop where
  okU : TmOk (xs.set k.toNat u)
  okV : TmOk (xs.set k.toNat v)
  s0 : -9000 ≤ tmS xs
  s1 : tmS xs ≤ 9000
  n0 : 1 ≤ tmN xs
  n1 : tmN xs ≤ 9
  u0 : -9000 ≤ tmS (xs.set k.toNat u)
  u1 : tmS (xs.set k.toNat u) ≤ 9000
  v0 : -9000 ≤ tmS (xs.set k.toNat v)
  v1 : tmS (xs.set k.toNat v) ≤ 9000
theorem ask_bd {xs : List Int} {k u v : Int} (h : TmAsked xs k u v) : AskBd xs k u v := by
  have h1 := h.lo
  have h2 := h.mid
  have h3 := h.hi
  have o1 := set_ok h.has.ok k.toNat u (by omega) (by omega)
  have o2 := set_ok h.has.ok k.toNat v (by omega) (by omega)
  obtain ⟨b1, b2, b3, b4⟩ := tm_bd h.has.ok
  obtain ⟨d1, d2, _, _⟩ := tm_bd o1
  obtain ⟨e1, e2, _, _⟩ := tm_bd o2
  exact ⟨o1, o2, b1, b2, b3, b4, d1, d2, e1, e2⟩
theorem mm_bd {xs : List Int} {k u v : Int} (h : TmAsked xs k u v) : -20000 ≤ mmV xs k u v ∧ mmV xs k u v ≤ 20000 := by
  obtain ⟨_, _, s0, s1, n0, n1, u0, u1, v0, v1⟩ := ask_bd h
  unfold mmV
  omega
set_option maxHeartbeats 2000000 in
theorem iMeanRange_any (A : Option Addr) (c : Nat) (xs : List Int) (k u v : Int) (w : World) (hr : Ints w w.heap.size A xs) (hl : xs.length ≤ 1048576) :
    Calls Try.prog 36 #[.slice A xs.length c, .int .i64 k, .int .i64 u, .int .i64 v] w fun e w' => e = .returned (.tuple #[.int .i64 (sel (TmAsked xs k u v) (lowA (tmS (xs.set k.toNat u)) (tmN xs : Nat))), .int .i64 (sel (TmAsked xs k u v) (lowB (tmS (xs.set k.toNat u)) (tmN xs : Nat))), .int .i64 (sel (TmAsked xs k u v) (lowA (tmS (xs.set k.toNat v)) (tmN xs : Nat))), .int .i64 (sel (TmAsked xs k u v) (lowB (tmS (xs.set k.toNat v)) (tmN xs : Nat))), .bool (pB (TmAsked xs k u v))]) ∧ Below w.heap.size w w' := by
  have HC := Lib.hid (sumRange_any A c xs k u v w hr hl)
  clear hr
  by_cases h : TmAsked xs k u v
  · rw [sel_yes h, sel_yes h, sel_yes h, pB_yes h] at HC
    rw [sel_yes h, sel_yes h, sel_yes h, sel_yes h, pB_yes h]
    obtain ⟨_, _, s0, s1, n0, n1, u0, u1, v0, v1⟩ := ask_bd h
    clear h
    go_enter Try.func36, Try.ntmps36
    go_wp2_with fail
    refine HC.out.mono ?_
    rintro e w1 ⟨rfl, hb1⟩
    have HB1 := Lib.hid hb1
    clear hb1
    go_wp2_with (go_at_call 70; with_reducible refine (reduced_any _ _ _ (by omega) (by omega) (by omega) (by omega)).mono ?_; rintro e w4 ⟨rfl, n, rfl⟩)
    go_returns
    exact ⟨rfl, Below_then HB1.out (by first | exact below_drewN _ _ | exact (below_drewN _ _).trans (below_drewN _ _))⟩
  · rw [sel_no h, sel_no h, sel_no h, pB_no h] at HC
    rw [sel_no h, sel_no h, sel_no h, sel_no h, pB_no h]
    clear h
    go_enter Try.func36, Try.ntmps36
    go_wp2_with fail
    refine HC.out.mono ?_
    rintro e w1 ⟨rfl, hb1⟩
    have HB1 := Lib.hid hb1
    clear hb1
    go_wp2
    go_returns
    exact ⟨rfl, HB1.out⟩
set_option maxHeartbeats 2000000 in
theorem iMostMoved_any (A : Option Addr) (c : Nat) (xs : List Int) (k u v : Int) (w : World) (hr : Ints w w.heap.size A xs) (hl : xs.length ≤ 1048576) :
    Calls Try.prog 38 #[.slice A xs.length c, .int .i64 k, .int .i64 u, .int .i64 v] w fun e w' => e = .returned (.tuple #[.int .i64 (sel (TmAsked xs k u v) (lowA (mmV xs k u v) (tmN xs : Nat))), .int .i64 (sel (TmAsked xs k u v) (lowB (mmV xs k u v) (tmN xs : Nat))), .bool (pB (TmAsked xs k u v))]) ∧ Below w.heap.size w w' := by
  have HC := Lib.hid (sumRange_any A c xs k u v w hr hl)
  have HR := Lib.hid hr
  clear hr
  by_cases h : TmAsked xs k u v
  · rw [sel_yes h, sel_yes h, sel_yes h, pB_yes h] at HC
    rw [sel_yes h, sel_yes h, pB_yes h]
    have HO := Lib.hid h.has.ok
    have HM := Lib.hid (show mmV xs k u v = max (tmS xs - tmS (xs.set k.toNat u)) (tmS (xs.set k.toNat v) - tmS xs) from rfl)
    obtain ⟨_, _, s0, s1, n0, n1, u0, u1, v0, v1⟩ := ask_bd h
    clear h
    go_enter Try.func38, Try.ntmps38
    go_wp2_with fail
    refine HC.out.mono ?_
    rintro e w1 ⟨rfl, hb1⟩
    have HB1 := Lib.hid hb1
    have HR1 := Lib.hid (HR.out.next hb1)
    clear hb1
    go_wp2_with fail
    refine (trimmedOf_any A c xs _ HR1.out HO.out).mono ?_
    rintro e w2 ⟨rfl, hb2⟩
    have HB2 := Lib.hid (Below_then HB1.out hb2)
    clear hb2
    go_wp2_with (go_at_call 55; refine (implLowest_yes _ _ _ (by omega) (by omega) (by omega) (by omega)).mono ?_; rintro e w4 ⟨rfl, n, rfl⟩)
    go_ret3
    rw [HM.out]
    exact ⟨rfl, Below_then HB2.out (below_drewN _ _)⟩
  · rw [sel_no h, sel_no h, sel_no h, pB_no h] at HC
    rw [sel_no h, sel_no h, pB_no h]
    clear h
    go_enter Try.func38, Try.ntmps38
    go_wp2_with fail
    refine HC.out.mono ?_
    rintro e w1 ⟨rfl, hb1⟩
    have HB1 := Lib.hid hb1
    clear hb1
    go_wp2
    go_ret3
    exact ⟨rfl, HB1.out⟩
set_option maxHeartbeats 2000000 in
theorem sMeanRange_any (A : Option Addr) (c : Nat) (xs : List Int) (k u v : Int) (w : World) (hr : Ints w w.heap.size A xs) (hl : xs.length ≤ 1048576) :
    Calls Try.prog 35 #[.slice A xs.length c, .int .i64 k, .int .i64 u, .int .i64 v] w fun e w' => e = .returned (.tuple #[.int .i64 (sel (TmAsked xs k u v) (lowA (tmS (xs.set k.toNat u)) (tmN xs : Nat))), .int .i64 (sel (TmAsked xs k u v) (lowB (tmS (xs.set k.toNat u)) (tmN xs : Nat))), .int .i64 (sel (TmAsked xs k u v) (lowA (tmS (xs.set k.toNat v)) (tmN xs : Nat))), .int .i64 (sel (TmAsked xs k u v) (lowB (tmS (xs.set k.toNat v)) (tmN xs : Nat))), .bool (pB (TmAsked xs k u v))]) ∧ Below w.heap.size w w' := by
  have HC := Lib.hid (tmAsked_any A c xs k u v w _ hr hl)
  have HR0 := Lib.hid hr
  clear hr
  by_cases h : TmAsked xs k u v
  · rw [pB_yes h] at HC
    rw [sel_yes h, sel_yes h, sel_yes h, sel_yes h, pB_yes h]
    have HK := Lib.hid h
    obtain ⟨o1, o2, s0, s1, n0, n1, u0, u1, v0, v1⟩ := ask_bd h
    have HM := Lib.hid (mm_abs h)
    have HX := Lib.hid (mm_bd h)
    have HO := Lib.hid h.has.ok
    have HOU := Lib.hid o1
    have HOV := Lib.hid o2
    have hlo := h.has.lo
    have hhi := h.has.hi
    clear h o1 o2
    obtain ⟨j, rfl⟩ : ∃ j : Nat, k = (j : Int) := ⟨k.toNat, by omega⟩
    have hj : j < xs.length := by omega
    rw [Int.toNat_natCast] at *
    go_enter Try.func35, Try.ntmps35
    go_wp2_with fail
    refine HC.out.mono ?_
    rintro e w1 ⟨rfl, hw⟩
    obtain rfl := hw.symm
    clear hw
    have HB0 := Lib.hid (Below.refl w.heap.size w)
    go_wp2_with fail
    refine (tmWith_any A c xs j u _ HR0.out hj hl).mono ?_
    rintro e w1 ⟨g1, cap1, rfl, hrw, hg1, hg2, hb⟩
    have HI := Lib.hid (rowAt_ints hrw hg2)
    have HB1 := Lib.hid (Below_then HB0.out hb)
    have HR1 := Lib.hid (HR0.out.next hb)
    clear hrw hg1 hg2 hb
    go_wp2_with fail
    refine (tmMean_n (some ⟨g1, 0, none⟩) xs.length cap1 _ _ List.length_set HI.out HOU.out).mono ?_
    rintro e w2 ⟨rfl, hb⟩
    have HB2 := Lib.hid (Below_then HB1.out hb)
    have HR2 := Lib.hid (HR1.out.next hb)
    clear hb HI
    rw [tmN_set]
    go_wp2_with fail
    refine (poLowest_any _ _ _ (by omega) (by omega) (by omega) (by omega)).mono ?_
    rintro e w3 ⟨rfl, n3, hw⟩
    have hb := below_drewN (B := w2.heap.size) w2 n3
    rw [← hw] at hb
    clear hw
    have HB3 := Lib.hid (Below_then HB2.out hb)
    have HR3 := Lib.hid (HR2.out.next hb)
    clear hb
    go_wp2_with fail
    refine (tmWith_any A c xs j v _ HR3.out hj hl).mono ?_
    rintro e w4 ⟨g4, cap4, rfl, hrw, hg1, hg2, hb⟩
    have HI := Lib.hid (rowAt_ints hrw hg2)
    have HB4 := Lib.hid (Below_then HB3.out hb)
    have HR4 := Lib.hid (HR3.out.next hb)
    clear hrw hg1 hg2 hb
    go_wp2_with fail
    refine (tmMean_n (some ⟨g4, 0, none⟩) xs.length cap4 _ _ List.length_set HI.out HOV.out).mono ?_
    rintro e w5 ⟨rfl, hb⟩
    have HB5 := Lib.hid (Below_then HB4.out hb)
    have HR5 := Lib.hid (HR4.out.next hb)
    clear hb HI
    rw [tmN_set]
    go_wp2_with fail
    refine (poLowest_any _ _ _ (by omega) (by omega) (by omega) (by omega)).mono ?_
    rintro e w6 ⟨rfl, n6, hw⟩
    have hb := below_drewN (B := w5.heap.size) w5 n6
    rw [← hw] at hb
    clear hw
    have HB6 := Lib.hid (Below_then HB5.out hb)
    have HR6 := Lib.hid (HR5.out.next hb)
    clear hb
    go_wp2
    go_returns
    exact ⟨rfl, HB6.out⟩
  · rw [pB_no h] at HC
    rw [sel_no h, sel_no h, sel_no h, sel_no h, pB_no h]
    clear h
    go_enter Try.func35, Try.ntmps35
    go_wp2_with fail
    refine HC.out.mono ?_
    rintro e w1 ⟨rfl, hw⟩
    obtain rfl := hw.symm
    clear hw
    go_wp2
    go_returns
    exact ⟨rfl, Below.refl _ _⟩
set_option maxHeartbeats 2000000 in
theorem sMostMoved_any (A : Option Addr) (c : Nat) (xs : List Int) (k u v : Int) (w : World) (hr : Ints w w.heap.size A xs) (hl : xs.length ≤ 1048576) :
    Calls Try.prog 37 #[.slice A xs.length c, .int .i64 k, .int .i64 u, .int .i64 v] w fun e w' => e = .returned (.tuple #[.int .i64 (sel (TmAsked xs k u v) (lowA (mmV xs k u v) (tmN xs : Nat))), .int .i64 (sel (TmAsked xs k u v) (lowB (mmV xs k u v) (tmN xs : Nat))), .bool (pB (TmAsked xs k u v))]) ∧ Below w.heap.size w w' := by
  have HC := Lib.hid (tmAsked_any A c xs k u v w _ hr hl)
  have HR0 := Lib.hid hr
  clear hr
  by_cases h : TmAsked xs k u v
  · rw [pB_yes h] at HC
    rw [sel_yes h, sel_yes h, pB_yes h]
    have HK := Lib.hid h
    obtain ⟨o1, o2, s0, s1, n0, n1, u0, u1, v0, v1⟩ := ask_bd h
    have HM := Lib.hid (mm_abs h)
    have HX := Lib.hid (mm_bd h)
    have HO := Lib.hid h.has.ok
    have HOU := Lib.hid o1
    have HOV := Lib.hid o2
    have hlo := h.has.lo
    have hhi := h.has.hi
    clear h o1 o2
    obtain ⟨j, rfl⟩ : ∃ j : Nat, k = (j : Int) := ⟨k.toNat, by omega⟩
    have hj : j < xs.length := by omega
    rw [Int.toNat_natCast] at *
    go_enter Try.func37, Try.ntmps37
    go_wp2_with fail
    refine HC.out.mono ?_
    rintro e w1 ⟨rfl, hw⟩
    obtain rfl := hw.symm
    clear hw
    have HB0 := Lib.hid (Below.refl w.heap.size w)
    go_wp2_with fail
    refine (tmMean_any A c xs _ HR0.out HO.out).mono ?_
    rintro e w1 ⟨rfl, hb⟩
    have HB1 := Lib.hid hb
    have HR1 := Lib.hid (HR0.out.next hb)
    clear hb
    go_wp2_with fail
    refine (tmWith_any A c xs j u _ HR1.out hj hl).mono ?_
    rintro e w2 ⟨g2, cap2, rfl, hrw, hg1, hg2, hb⟩
    have HI := Lib.hid (rowAt_ints hrw hg2)
    have HB2 := Lib.hid (Below_then HB1.out hb)
    have HR2 := Lib.hid (HR1.out.next hb)
    clear hrw hg1 hg2 hb
    go_wp2_with fail
    refine (tmMean_n (some ⟨g2, 0, none⟩) xs.length cap2 _ _ List.length_set HI.out HOU.out).mono ?_
    rintro e w3 ⟨rfl, hb⟩
    have HB3 := Lib.hid (Below_then HB2.out hb)
    have HR3 := Lib.hid (HR2.out.next hb)
    clear hb HI
    rw [tmN_set]
    go_wp2_with fail
    refine (tmWith_any A c xs j v _ HR3.out hj hl).mono ?_
    rintro e w4 ⟨g4, cap4, rfl, hrw, hg1, hg2, hb⟩
    have HI := Lib.hid (rowAt_ints hrw hg2)
    have HB4 := Lib.hid (Below_then HB3.out hb)
    have HR4 := Lib.hid (HR3.out.next hb)
    clear hrw hg1 hg2 hb
    go_wp2_with fail
    refine (tmMean_n (some ⟨g4, 0, none⟩) xs.length cap4 _ _ List.length_set HI.out HOV.out).mono ?_
    rintro e w5 ⟨rfl, hb⟩
    have HB5 := Lib.hid (Below_then HB4.out hb)
    have HR5 := Lib.hid (HR4.out.next hb)
    clear hb HI
    rw [tmN_set]
    go_wp2_with (first | (go_at_call 72; refine (l1Abs_any _ _ (by omega) (by omega)).mono ?_; rintro e w6 ⟨rfl, rfl⟩) | (go_at_call 71; refine (l1Most_any _ _ _).mono ?_; rintro e w6 ⟨rfl, rfl⟩; rw [HM.out]))
    obtain ⟨x0, x1⟩ := HX.out
    refine (poLowest_any _ _ _ (by omega) (by omega) (by omega) (by omega)).mono ?_
    rintro e w7 ⟨rfl, n7, rfl⟩
    go_wp2
    go_ret3
    exact ⟨rfl, Below_then HB5.out (below_drewN _ _)⟩
  · rw [pB_no h] at HC
    rw [sel_no h, sel_no h, pB_no h]
    clear h
    go_enter Try.func37, Try.ntmps37
    go_wp2_with fail
    refine HC.out.mono ?_
    rintro e w1 ⟨rfl, hw⟩
    obtain rfl := hw.symm
    clear hw
    go_wp2
    go_returns
    exact ⟨rfl, Below.refl _ _⟩
end Go.Proofs.Ytnambmpnolkfjaa.One
