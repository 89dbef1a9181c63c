/- CallOf of the model. -/
import Derived.Test.YtpmjfanalcaodaaShO
namespace Go.Proofs.Ytpmjfanalcaodaa
open Go.ChangeShapes Go.WideShapes Go.ChangeAt Go.RowKit Go.Lib Go.Proofs
set_option linter.unusedVariables false

set_option maxHeartbeats 4000000 in
theorem caHas_any (x : Sh) (i n : Int) (w : World) (hr : ShIn w w.heap.size x) (hl : ShFits x) :
    Calls Try.prog 73 #[x.val, .int .i64 i, .int .i64 n] w fun e w' => e = .returned (.bool (pB (CoOk x i n))) ∧ Below w.heap.size w w' := by
  have hb0 := below_alloc w (.cells #[.slice x.P x.l.length x.c, .slice x.V.A x.V.xs.length x.V.c, .slice x.R x.rv.length x.e] 32)
  have HR := Lib.hid (hr.next hb0)
  have HX := Lib.hid (imMem_new w _ 32 rfl (.slice x.P x.l.length x.c) (.slice x.V.A x.V.xs.length x.V.c) (.slice x.R x.rv.length x.e))
  have hsW : w.heap.size < (w.alloc (.cells #[.slice x.P x.l.length x.c, .slice x.V.A x.V.xs.length x.V.c, .slice x.R x.rv.length x.e] 32)).heap.size := by simp
  have HB0 := Lib.hid hb0
  have HF := Lib.hid hl
  have hll := hl.its.len
  clear hr hl hb0
  unfold Sh.val
  go_enter Try.func73, Try.ntmps73
  go_wp2_with fail
  generalize World.alloc w _ = W at HR HX HB0 hsW ⊢
  have HC := Lib.hid (caGood_any x W HR.out HF.out)
  by_cases h1 : ShOk x
  rotate_left
  · rw [pB_no h1] at HC
    have HV := Lib.hid (pB_no (fun hh : CoOk x i n => h1 hh.ok))
    clear h1
    refine HC.out.mono ?_
    rintro e w1 ⟨rfl, hb1⟩
    have HB1 := Lib.hid (below_next HB0.out hb1)
    clear hb1
    go_wp2
    go_ret
    exact ⟨by rw [HV.out]; rfl, HB1.out⟩
  rw [pB_yes h1] at HC
  have H1 := Lib.hid h1
  clear h1
  refine HC.out.mono ?_
  rintro e w1 ⟨rfl, hb1⟩
  have HB1 := Lib.hid (below_next HB0.out hb1)
  have HX1 := Lib.hid (HX.out.below hb1 hsW)
  have HR1 := Lib.hid (HR.out.next hb1)
  clear hb1 HC
  obtain ⟨x0, x1, x2, xf⟩ := HX1.out
  by_cases h2 : 0 ≤ i ∧ i ≤ (x.l.length : Int) - 1
  rotate_left
  · have HV := Lib.hid (pB_no (fun hh : CoOk x i n => h2 ⟨hh.nm.i0, by have := hh.nm.i1; omega⟩))
    have HC := Lib.hid (pB_no h2)
    clear h2
    go_wp2_with (go_at_call 74; refine (l1InQ _ _ _ _ _ HC.out).mono ?_; rintro e w2 ⟨rfl, rfl⟩)
    go_ret
    exact ⟨by rw [HV.out]; rfl, HB1.out⟩
  have HC := Lib.hid (pB_yes h2)
  obtain ⟨k, rfl⟩ : ∃ k : Nat, i = (k : Int) := ⟨i.toNat, by omega⟩
  have q1 : (0 : Int) ≤ (k : Int) := by omega
  have q2 : (k : Int) < (x.l.length : Int) := by omega
  have hit : k < x.l.length := by omega
  clear h2
  obtain ⟨b, o, hA, hbl, hc⟩ := HR1.out.its.out.im (by omega)
  obtain ⟨c0, c1, c2⟩ := hc k hit
  have hns := (HF.out.its.each k hit).ns.1
  rw [hA] at x0
  clear hc c1 c2
  by_cases h3 : 0 ≤ n ∧ n ≤ ((it x.l k).ns.length : Int) - 1
  · have HV := Lib.hid (pB_yes (⟨H1.out, ⟨q1, q2, h3.1, by have := h3.2; simp only [Int.toNat_natCast]; omega⟩⟩ : CoOk x k n))
    have HC2 := Lib.hid (pB_yes h3)
    clear h3
    go_wp2_with (first | (go_at_call 74; with_reducible refine (l1InQ true (k : Int) 0 ((x.l.length : Int) - 1) _ HC.out).mono ?_; rintro e w2 ⟨rfl, rfl⟩) | (go_at_call 74; refine (l1InQ _ _ _ _ _ HC2.out).mono ?_; rintro e w2 ⟨rfl, rfl⟩))
    go_ret
    exact ⟨by rw [HV.out]; rfl, HB1.out⟩
  · have HV := Lib.hid (pB_no (fun hh : CoOk x k n => h3 ⟨hh.nm.n0, by have := hh.nm.n1; simp only [Int.toNat_natCast] at this; omega⟩))
    have HC2 := Lib.hid (pB_no h3)
    clear h3
    go_wp2_with (first | (go_at_call 74; with_reducible refine (l1InQ true (k : Int) 0 ((x.l.length : Int) - 1) _ HC.out).mono ?_; rintro e w2 ⟨rfl, rfl⟩) | (go_at_call 74; refine (l1InQ _ _ _ _ _ HC2.out).mono ?_; rintro e w2 ⟨rfl, rfl⟩))
    go_ret
    exact ⟨by rw [HV.out]; rfl, HB1.out⟩
set_option maxHeartbeats 4000000 in
theorem sCallOf_any (x : Sh) (i n : Int) (w : World) (hr : ShIn w w.heap.size x) (hl : ShFits x) :
    Calls Try.prog 28 #[x.val, .int .i64 i, .int .i64 n] w fun e w' => e = .returned (ansC (coI x i n)) ∧ Below w.heap.size w w' := by
  have hb0 := below_alloc w (.cells #[.slice x.P x.l.length x.c, .slice x.V.A x.V.xs.length x.V.c, .slice x.R x.rv.length x.e] 32)
  have HR := Lib.hid (hr.next hb0)
  have HX := Lib.hid (imMem_new w _ 32 rfl (.slice x.P x.l.length x.c) (.slice x.V.A x.V.xs.length x.V.c) (.slice x.R x.rv.length x.e))
  have hsW : w.heap.size < (w.alloc (.cells #[.slice x.P x.l.length x.c, .slice x.V.A x.V.xs.length x.V.c, .slice x.R x.rv.length x.e] 32)).heap.size := by simp
  have HB0 := Lib.hid hb0
  have HF := Lib.hid hl
  clear hr hl hb0
  unfold Sh.val
  go_enter Try.func28, Try.ntmps28
  go_wp2_with fail
  generalize World.alloc w _ = W at HR HX HB0 hsW ⊢
  have HC := Lib.hid (caHas_any x i n W HR.out HF.out)
  by_cases h1 : CoOk x i n
  rotate_left
  · rw [pB_no h1] at HC
    have HV := Lib.hid (coA_no h1)
    clear h1
    refine HC.out.mono ?_
    rintro e w1 ⟨rfl, hb1⟩
    have HB1 := Lib.hid (below_next HB0.out hb1)
    clear hb1
    go_wp2
    go_returns
    exact ⟨by rw [HV.out]; try rfl, HB1.out⟩
  rw [pB_yes h1] at HC
  have HV := Lib.hid (coI_yes h1)
  have H1 := Lib.hid h1.ok
  obtain ⟨a, b, rfl, rfl, ha, hb⟩ := nmAt_nat h1.nm
  simp only [Int.toNat_natCast] at HV
  clear h1
  refine HC.out.mono ?_
  rintro e w1 ⟨rfl, hb1⟩
  have HB1 := Lib.hid (below_next HB0.out hb1)
  have HX1 := Lib.hid (HX.out.below hb1 hsW)
  have HR1 := Lib.hid (HR.out.next hb1)
  have hs1 := Nat.lt_of_lt_of_le hsW hb1.size
  clear hb1 HC
  obtain ⟨x0, x1, x2, xf⟩ := HX1.out
  by_cases h2 : caI x a b < 0
  · have HA := Lib.hid (show ansC (caI x a b) = .tuple #[.int .i64 0, .bool false] by unfold ansC; rw [if_pos h2, decide_eq_false (by omega)])
    go_wp2_with (go_at_call 80; refine (caCall_any x a b _ HR1.out HF.out H1.out ha hb).mono ?_; rintro e w2 ⟨rfl, hb2⟩; have HB2 := Lib.hid (below_next HB1.out hb2); clear hb2)
    go_returns
    exact ⟨by rw [HV.out, HA.out]; try rfl, HB2.out⟩
  · have h2' : 0 ≤ caI x a b := by omega
    have HA := Lib.hid (ansC_yes h2')
    clear h2
    go_wp2_with fail
    refine (caCall_any x a b _ HR1.out HF.out H1.out ha hb).mono ?_
    rintro e w2 ⟨rfl, hb2⟩
    have HB2 := Lib.hid (below_next HB1.out hb2)
    have HR2 := Lib.hid (HR1.out.next hb2)
    have hX2 := HX1.out.below hb2 hs1
    clear hb2 x0 x1 x2 xf
    obtain ⟨x0, x1, x2, xf⟩ := hX2
    go_wp2_with (go_at_call 80; refine (caCall_any x a b _ HR2.out HF.out H1.out ha hb).mono ?_; rintro e w3 ⟨rfl, hb3⟩; have HB3 := Lib.hid (below_next HB2.out hb3); clear hb3)
    go_returns
    exact ⟨by rw [HV.out, HA.out]; try rfl, HB3.out⟩
end Go.Proofs.Ytpmjfanalcaodaa
