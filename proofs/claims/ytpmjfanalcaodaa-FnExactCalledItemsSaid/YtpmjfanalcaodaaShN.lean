/- CallOf of the program. -/
import Derived.Test.YtpmjfanalcaodaaShM
namespace Go.Proofs.Ytpmjfanalcaodaa
open Go.ChangeShapes Go.WideShapes Go.ChangeAt Go.RowKit Go.Lib Go.Proofs
set_option linter.unusedVariables false

theorem it_out {α : Type} [Inhabited α] {xs : List α} {i : Nat} (h : xs.length ≤ i) : it xs i = default := by
  unfold it
  rw [List.getD_eq_getElem?_getD, List.getElem?_eq_none h]
  rfl
theorem neqv_it {α : Type} [Flat α] [Nst α] {rs ss : List (Rw α)} (h : NEqv rs ss) (i : Nat) : Nst.Eqv (it rs i) (it ss i) := by
  rcases Nat.lt_or_ge i rs.length with hi | hi
  · exact h.each i hi
  · rw [it_out hi, it_out (by rw [h.len]; exact hi)]
    exact Nst.eqv_refl _
theorem vt_same {V U : Rw (Rw (Rw Int))} (h : Nst.Eqv V U) (k i j : Nat) : vt U k i j = vt V k i j := by
  have h1 : Nst.Eqv (it V.xs k) (it U.xs k) := neqv_it (show NEqv V.xs U.xs from h) k
  have h2 : Nst.Eqv (it (it V.xs k).xs i) (it (it U.xs k).xs i) := neqv_it (show NEqv (it V.xs k).xs (it U.xs k).xs from h1) i
  have h3 : (it (it U.xs k).xs i).xs = (it (it V.xs k).xs i).xs := h2
  unfold vt
  rw [h3]
theorem caI_same {x y : Sh} (h : ShSame x y) (i j : Nat) : caI y i j = caI x i j := by
  unfold caI
  rw [h.re, show (fun k => vt y.V k i j) = (fun k => vt x.V k i j) from funext fun k => vt_same h.vo k i j]
structure CoOk (x : Sh) (i n : Int) : Prop where
  ok : ShOk x
  nm : NmAt x.l i n
noncomputable def coI (x : Sh) (i n : Int) : Int := @ite _ (CoOk x i n) (Classical.propDecidable _) (caI x i.toNat n.toNat) (-1)
theorem coI_yes {x : Sh} {i n : Int} (h : CoOk x i n) : coI x i n = caI x i.toNat n.toNat := @if_pos _ (Classical.propDecidable _) h _ _ _
theorem coI_no {x : Sh} {i n : Int} (h : ¬ CoOk x i n) : coI x i n = -1 := @if_neg _ (Classical.propDecidable _) h _ _ _
theorem coI_same {x y : Sh} (h : ShSame x y) (i n : Int) : coI y i n = coI x i n := by
  by_cases k : CoOk x i n
  · rw [coI_yes k, coI_yes (⟨k.ok.same h, k.nm.same h.its⟩ : CoOk y i n), caI_same h]
  · rw [coI_no k, coI_no (fun q : CoOk y i n => k ⟨q.ok.same h.symm, q.nm.same h.its.symm⟩)]
theorem ansC_no : ansC (-1) = .tuple #[.int .i64 0, .bool false] := rfl
theorem coA_no {x : Sh} {i n : Int} (h : ¬ CoOk x i n) : ansC (coI x i n) = .tuple #[.int .i64 0, .bool false] := by
  rw [coI_no h]
  rfl
theorem ansC_form (c : Int) : ∃ (a : Int) (b : Bool), ansC c = .tuple #[.int .i64 a, .bool b] := ⟨_, _, rfl⟩
theorem nmAt_nat {l : List Im} {i n : Int} (h : NmAt l i n) : ∃ a b : Nat, i = (a : Int) ∧ n = (b : Int) ∧ a < l.length ∧ b < (it l a).ns.length := by
  have h1 := h.i0
  have h2 := h.n0
  have h3 := h.i1
  have h4 := h.n1
  exact ⟨i.toNat, n.toNat, by omega, by omega, by omega, by omega⟩
set_option maxHeartbeats 4000000 in
theorem iCallOf_any (x : Sh) (i n : Int) (w : World) (hr : ShIn w w.heap.size x) (hl : ShFits x) :
    Calls Try.prog 29 #[x.val, .int .i64 i, .int .i64 n] w fun e w' => e = .returned (ansC (coI x i n)) ∧ Below w.heap.size w w' := by
  have hb0 := below_alloc w (.cells #[.slice x.P x.l.length x.c, .slice x.V.A x.V.xs.length x.V.c, .slice x.R x.rv.length x.e] 32)
  have HR := Lib.hid (hr.next hb0)
  have HX := Lib.hid (imMem_new w _ 32 rfl (.slice x.P x.l.length x.c) (.slice x.V.A x.V.xs.length x.V.c) (.slice x.R x.rv.length x.e))
  have hsW : w.heap.size < (w.alloc (.cells #[.slice x.P x.l.length x.c, .slice x.V.A x.V.xs.length x.V.c, .slice x.R x.rv.length x.e] 32)).heap.size := by simp
  have HB0 := Lib.hid hb0
  have HF := Lib.hid hl
  clear hr hl hb0
  unfold Sh.val
  go_enter Try.func29, Try.ntmps29
  go_wp2_with fail
  generalize World.alloc w _ = W at HR HX HB0 hsW ⊢
  have HC := Lib.hid (iIsSheet_any x W HR.out HF.out)
  by_cases h1 : ShOk x
  rotate_left
  · rw [pB_no h1] at HC
    have HV := Lib.hid (coA_no (fun hh : CoOk x i n => h1 hh.ok))
    clear h1
    refine HC.out.mono ?_
    rintro e w1 ⟨rfl, hb1⟩
    have HB1 := Lib.hid (below_next HB0.out hb1)
    clear hb1
    go_wp2
    go_returns
    exact ⟨by rw [HV.out]; try rfl, HB1.out⟩
  rw [pB_yes h1] at HC
  have H1 := Lib.hid h1
  clear h1
  refine HC.out.mono ?_
  rintro e w1 ⟨rfl, hb1⟩
  have HB1 := Lib.hid (below_next HB0.out hb1)
  have HX1 := Lib.hid (HX.out.below hb1 hsW)
  have HR1 := Lib.hid (HR.out.next hb1)
  clear hb1 HC
  obtain ⟨x0, x1, x2, xf⟩ := HX1.out
  have HC := Lib.hid (hasNameAt_any x.P x.c x.l i n w1 HR1.out.its HF.out.its)
  by_cases h2 : NmAt x.l i n
  rotate_left
  · rw [pB_no h2] at HC
    have HV := Lib.hid (coA_no (fun hh : CoOk x i n => h2 hh.nm))
    clear h2
    go_wp2_with (go_at_call 77; refine HC.out.mono ?_; rintro e w2 ⟨rfl, rfl⟩)
    go_returns
    exact ⟨by rw [HV.out]; try rfl, HB1.out⟩
  rw [pB_yes h2] at HC
  have HV := Lib.hid (coI_yes ⟨H1.out, h2⟩)
  obtain ⟨a, b, rfl, rfl, ha, hb⟩ := nmAt_nat h2
  clear h2
  obtain ⟨p, q, hpq⟩ := ansC_form (caI x a b)
  have HPQ := Lib.hid hpq
  have HCI := Lib.hid (callIn_any x a b w1 HR1.out HF.out H1.out ha hb)
  clear hpq
  go_wp2_with (first
    | (go_at_call 77; refine HC.out.mono ?_; rintro e w2 ⟨rfl, rfl⟩)
    | (go_at_call 81; refine HCI.out.mono ?_; rintro e w3 ⟨rfl, hb3⟩; rw [HPQ.out]; have HB3 := Lib.hid (below_next HB1.out hb3); clear hb3))
  go_returns
  exact ⟨by rw [HV.out]; simp only [Int.toNat_natCast]; rw [HPQ.out]; try rfl, HB3.out⟩
end Go.Proofs.Ytpmjfanalcaodaa
