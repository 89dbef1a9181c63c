/- CallOf of the program. -/
import Derived.Test.YtbhfhjhegcfdkaaShM
namespace Go.Proofs.Ytbhfhjhegcfdkaa
open Go.ChangeShapes Go.WideShapes Go.ChangeAt Go.RowKit Go.Lib Go.Proofs
set_option linter.unusedVariables false

theorem it_out {α : Type} [Inhabited α] {xs : List α} {i : Nat} (h : xs.length ≤ i) : it xs i = default := by
  unfold it
  rw [List.getD_eq_getElem?_getD, List.getElem?_eq_none h]
  rfl
theorem neqv_it {α : Type} [Flat α] [Nst α] {rs ss : List (Rw α)} (h : NEqv rs ss) (i : Nat) : Nst.Eqv (it rs i) (it ss i) := by
  rcases Nat.lt_or_ge i rs.length with hi | hi
  · exact h.each i hi
  · rw [it_out hi, it_out (by rw [h.len]; exact hi)]
    exact Nst.eqv_refl _
theorem vt_same {V U : Rw (Rw (Rw Int))} (h : Nst.Eqv V U) (k i j : Nat) : vt U k i j = vt V k i j := by
  have h1 : Nst.Eqv (it V.xs k) (it U.xs k) := neqv_it (show NEqv V.xs U.xs from h) k
  have h2 : Nst.Eqv (it (it V.xs k).xs i) (it (it U.xs k).xs i) := neqv_it (show NEqv (it V.xs k).xs (it U.xs k).xs from h1) i
  have h3 : (it (it U.xs k).xs i).xs = (it (it V.xs k).xs i).xs := h2
  unfold vt
  rw [h3]
theorem caI_same {x y : Sh} (h : ShSame x y) (i j : Nat) : caI y i j = caI x i j := by
  unfold caI
  rw [h.re, show (fun k => vt y.V k i j) = (fun k => vt x.V k i j) from funext fun k => vt_same h.vo k i j]
structure CoOk (x : Sh) (i n : Int) : Prop where
  ok : ShOk x
  nm : NmAt x.l i n
noncomputable def coI (x : Sh) (i n : Int) : Int := @ite _ (CoOk x i n) (Classical.propDecidable _) (caI x i.toNat n.toNat) (-1)
theorem coI_yes {x : Sh} {i n : Int} (h : CoOk x i n) : coI x i n = caI x i.toNat n.toNat := @if_pos _ (Classical.propDecidable _) h _ _ _
theorem coI_no {x : Sh} {i n : Int} (h : ¬ CoOk x i n) : coI x i n = -1 := @if_neg _ (Classical.propDecidable _) h _ _ _
theorem coI_same {x y : Sh} (h : ShSame x y) (i n : Int) : coI y i n = coI x i n := by
  by_cases k : CoOk x i n
  · rw [coI_yes k, coI_yes (⟨k.ok.same h, k.nm.same h.its⟩ : CoOk y i n), caI_same h]
  · rw [coI_no k, coI_no (fun q : CoOk y i n => k ⟨q.ok.same h.symm, q.nm.same h.its.symm⟩)]
theorem ansC_no : ansC (-1) = .tuple #[.int .i64 0, .bool false] := rfl
theorem coA_no {x : Sh} {i n : Int} (h : ¬ CoOk x i n) : ansC (coI x i n) = .tuple #[.int .i64 0, .bool false] := by
  rw [coI_no h]
  rfl
theorem ansC_form (c : Int) : ∃ (a : Int) (b : Bool), ansC c = .tuple #[.int .i64 a, .bool b] := ⟨_, _, rfl⟩
theorem nmAt_nat {l : List Im} {i n : Int} (h : NmAt l i n) : ∃ a b : Nat, i = (a : Int) ∧ n = (b : Int) ∧ a < l.length ∧ b < (it l a).ns.length := by
  have h1 := h.i0
  have h2 := h.n0
  have h3 := h.i1
  have h4 := h.n1
  exact ⟨i.toNat, n.toNat, by omega, by omega, by omega, by omega⟩
end Go.Proofs.Ytbhfhjhegcfdkaa
