/- What the law CleanItems asks of marks and of copies. -/
import Derived.Test.YtjnimmjlmfhpdaaItemQ
import Derived.Test.YtjnimmjlmfhpdaaItemU
namespace Go.Proofs.Ytjnimmjlmfhpdaa
open Go.ChangeShapes Go.WideShapes Go.ChangeAt Go.RowKit
set_option linter.unusedVariables false

theorem clnF_same {xs ys : List Im} (h : SameS xs ys) : SameS (clnF xs) (clnF ys) := by
  by_cases k : ListOk xs
  · rw [clnF_yes k, clnF_yes (k.same h)]
    refine ⟨by rw [List.length_map, List.length_map, h.len], fun i hi => ?_⟩
    rw [List.length_map] at hi
    have he := h.each i hi
    rw [cln_it xs i hi, cln_it ys i (by have := h.len; omega)]
    refine ⟨he.ns, ?_, he.late⟩
    show zer (it ys i).ns.length = zer (it xs i).ns.length
    rw [he.ns]
  · rw [clnF_no k, clnF_no (fun q => k (q.same h.symm))]
    exact SameS.refl _
theorem clnF_fits {xs : List Im} (h : ImsFits xs) : ImsFits (clnF xs) := by
  by_cases k : ListOk xs
  · rw [clnF_yes k]
    refine ⟨by rw [List.length_map]; exact h.len, fun i hi => ?_⟩
    rw [List.length_map] at hi
    rw [cln_it xs i hi]
    refine ⟨(h.each i hi).ns, ?_⟩
    show (zer (it xs i).ns.length).length ≤ 1048576
    rw [zer_len]
    exact (h.each i hi).ns.1
  · rw [clnF_no k]
    exact ⟨by simp, fun i hi => absurd hi (by simp)⟩
theorem markItemS_m (S : Nat → Prop) (P : Option Addr) (c n : Nat) (g : Nat) (G : Nat → Nat) (xs : List Im) (m : Int) (k : Nat) (w : World) (hm : m = (k : Int)) (hn : xs.length = n) (hr : ImsOwn S w P g G xs) (hl : ImsFits xs) (hk : 0 < k) (hk2 : k ≤ 1000000000000) :
    Calls Try.prog 33 #[.slice P n c, .int .i64 m] w fun e w' => e = .returned (.int .i64 ((kAt xs k xs.length : Nat) : Int)) ∧ (∃ ys, Marked xs k xs.length ys ∧ ImsOwn S w' P g G ys) ∧ Only S w w' := by
  subst hm hn
  exact markItemS_any S P c g G xs k w hr hl hk hk2
theorem heldItemS_m (P : Option Addr) (c n : Nat) (xs ys : List Im) (m : Int) (k : Nat) (w : World) (hm : m = (k : Int)) (hn : xs.length = n) (hmk : Marked xs k xs.length ys) (hr : Ims w w.heap.size P ys) (hl : ImsFits xs) (hk : 0 < k) (hk2 : k ≤ 1000000000000) :
    Calls Try.prog 34 #[.slice P n c, .int .i64 m] w fun e w' => e = .returned (.int .i64 ((kAt xs k xs.length : Nat) : Int)) ∧ Below w.heap.size w w' := by
  subst hm hn
  exact heldItemS_any P c xs ys k w hmk hr hl hk hk2
end Go.Proofs.Ytjnimmjlmfhpdaa
