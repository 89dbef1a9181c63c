/- What makes a name, an element and a code valid; no program in it. -/
import Derived.Test.YtocjkhfghldnnaaDoorCode
import Derived.PlainAid
namespace Go.Proofs.YtocjkhfghldnnaaDoor
open Go.ChangeShapes Go.WideShapes Go.ChangeAt Go.RowKit Go.PlainAid
set_option linter.unusedVariables false

/-- A proposition as a boolean. -/
noncomputable def pB (p : Prop) : Bool := @decide p (Classical.propDecidable p)
theorem pB_yes {p : Prop} (h : p) : pB p = true := by unfold pB; exact @decide_eq_true p (Classical.propDecidable p) h
theorem pB_no {p : Prop} (h : ¬ p) : pB p = false := by unfold pB; exact @decide_eq_false p (Classical.propDecidable p) h
theorem pB_iff {p q : Prop} (h : p ↔ q) : pB p = pB q := by
  by_cases k : q
  · rw [pB_yes k, pB_yes (h.2 k)]
  · rw [pB_no k, pB_no (fun j => k (h.1 j))]

def LetOk (v : Int) : Prop := 65 ≤ v ∧ v ≤ 90 ∨ 48 ≤ v ∧ v ≤ 57
structure NameOk (s : ByteArray) : Prop where
  lo : 1 ≤ s.size
  hi : s.size ≤ 5
  byte : ∀ i, i < s.size → LetOk (bt s i)
structure ElOk (x : El) : Prop where
  name : NameOk x.name
  fam : 0 ≤ x.fam ∧ x.fam ≤ 4
  lev : 0 ≤ x.lev ∧ x.lev ≤ 4
  base : 1 ≤ x.base ∧ x.base ≤ 2000
/-- The order of strings. -/
def nlt (a b : ByteArray) : Bool := Op.bytesLess a.toList b.toList
structure ElsOk (xs : List El) : Prop where
  lo : 1 ≤ xs.length
  hi : xs.length ≤ 24
  el : ∀ i, i < xs.length → ElOk (it xs i)
  ord : ∀ i, 0 < i → i < xs.length → nlt (it xs (i - 1)).name (it xs i).name = true
structure LimsOk (xs : List Int) : Prop where
  len : xs.length = 5
  lim : ∀ i, i < xs.length → 0 ≤ it xs i ∧ it xs i ≤ 9
structure CdOk (x : Cd) : Prop where
  els : ElsOk x.els
  lims : LimsOk x.lims
  rep : 1 ≤ x.rep ∧ x.rep ≤ 3
  bon : 0 ≤ x.bon ∧ x.bon ≤ 20
  kee : 50 ≤ x.kee ∧ x.kee ≤ 100
  fal : 0 ≤ x.fal ∧ x.fal ≤ 500
theorem El.fit {x : El} (h : ElOk x) : x.name.size ≤ 1048576 := by have := h.name.hi; omega
theorem Cd.fit {x : Cd} (h : CdOk x) : CdFits x := ⟨⟨by have := h.els.hi; omega, fun i hi => El.fit (h.els.el i hi)⟩, by have := h.lims.len; omega⟩
end Go.Proofs.YtocjkhfghldnnaaDoor
