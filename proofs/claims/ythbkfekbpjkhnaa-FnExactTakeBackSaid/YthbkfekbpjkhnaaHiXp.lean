/- What TakeBack adds, in plain words. -/
import Derived.Test.YthbkfekbpjkhnaaHiW
namespace Go.Proofs.Ythbkfekbpjkhnaa
open Go.ChangeShapes Go.WideShapes Go.ChangeAt Go.RowKit Go.Lib Go.Proofs
set_option linter.unusedVariables false

/-- One more than the place of the last one of the first k changes that is no review; 0 if there is none. -/
def lnK (hs : List Cg) : Nat → Nat
  | 0 => 0
  | k + 1 => if (it hs k).review = false then k + 1 else lnK hs k
theorem lnK_hit {hs : List Cg} {k : Nat} (h : (it hs k).review = false) : lnK hs (k + 1) = k + 1 := if_pos h
theorem lnK_miss {hs : List Cg} {k : Nat} (h : (it hs k).review = true) : lnK hs (k + 1) = lnK hs k := if_neg (by rw [h]; simp)
theorem lnK_skip {hs : List Cg} : ∀ {k m : Nat}, m ≤ k → (∀ j, m ≤ j → j < k → (it hs j).review = true) → lnK hs k = lnK hs m
  | 0, m, hm, _ => by
    obtain rfl : m = 0 := by omega
    rfl
  | k + 1, m, hm, h => by
    rcases Nat.lt_or_ge k m with g | g
    · obtain rfl : m = k + 1 := by omega
      rfl
    · rw [lnK_miss (h k g (by omega))]
      exact lnK_skip g (fun j h1 h2 => h j h1 (by omega))
/-- The change that takes the p-th one back. -/
def tbC (xs : List Im) (hs : List Cg) (t r : Int) (p : Nat) : Cg := ⟨t, r, (it hs p).item, (it hs p).name, mkS xs hs (it hs p).item (it hs p).name p, false⟩
def tbX (xs : List Im) (hs : List Cg) (t r : Int) : Option Cg := match lnK hs hs.length with
  | 0 => none
  | p + 1 => some (tbC xs hs t r p)
theorem tbX_same {xs ys : List Im} (h : SameS xs ys) (hs : List Cg) (t r : Int) : tbX ys hs t r = tbX xs hs t r := by
  unfold tbX tbC
  rcases lnK hs hs.length with _ | p
  · rfl
  · simp only [mkS_same h]
def TbOk (xs : List Im) (hs : List Cg) (t r : Int) : Prop := ∃ x, tbX xs hs t r = some x ∧ AdOk xs hs x
noncomputable def tbF (xs : List Im) (hs : List Cg) (t r : Int) : List Cg := match tbX xs hs t r with
  | none => []
  | some x => adF xs hs x
theorem tbX_none {xs : List Im} {hs : List Cg} (t r : Int) (h : lnK hs hs.length = 0) : tbX xs hs t r = none := by unfold tbX; rw [h]
theorem tbX_some {xs : List Im} {hs : List Cg} (t r : Int) {p : Nat} (h : lnK hs hs.length = p + 1) : tbX xs hs t r = some (tbC xs hs t r p) := by unfold tbX; rw [h]
theorem tbF_none {xs : List Im} {hs : List Cg} {t r : Int} (h : tbX xs hs t r = none) : tbF xs hs t r = [] := by unfold tbF; rw [h]
theorem tbF_some {xs : List Im} {hs : List Cg} {t r : Int} {x : Cg} (h : tbX xs hs t r = some x) : tbF xs hs t r = adF xs hs x := by unfold tbF; rw [h]
theorem tbOk_none {xs : List Im} {hs : List Cg} {t r : Int} (h : tbX xs hs t r = none) : ¬ TbOk xs hs t r := fun ⟨x, h1, _⟩ => by rw [h] at h1; cases h1
theorem tbOk_some {xs : List Im} {hs : List Cg} {t r : Int} {x : Cg} (h : tbX xs hs t r = some x) : pB (TbOk xs hs t r) = pB (AdOk xs hs x) := pB_iff ⟨fun ⟨y, h1, h2⟩ => by
  rw [h] at h1
  obtain rfl := Option.some.inj h1
  exact h2, fun k => ⟨x, h, k⟩⟩
/-- Where there is no history. -/
theorem tbF_no {xs : List Im} {hs : List Cg} (t r : Int) (h : ¬ HiOk xs hs) : tbF xs hs t r = [] ∧ ¬ TbOk xs hs t r := by
  rcases hx : tbX xs hs t r with _ | x
  · exact ⟨tbF_none hx, tbOk_none hx⟩
  · have hn : ¬ AdOk xs hs x := fun k => h k.pre
    refine ⟨by rw [tbF_some hx]; exact adF_no hn, fun ⟨y, h1, h2⟩ => ?_⟩
    rw [hx] at h1
    obtain rfl := Option.some.inj h1
    exact hn h2
theorem tbF_same {xs ys : List Im} (h : SameS xs ys) (hs : List Cg) (t r : Int) : tbF ys hs t r = tbF xs hs t r := by
  unfold tbF
  rw [tbX_same h]
  rcases tbX xs hs t r with _ | x
  · rfl
  · exact adF_same h hs x
theorem tbOk_same {xs ys : List Im} (h : SameS xs ys) (hs : List Cg) (t r : Int) : pB (TbOk ys hs t r) = pB (TbOk xs hs t r) := pB_iff (by
  unfold TbOk
  rw [tbX_same h]
  exact ⟨fun ⟨x, h1, h2⟩ => ⟨x, h1, (adOk_iff h hs x).1 h2⟩, fun ⟨x, h1, h2⟩ => ⟨x, h1, (adOk_iff h hs x).2 h2⟩⟩)
theorem tbF_small (xs : List Im) (hs : List Cg) (t r : Int) (h : hs.length ≤ 1048576) : (tbF xs hs t r).length ≤ 1048576 := by
  rcases hx : tbX xs hs t r with _ | x
  · rw [tbF_none hx]
    simp
  · rw [tbF_some hx]
    exact adF_small xs hs x h
end Go.Proofs.Ythbkfekbpjkhnaa
