/- The indices of a family's elements, in the model and in the program. -/
import Derived.Test.YtnlcdfaojcnkpaaDoorBc
import Derived.Test.YtnlcdfaojcnkpaaDoorBe
import Derived.Lib.SmallJoins
import Derived.Deep.AppendLies
namespace Go.Proofs.YtnlcdfaojcnkpaaDoor
open Go.ChangeShapes Go.WideShapes Go.ChangeAt Go.RowKit Go.PlainAid Go.Sort
set_option linter.unusedVariables false

theorem one_news {W : World} {p : Addr} {x : Value} (h : W.cell? p = some x) : ∀ j u, [x][j]? = some u → W.cell? (p.add j) = some u := fun j u hj => by
  match j, hj with
  | 0, hj =>
    simp at hj
    subst hj
    simpa [Addr.add] using h
theorem flatMap_int (xs : List Int) : xs.flatMap Flat.cells = xs.map (Value.int .i64) := by
  induction xs with
  | nil => rfl
  | cons x r ih => rw [List.flatMap_cons, ih]; rfl
theorem own_row {w : World} {B : Nat} {v : Value} (xs : List Int) (h : w.ownsRow B 3 1 v xs.length (xs.map (Value.int .i64))) : ∃ A c, v = .slice A xs.length c ∧ Owned (fun i => B ≤ i) w A xs := by
  rcases Joins.ownsRow_forms h with ⟨rfl, h0⟩ | ⟨g, cap, rfl⟩
  · obtain rfl : xs = [] := List.eq_nil_of_length_eq_zero h0
    exact ⟨none, 0, rfl, Owned.nil _ _ _⟩
  · refine ⟨some ⟨g, 0, none⟩, cap, rfl, fun _ => ⟨g, 0, rfl, (h.lt g rfl).1, (h.lt g rfl).2, own_of_row (α := Int) (cap := cap) (e := 3) (base := B) xs ?_⟩⟩
    rw [flatMap_int]
    exact h
def famTo (xs : List El) (f : Int) : Nat → List Int
  | 0 => []
  | k + 1 => if (it xs k).fam = f then famTo xs f k ++ [(k : Int)] else famTo xs f k
theorem famTo_hit {xs : List El} {f : Int} {k : Nat} (h : (it xs k).fam = f) : famTo xs f (k + 1) = famTo xs f k ++ [(k : Int)] := by simp [famTo, h]
theorem famTo_miss {xs : List El} {f : Int} {k : Nat} (h : ¬ (it xs k).fam = f) : famTo xs f (k + 1) = famTo xs f k := by simp [famTo, h]
theorem famTo_len (xs : List El) (f : Int) : ∀ k, (famTo xs f k).length ≤ k
  | 0 => Nat.le_refl _
  | k + 1 => by
    have := famTo_len xs f k
    by_cases h : (it xs k).fam = f
    · rw [famTo_hit h, List.length_append]
      simp
      omega
    · rw [famTo_miss h]
      omega
theorem famTo_mem (xs : List El) (f : Int) : ∀ k i, i ∈ famTo xs f k → 0 ≤ i ∧ i < k
  | 0, i, h => by simp [famTo] at h
  | k + 1, i, h => by
    have ih := famTo_mem xs f k
    by_cases e : (it xs k).fam = f
    · rw [famTo_hit e] at h
      rcases List.mem_append.1 h with h | h
      · have := ih i h
        omega
      · rw [List.mem_singleton] at h
        omega
    · rw [famTo_miss e] at h
      have := ih i h
      omega
def AskOk (x : Cd) (f : Int) : Prop := CdOk x ∧ 0 ≤ f ∧ f ≤ 4
noncomputable def famR (x : Cd) (f : Int) : List Int := @ite _ (AskOk x f) (Classical.propDecidable _) (famTo x.els f x.els.length) []
theorem famR_yes {x : Cd} {f : Int} (h : AskOk x f) : famR x f = famTo x.els f x.els.length := by unfold famR; exact @if_pos _ (Classical.propDecidable _) h _ _ _
theorem famR_no {x : Cd} {f : Int} (h : ¬ AskOk x f) : famR x f = [] := by unfold famR; exact @if_neg _ (Classical.propDecidable _) h _ _ _

end Go.Proofs.YtnlcdfaojcnkpaaDoor
