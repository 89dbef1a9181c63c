/- BrokenRules and IsProgramme, in the model and in the program. -/
import Derived.Test.YtnlcdfaojcnkpaaDoorBh
namespace Go.Proofs.YtnlcdfaojcnkpaaDoor
open Go.ChangeShapes Go.WideShapes Go.ChangeAt Go.RowKit Go.PlainAid
set_option linter.unusedVariables false

/-- The first k rules that do not hold. -/
noncomputable def brk (x : Cd) (xs : List Im) : Nat → List Int
  | 0 => []
  | k + 1 => @ite _ (RuleP x xs (k + 1)) (Classical.propDecidable _) (brk x xs k) (brk x xs k ++ [(k : Int) + 1])
theorem brk_yes {x : Cd} {xs : List Im} {k : Nat} (h : RuleP x xs (k + 1)) : brk x xs (k + 1) = brk x xs k := by rw [brk]; exact @if_pos _ (Classical.propDecidable _) h _ _ _
theorem brk_no {x : Cd} {xs : List Im} {k : Nat} (h : ¬ RuleP x xs (k + 1)) : brk x xs (k + 1) = brk x xs k ++ [(k : Int) + 1] := by rw [brk]; exact @if_neg _ (Classical.propDecidable _) h _ _ _
theorem brk_len (x : Cd) (xs : List Im) : ∀ k, (brk x xs k).length ≤ k
  | 0 => Nat.le_refl _
  | k + 1 => by
    have := brk_len x xs k
    by_cases h : RuleP x xs (k + 1)
    · rw [brk_yes h]; omega
    · rw [brk_no h, List.length_append]; simp; omega
theorem brk_none (x : Cd) (xs : List Im) : ∀ k, ((brk x xs k).length = 0 ↔ ∀ j, j < k → RuleP x xs (j + 1))
  | 0 => ⟨fun _ j hj => absurd hj (by omega), fun _ => rfl⟩
  | k + 1 => by
    by_cases h : RuleP x xs (k + 1)
    · rw [brk_yes h, brk_none x xs k]
      exact ⟨fun q j hj => by
        rcases Nat.lt_or_ge j k with h' | h'
        · exact q j h'
        · obtain rfl : j = k := by omega
          exact h, fun q j hj => q j (by omega)⟩
    · rw [brk_no h, List.length_append]
      exact ⟨fun q => by simp at q, fun q => absurd (q k (by omega)) h⟩
theorem flatMap_int (xs : List Int) : xs.flatMap Flat.cells = xs.map (Value.int .i64) := by
  induction xs with
  | nil => rfl
  | cons x r ih =>
    rw [List.flatMap_cons, List.map_cons, ih]
    rfl
theorem int_ones (xs : List Int) : ∀ u ∈ xs.map (Value.int .i64), u.oneCell' = true := fun u hu => by
  obtain ⟨x, _, rfl⟩ := List.mem_map.1 hu
  rfl
theorem int_news {W : World} {b : Nat} {v : Int} (h : W.cell? ⟨b, 0, none⟩ = some (.int .i64 v)) : ∀ j u, ([v].map (Value.int .i64))[j]? = some u → W.cell? ((⟨b, 0, none⟩ : Addr).add j) = some u := fun j u hj => by
  match j, hj with
  | 0, hj => obtain rfl := Option.some.inj hj; exact h
/-- The answer of BrokenRules. -/
noncomputable def bfF (x : Cd) (xs : List Im) : List Int := @ite _ (PgAsk x xs) (Classical.propDecidable _) (brk x xs 8) []
theorem bfF_yes {x : Cd} {xs : List Im} (h : PgAsk x xs) : bfF x xs = brk x xs 8 := by unfold bfF; exact @if_pos _ (Classical.propDecidable _) h _ _ _
theorem bfF_no {x : Cd} {xs : List Im} (h : ¬ PgAsk x xs) : bfF x xs = [] := by unfold bfF; exact @if_neg _ (Classical.propDecidable _) h _ _ _
theorem bfF_len (x : Cd) (xs : List Im) : (bfF x xs).length ≤ 1048576 := by
  by_cases h : PgAsk x xs
  · rw [bfF_yes h]
    have := brk_len x xs 8
    omega
  · rw [bfF_no h]
    simp
/-- A programme. -/
structure PgOk (x : Cd) (xs : List Im) : Prop where
  ask : PgAsk x xs
  all : ∀ j, j < 8 → RuleP x xs (j + 1)
theorem pgOk_iff {x : Cd} {xs : List Im} (h : PgAsk x xs) : (brk x xs 8).length = 0 ↔ PgOk x xs := ⟨fun q => ⟨h, (brk_none x xs 8).1 q⟩, fun q => (brk_none x xs 8).2 q.all⟩
theorem own_formI {w : World} {B : Nat} {e : TypeId} {v : Value} (ys : List Int) (h : w.ownsRow B e 1 v ys.length (ys.map (Value.int .i64))) : ∃ R d, v = .slice R ys.length d ∧ Owned (fun i => B ≤ i ∧ i < w.heap.size) w R ys := by
  rcases h.2 with ⟨hv, h0⟩ | ⟨g, cap, cur, rfl, h3, h4, h5⟩
  · exact ⟨none, 0, by rw [hv, h0], fun hp => absurd hp (by omega)⟩
  · have hlt := h.lt g rfl
    exact ⟨some ⟨g, 0, none⟩, cap, rfl, fun _ => ⟨g, 0, rfl, ⟨hlt.1, hlt.2⟩, hlt.2, own_of_row (α := Int) (cap := cap) (e := e) (base := B) ys (by rw [flatMap_int]; exact h)⟩⟩

/-- The answer of IsProgramme. -/
noncomputable def ipV (x : Cd) (xs : List Im) : Value := .tuple #[.bool (pB (PgOk x xs)), .bool (pB (PgAsk x xs))]
theorem ipV_form (x : Cd) (xs : List Im) : ∃ p q : Bool, ipV x xs = .tuple #[.bool p, .bool q] := ⟨_, _, rfl⟩
end Go.Proofs.YtnlcdfaojcnkpaaDoor
