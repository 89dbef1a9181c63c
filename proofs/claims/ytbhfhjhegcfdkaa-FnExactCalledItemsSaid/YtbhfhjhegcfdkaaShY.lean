/- Lists of pairs as answers: the same, and small. -/
import Derived.Test.YtbhfhjhegcfdkaaShV
import Derived.Test.YtbhfhjhegcfdkaaShX
namespace Go.Proofs.Ytbhfhjhegcfdkaa
open Go.ChangeShapes Go.WideShapes Go.ChangeAt Go.RowKit
set_option linter.unusedVariables false

/-- What a list of pairs holds. -/
structure Prs (ps : List (List Int)) (y : Rw (Rw Int)) : Prop where
  len : y.xs.length = ps.length
  val : ∀ k, k < ps.length → (it y.xs k).xs = it ps k
theorem PairsAns.prs {ps : List (List Int)} {w w' : World} {y : Rw (Rw Int)} (h : PairsAns ps w w' y) : Prs ps y := ⟨h.len, h.val⟩
/-- Few pairs. -/
structure Few (ps : List (List Int)) : Prop where
  len : ps.length ≤ 60
  two : ∀ k, k < ps.length → (it ps k).length ≤ 2
theorem prs_eqv {ps : List (List Int)} {y z : Rw (Rw Int)} (h : Prs ps y) (k : Prs ps z) : Nst.Eqv y z :=
  ⟨by rw [h.len, k.len], fun i hi => by
    have hi' : i < ps.length := by rw [← h.len]; exact hi
    show (it z.xs i).xs = (it y.xs i).xs
    rw [h.val i hi', k.val i hi']⟩
theorem prs_fit {ps : List (List Int)} {y : Rw (Rw Int)} (h : Prs ps y) (hf : Few ps) : NFit y := by
  show y.xs.length + sumTo (fun i => (it y.xs i).xs.length) y.xs.length ≤ 1048576
  have h1 : ∀ n, n ≤ y.xs.length → sumTo (fun i => (it y.xs i).xs.length) n ≤ 2 * n := fun n hn => by
    induction n with
    | zero => exact Nat.le_refl _
    | succ n ih =>
      have h2 := ih (by omega)
      have h3 : (it y.xs n).xs.length ≤ 2 := by
        rw [h.val n (by rw [← h.len]; omega)]
        exact hf.two n (by rw [← h.len]; omega)
      simp only [sumTo]
      omega
  have h4 := h1 _ (Nat.le_refl _)
  have h5 := hf.len
  have h6 := h.len
  omega
theorem plJ_two {D : Nat → Nat → Bool} {i : Nat} : ∀ n, ∀ p ∈ plJ D i n, p.length = 2
  | 0, p, hp => absurd hp (by simp [plJ])
  | n + 1, p, hp => by
    rw [plJ] at hp
    split at hp
    · rcases List.mem_append.1 hp with h | h
      · exact plJ_two n p h
      · obtain rfl : p = [(i : Int), (n : Int)] := by simpa using h
        rfl
    · exact plJ_two n p hp
theorem plI_two {n : Nat → Nat} {D : Nat → Nat → Bool} : ∀ m, ∀ p ∈ plI n D m, p.length = 2
  | 0, p, hp => absurd hp (by simp [plI])
  | m + 1, p, hp => by
    rw [plI] at hp
    rcases List.mem_append.1 hp with h | h
    · exact plI_two m p h
    · exact plJ_two _ p h
theorem it_in {ps : List (List Int)} {k : Nat} (hk : k < ps.length) : it ps k ∈ ps := List.mem_of_getElem? (it_get ps k hk)
theorem opL_few (x : Sh) : Few (opL x) := ⟨opL_len x, fun k hk => by
  have hm := it_in hk
  by_cases h : ShOk x
  · rw [opL_yes h] at hm ⊢
    rw [plI_two _ _ hm]
    exact Nat.le_refl _
  · rw [opL_no h] at hk
    exact absurd hk (by simp)⟩
theorem ShBox.only {S : Nat → Prop} {w w' : World} {b : Nat} {x : Sh} (h : ShBox w b x) (ho : Only S w w') (hn : ¬ S b) : ShBox w' b x := ⟨Nat.lt_of_lt_of_le h.lt ho.size, h.mem.only ho h.lt hn⟩
end Go.Proofs.Ytbhfhjhegcfdkaa
