/- Trimmed means in plain words: the numbers in falling and in rising order, the trimmed sum, and what another mark does to it. -/
import Derived.Test.YtnambmpnolkfjaaOneSortM
namespace Go.Proofs.Ytnambmpnolkfjaa.One
set_option linter.unusedVariables false

/-- The numbers in falling order. -/
def dsc (xs : List Int) : List Int := xs.mergeSort (fun a b => decide (b ≤ a))
theorem dsc_sorted (xs : List Int) : SortedOf xs (dsc xs) := by
  refine ⟨List.mergeSort_perm xs _, ?_⟩
  have h := List.pairwise_mergeSort (le := fun a b : Int => decide (b ≤ a)) (by intro a b c h1 h2; simp at *; omega) (by intro a b; simp; omega) xs
  exact h.imp (by simp)
theorem dsc_len (xs : List Int) : (dsc xs).length = xs.length := (dsc_sorted xs).len
theorem dsc_eq {xs ys : List Int} (h : SortedOf xs ys) : ys = dsc xs := h.unique (dsc_sorted xs)
theorem ix_get (xs : List Int) (i : Nat) (h : i < xs.length) : ix xs i = xs[i] := by simp [ix, List.getD_eq_getElem?_getD, List.getElem?_eq_getElem h]
theorem ix_rev (xs : List Int) (i : Nat) (h : i < xs.length) : ix xs.reverse i = ix xs (xs.length - 1 - i) := by
  rw [ix_get _ _ (by simpa using h), ix_get _ _ (by omega), List.getElem_reverse]
/-- The numbers in rising order. -/
def asc (xs : List Int) : List Int := (dsc xs).reverse
theorem asc_len (xs : List Int) : (asc xs).length = xs.length := by simp [asc, dsc_len]
theorem asc_ix (xs : List Int) (i : Nat) (h : i < xs.length) : ix (asc xs) i = ix (dsc xs) (xs.length - 1 - i) := by
  rw [asc, ix_rev _ _ (by rw [dsc_len]; exact h), dsc_len]
theorem asc_perm (xs : List Int) : (asc xs).Perm xs := (List.reverse_perm _).trans (dsc_sorted xs).1
theorem asc_mono (xs : List Int) {i j : Nat} (hij : i < j) (hj : j < xs.length) : ix (asc xs) i ≤ ix (asc xs) j := by
  rw [asc_ix _ _ (by omega), asc_ix _ _ hj]
  exact pairwise_ix (dsc_sorted xs).2 (by omega) (by rw [dsc_len]; omega)
theorem asc_eq {xs ys : List Int} (h : ys.Perm xs) (hs : ∀ i j, i < j → j < ys.length → ix ys i ≤ ix ys j) : ys = asc xs := by
  have : ys.reverse = dsc xs := dsc_eq ⟨(List.reverse_perm _).trans h, by
    rw [List.pairwise_reverse]
    refine List.pairwise_iff_getElem.2 (fun i j hi hj hij => ?_)
    rw [← ix_get _ _ hi, ← ix_get _ _ hj]
    exact hs i j hij hj⟩
  rw [asc, ← this, List.reverse_reverse]
theorem sumTo_sum (xs : List Int) : ∀ k, k ≤ xs.length → sumTo xs k = (xs.take k).sum
  | 0, _ => by simp [sumTo]
  | k + 1, h => by
    rw [sumTo, sumTo_sum xs k (by omega), List.take_succ_eq_append_getElem (by omega), List.sum_append, ix_get _ _ (by omega)]
    simp
theorem perm_sum {xs ys : List Int} (h : xs.Perm ys) : xs.sum = ys.sum := by
  induction h with
  | nil => rfl
  | cons x _ ih => simp [ih]
  | swap x y l => simp; omega
  | trans _ _ ih1 ih2 => exact ih1.trans ih2
theorem sum_asc (xs : List Int) : sumTo (asc xs) xs.length = sumTo xs xs.length := by
  rw [sumTo_sum _ _ (by rw [asc_len]; exact Nat.le_refl _), sumTo_sum _ _ (Nat.le_refl _), List.take_of_length_le (by rw [asc_len]; exact Nat.le_refl _), List.take_length]
  exact perm_sum (asc_perm xs)
/-- Marks. -/
structure TmOk (xs : List Int) : Prop where
  lo : 1 ≤ xs.length
  hi : xs.length ≤ 9
  each : ∀ i, i < xs.length → -1000 ≤ ix xs i ∧ ix xs i ≤ 1000
/-- The trimmed sum, and how many marks it has. -/
def tmS (xs : List Int) : Int := if xs.length < 5 then sumTo xs xs.length else sumTo xs xs.length - ix (dsc xs) 0 - ix (dsc xs) (xs.length - 1)
def tmN (xs : List Int) : Nat := if xs.length < 5 then xs.length else xs.length - 2
/-- Whether the mark at a place of n in rising order counts. -/
def cnts (n i : Nat) : Bool := !(decide (5 ≤ n) && (decide (i = 0) || decide (i = n - 1)))
def pS (l : List Int) (n : Nat) : Nat → Int
  | 0 => 0
  | k + 1 => pS l n k + if cnts n k then ix l k else 0
def pN (n : Nat) : Nat → Nat
  | 0 => 0
  | k + 1 => pN n k + if cnts n k then 1 else 0
theorem cnts_few {n i : Nat} (h : n < 5) : cnts n i = true := by simp [cnts]; omega
theorem cnts_in {n i : Nat} (h1 : 0 < i) (h2 : i < n - 1) : cnts n i = true := by simp [cnts]; omega
theorem cnts_0 {n : Nat} (h : 5 ≤ n) : cnts n 0 = false := by simp [cnts]; omega
theorem cnts_e {n : Nat} (h : 5 ≤ n) : cnts n (n - 1) = false := by simp [cnts]; omega
theorem pS_few (l : List Int) {n : Nat} (h : n < 5) : ∀ k, pS l n k = sumTo l k ∧ pN n k = k
  | 0 => ⟨rfl, rfl⟩
  | k + 1 => by
    have ih := pS_few l h k
    rw [pS, pN, sumTo, cnts_few h, ih.1, ih.2]
    simp
theorem pS_mid (l : List Int) {n : Nat} (h : 5 ≤ n) : ∀ k, k + 1 ≤ n - 1 → pS l n (k + 1) = sumTo l (k + 1) - ix l 0 ∧ pN n (k + 1) = k
  | 0, _ => by
    simp [pS, pN, sumTo, cnts_0 h]
  | k + 1, hk => by
    have ih := pS_mid l h k (by omega)
    rw [pS, pN, sumTo, cnts_in (by omega) (by omega), ih.1, ih.2]
    simp
    omega
theorem pS_all (xs : List Int) : pS (asc xs) xs.length xs.length = tmS xs ∧ pN xs.length xs.length = tmN xs := by
  unfold tmS tmN
  by_cases h : xs.length < 5
  · rw [if_pos h, if_pos h]
    have := pS_few (asc xs) h xs.length
    rw [this.1, this.2, sum_asc]
    exact ⟨rfl, rfl⟩
  · rw [if_neg h, if_neg h]
    have hm := pS_mid (asc xs) (n := xs.length) (by omega) (xs.length - 2) (by omega)
    have he : xs.length = xs.length - 2 + 1 + 1 := by omega
    have hs := sum_asc xs
    have h0 := asc_ix xs 0 (by omega)
    have h1 := asc_ix xs (xs.length - 1) (by omega)
    rw [show xs.length - 1 - 0 = xs.length - 1 by omega] at h0
    rw [show xs.length - 1 - (xs.length - 1) = 0 by omega] at h1
    have ce := cnts_e (n := xs.length) (by omega)
    have k1 : pS (asc xs) xs.length (xs.length - 2 + 1 + 1) = pS (asc xs) xs.length (xs.length - 2 + 1) + 0 := by
      rw [pS, show xs.length - 2 + 1 = xs.length - 1 by omega, ce]; simp
    have k2 : pN xs.length (xs.length - 2 + 1 + 1) = pN xs.length (xs.length - 2 + 1) + 0 := by
      rw [pN, show xs.length - 2 + 1 = xs.length - 1 by omega, ce]; simp
    have k3 : sumTo (asc xs) (xs.length - 2 + 1 + 1) = sumTo (asc xs) (xs.length - 2 + 1) + ix (asc xs) (xs.length - 1) := by
      rw [sumTo, show xs.length - 2 + 1 = xs.length - 1 by omega]
    rw [← he] at k1 k2 k3
    rw [k1, k2, hm.1, hm.2]
    omega
theorem mem_ix {xs : List Int} {a : Int} (h : a ∈ xs) : ∃ i, i < xs.length ∧ a = ix xs i := by
  obtain ⟨i, hi, rfl⟩ := List.mem_iff_getElem.1 h
  exact ⟨i, hi, (ix_get _ _ hi).symm⟩
theorem ix_mem {xs : List Int} {i : Nat} (h : i < xs.length) : ix xs i ∈ xs := by rw [ix_get _ _ h]; exact List.getElem_mem h
theorem asc_bd {xs : List Int} (h : TmOk xs) (i : Nat) (hi : i < xs.length) : -1000 ≤ ix (asc xs) i ∧ ix (asc xs) i ≤ 1000 := by
  obtain ⟨j, hj, e⟩ := mem_ix ((asc_perm xs).mem_iff.1 (ix_mem (by rw [asc_len]; exact hi)))
  rw [e]
  exact h.each j hj
theorem dsc_bd {xs : List Int} (h : TmOk xs) (i : Nat) (hi : i < xs.length) : -1000 ≤ ix (dsc xs) i ∧ ix (dsc xs) i ≤ 1000 := by
  obtain ⟨j, hj, e⟩ := mem_ix ((dsc_sorted xs).1.mem_iff.1 (ix_mem (by rw [dsc_len]; exact hi)))
  rw [e]
  exact h.each j hj
theorem pS_bd {xs : List Int} (h : TmOk xs) : ∀ k, k ≤ xs.length → -(1000 * (k : Int)) ≤ pS (asc xs) xs.length k ∧ pS (asc xs) xs.length k ≤ 1000 * (k : Int) ∧ pN xs.length k ≤ k
  | 0, _ => by simp [pS, pN]
  | k + 1, hk => by
    have ih := pS_bd h k (by omega)
    have := asc_bd h k (by omega)
    simp only [pS, pN]
    split <;> omega
theorem tm_bd {xs : List Int} (h : TmOk xs) : -9000 ≤ tmS xs ∧ tmS xs ≤ 9000 ∧ 1 ≤ tmN xs ∧ tmN xs ≤ 9 := by
  have h1 := pS_bd h xs.length (Nat.le_refl _)
  have h2 := pS_all xs
  have h3 := h.hi
  have h4 := h.lo
  rw [h2.1, h2.2] at h1
  have h5 : 1 ≤ tmN xs := by unfold tmN; split <;> omega
  omega
/-- The marks with another one at a place. -/
theorem set_ok {xs : List Int} (h : TmOk xs) (k : Nat) (v : Int) (h1 : -1000 ≤ v) (h2 : v ≤ 1000) : TmOk (xs.set k v) := by
  refine ⟨by rw [List.length_set]; exact h.lo, by rw [List.length_set]; exact h.hi, fun i hi => ?_⟩
  rw [List.length_set] at hi
  have := h.each i hi
  rw [ix_get _ _ (by simpa using hi), List.getElem_set]
  split
  · exact ⟨h1, h2⟩
  · rw [← ix_get _ _ hi]; exact this
theorem set_ix (xs : List Int) (k : Nat) (v : Int) (i : Nat) (hi : i < xs.length) : ix (xs.set k v) i = if k = i then v else ix xs i := by
  rw [ix_get _ _ (by simpa using hi), List.getElem_set, ix_get _ _ hi]
theorem sumTo_set (xs : List Int) (k : Nat) (v : Int) : ∀ j, j ≤ xs.length → sumTo (xs.set k v) j = sumTo xs j + if k < j then v - ix xs k else 0
  | 0, _ => by simp [sumTo]
  | j + 1, h => by
    rw [sumTo, sumTo, sumTo_set xs k v j (by omega), set_ix _ _ _ _ (by omega)]
    by_cases e : k = j
    · subst e
      simp
      omega
    · rw [if_neg e]
      by_cases e2 : k < j
      · rw [if_pos e2, if_pos (by omega)]; omega
      · rw [if_neg e2, if_neg (by omega)]; omega
theorem dsc_max (xs : List Int) (hp : 0 < xs.length) : (∀ i, i < xs.length → ix xs i ≤ ix (dsc xs) 0) ∧ ∃ i, i < xs.length ∧ ix (dsc xs) 0 = ix xs i := by
  refine ⟨fun i hi => ?_, mem_ix ((dsc_sorted xs).1.mem_iff.1 (ix_mem (by rw [dsc_len]; exact hp)))⟩
  obtain ⟨j, hj, e⟩ := mem_ix ((dsc_sorted xs).1.mem_iff.2 (ix_mem hi))
  rw [e]
  rcases Nat.eq_zero_or_pos j with h | h
  · rw [h]; exact Int.le_refl _
  · exact pairwise_ix (dsc_sorted xs).2 h hj
theorem dsc_min (xs : List Int) (hp : 0 < xs.length) : (∀ i, i < xs.length → ix (dsc xs) (xs.length - 1) ≤ ix xs i) ∧ ∃ i, i < xs.length ∧ ix (dsc xs) (xs.length - 1) = ix xs i := by
  have hl := dsc_len xs
  refine ⟨fun i hi => ?_, mem_ix ((dsc_sorted xs).1.mem_iff.1 (ix_mem (by rw [dsc_len]; omega)))⟩
  obtain ⟨j, hj, e⟩ := mem_ix ((dsc_sorted xs).1.mem_iff.2 (ix_mem hi))
  rw [e]
  by_cases h : j = xs.length - 1
  · rw [h]; exact Int.le_refl _
  · exact pairwise_ix (dsc_sorted xs).2 (by omega) (by omega)
/-- Another one that is greater makes the trimmed sum no less. -/
theorem tmS_mono (xs : List Int) (k : Nat) (u v : Int) (hk : k < xs.length) (h : u ≤ v) : tmS (xs.set k u) ≤ tmS (xs.set k v) := by
  unfold tmS
  have lu : (xs.set k u).length = xs.length := List.length_set
  have lv : (xs.set k v).length = xs.length := List.length_set
  rw [lu, lv, sumTo_set _ _ _ _ (Nat.le_refl _), sumTo_set _ _ _ _ (Nat.le_refl _), if_pos hk, if_pos hk]
  split
  · omega
  · have p1 := dsc_max (xs.set k u) (by omega)
    have p2 := dsc_min (xs.set k u) (by omega)
    have p3 := dsc_max (xs.set k v) (by omega)
    have p4 := dsc_min (xs.set k v) (by omega)
    rw [lu] at p1 p2
    rw [lv] at p3 p4
    obtain ⟨i, hi, ei⟩ := p3.2
    obtain ⟨j, hj, ej⟩ := p2.2
    have a1 := p1.1 k hk
    have a2 := p4.1 k hk
    have a3 := p1.1 i hi
    have a4 := p4.1 j hj
    obtain ⟨t, ht, hkt⟩ : ∃ t, t < xs.length ∧ k ≠ t := ⟨if k = 0 then 1 else 0, by split <;> omega, by split <;> omega⟩
    have a5 := p1.1 t ht
    have a6 := p4.1 t ht
    rw [set_ix _ _ _ _ ‹_›] at ei ej a1 a2 a3 a4 a5 a6
    rw [if_neg hkt] at a5 a6
    rw [if_pos rfl] at a1 a2
    clear p1 p2 p3 p4
    generalize ix (dsc (xs.set k u)) 0 = a at *
    generalize ix (dsc (xs.set k v)) 0 = a' at *
    generalize ix (dsc (xs.set k u)) (xs.length - 1) = b at *
    generalize ix (dsc (xs.set k v)) (xs.length - 1) = b' at *
    by_cases q1 : k = i
    · rw [if_pos q1] at ei a3
      by_cases q2 : k = j
      · rw [if_pos q2] at ej a4
        omega
      · rw [if_neg q2] at ej a4
        omega
    · rw [if_neg q1] at ei a3
      by_cases q2 : k = j
      · rw [if_pos q2] at ej a4
        omega
      · rw [if_neg q2] at ej a4
        omega
def absI (x : Int) : Int := if x < 0 then -x else x
theorem most_moved {s l g : Int} (h : l ≤ g) : max (absI (s - l)) (absI (g - s)) = max (s - l) (g - s) := by
  unfold absI
  simp only [Int.max_def]
  repeat' split
  all_goals omega
end Go.Proofs.Ytnambmpnolkfjaa.One
