/- Numbers of choices, family by family, in plain words. -/
import Derived.Test.YtocjkhfghldnnaaDoorPnA
namespace Go.Proofs.YtocjkhfghldnnaaDoor
open Go.ChangeShapes Go.WideShapes Go.ChangeAt Go.RowKit
set_option linter.unusedVariables false

/-- Sums, and binomial numbers. -/
def smT (g : Nat → Int) : Nat → Int
  | 0 => 0
  | m + 1 => smT g m + g m
theorem smT_congr {g h : Nat → Int} : ∀ m, (∀ i, i < m → g i = h i) → smT g m = smT h m
  | 0, _ => rfl
  | m + 1, e => by rw [smT, smT, smT_congr m (fun i hi => e i (by omega)), e m (by omega)]
theorem smT_far (g : Nat → Int) (m : Nat) : ∀ d, (∀ i, m ≤ i → i < m + d → g i = 0) → smT g (m + d) = smT g m
  | 0, _ => rfl
  | d + 1, e => by rw [← Nat.add_assoc, smT, smT_far g m d (fun i h1 h2 => e i h1 (by omega)), e (m + d) (by omega) (by omega), Int.add_zero]
theorem smT_cut (g : Nat → Int) (m n : Nat) (h : m ≤ n) (e : ∀ i, m ≤ i → i < n → g i = 0) : smT g n = smT g m := by
  have := smT_far g m (n - m) (fun i h1 h2 => e i h1 (by omega))
  rwa [show m + (n - m) = n by omega] at this
theorem smT_front (g : Nat → Int) : ∀ m, smT g (m + 1) = g 0 + smT (fun i => g (i + 1)) m
  | 0 => by simp [smT]
  | m + 1 => by rw [smT, smT_front g m, smT, Int.add_assoc]
theorem smT_turn : ∀ (t : Nat) (g : Nat → Int), smT (fun p => g (t - p)) (t + 1) = smT g (t + 1)
  | 0, g => by simp [smT]
  | t + 1, g => by
    rw [smT_front (fun p => g (t + 1 - p)) (t + 1)]
    have e : smT (fun i => g (t + 1 - (i + 1))) (t + 1) = smT (fun i => g (t - i)) (t + 1) := smT_congr _ (fun i _ => by rw [show t + 1 - (i + 1) = t - i by omega])
    rw [e, smT_turn t g]
    show g (t + 1 - 0) + smT g (t + 1) = smT g (t + 1) + g (t + 1)
    rw [Nat.sub_zero, Int.add_comm]
theorem smT_le {g h : Nat → Int} : ∀ m, (∀ i, i < m → g i ≤ h i) → smT g m ≤ smT h m
  | 0, _ => Int.le_refl _
  | m + 1, e => by
    have h1 := smT_le m (fun i hi => e i (by omega))
    have h2 := e m (by omega)
    rw [smT, smT]
    omega
theorem smT_nn {g : Nat → Int} : ∀ m, (∀ i, i < m → 0 ≤ g i) → 0 ≤ smT g m
  | 0, _ => Int.le_refl _
  | m + 1, e => by
    have h1 := smT_nn m (fun i hi => e i (by omega))
    have h2 := e m (by omega)
    rw [smT]
    omega
theorem smT_most {g : Nat → Int} (M : Int) : ∀ m : Nat, (∀ i, i < m → g i ≤ M) → smT g m ≤ M * m
  | 0, _ => by simp [smT]
  | m + 1, e => by
    have h1 := smT_most M m (fun i hi => e i (by omega))
    have h2 := e m (by omega)
    rw [smT]
    have : M * ((m + 1 : Nat) : Int) = M * m + M := by rw [Int.natCast_succ, Int.mul_add, Int.mul_one]
    omega
theorem smT_mul (g : Nat → Int) (c : Int) : ∀ m, smT (fun i => c * g i) m = c * smT g m
  | 0 => by simp [smT]
  | m + 1 => by rw [smT, smT, smT_mul g c m, Int.mul_add]
def bin : Nat → Nat → Int
  | _, 0 => 1
  | 0, _ + 1 => 0
  | m + 1, k + 1 => bin m (k + 1) + bin m k
theorem bin_zero (m : Nat) : bin m 0 = 1 := by cases m <;> rfl
theorem bin_nn : ∀ m k, 0 ≤ bin m k
  | _, 0 => by rw [bin_zero]; omega
  | 0, _ + 1 => by rw [bin]; omega
  | m + 1, k + 1 => by
    have h1 := bin_nn m (k + 1)
    have h2 := bin_nn m k
    rw [bin]
    omega
theorem bin_far : ∀ m k, m < k → bin m k = 0
  | _, 0, h => absurd h (by omega)
  | 0, _ + 1, _ => rfl
  | m + 1, k + 1, h => by rw [bin, bin_far m (k + 1) (by omega), bin_far m k (by omega)]; rfl
theorem bin_sum : ∀ m j, smT (bin m) j ≤ 2 ^ m
  | 0, 0 => by simp [smT]
  | 0, j + 1 => by
    rw [smT_cut (bin 0) 1 (j + 1) (by omega) (fun i h1 _ => bin_far 0 i (by omega))]
    simp [smT, bin]
  | m + 1, 0 => by
    have : (0 : Int) ≤ 2 ^ (m + 1) := Int.le_of_lt (Int.pow_pos (by omega))
    simpa [smT] using this
  | m + 1, j + 1 => by
    have h1 := bin_sum m (j + 1)
    have h2 := bin_sum m j
    have e : smT (bin (m + 1)) (j + 1) = smT (bin m) (j + 1) + smT (bin m) j := by
      rw [smT_front, smT_front (bin m) j, bin_zero, bin_zero]
      have : ∀ j, smT (fun i => bin (m + 1) (i + 1)) j = smT (fun i => bin m (i + 1)) j + smT (bin m) j := fun j => by
        induction j with
        | zero => rfl
        | succ j ih => rw [smT, smT, smT, ih, bin]; omega
      rw [this]
      omega
    rw [e, Int.pow_succ]
    omega
theorem bin_le (m k : Nat) : bin m k ≤ 2 ^ m := by
  have h := bin_sum m (k + 1)
  have h2 := smT_nn k (fun i _ => bin_nn m i)
  rw [smT] at h
  omega
theorem pow24 {m : Nat} (h : m ≤ 24) : (2 : Int) ^ m ≤ 16777216 := by
  have : (2 : Nat) ^ m ≤ 2 ^ 24 := Nat.pow_le_pow_right (by omega) h
  have e : ((2 ^ m : Nat) : Int) = (2 : Int) ^ m := by simp
  omega
theorem szF_sum (x : Cd) (hf : ∀ i, i < x.els.length → 0 ≤ (it x.els i).fam ∧ (it x.els i).fam ≤ 4) : ∀ k, k ≤ x.els.length → szF x 0 k + szF x 1 k + szF x 2 k + szF x 3 k + szF x 4 k = k
  | 0, _ => rfl
  | k + 1, hk => by
    have ih := szF_sum x hf k (by omega)
    have h := hf k (by omega)
    simp only [szF]
    rcases (show (it x.els k).fam = 0 ∨ (it x.els k).fam = 1 ∨ (it x.els k).fam = 2 ∨ (it x.els k).fam = 3 ∨ (it x.els k).fam = 4 by omega) with e | e | e | e | e <;> simp [e] <;> omega
theorem szF_le (x : Cd) (f : Int) : ∀ k, szF x f k ≤ k
  | 0 => Nat.le_refl _
  | k + 1 => by
    have := szF_le x f k
    rw [szF]
    split <;> omega
/-- The size of family f, its limit; how many choices of k elements the first f families have. -/
def fsz (x : Cd) (f : Nat) : Nat := szF x (f : Int) x.els.length
def flm (x : Cd) (f : Nat) : Nat := (it x.lims f).toNat
def cw (x : Cd) : Nat → Nat → Int
  | 0, k => if k = 0 then 1 else 0
  | f + 1, k => smT (fun j => cw x f (k - j) * bin (fsz x f) j) (min k (flm x f) + 1)
def fsum (x : Cd) : Nat → Nat
  | 0 => 0
  | f + 1 => fsum x f + fsz x f
theorem cw_le (x : Cd) : ∀ f k, 0 ≤ cw x f k ∧ cw x f k ≤ 2 ^ fsum x f
  | 0, k => by
    rw [cw]
    split <;> simp [fsum]
  | f + 1, k => by
    rw [cw]
    refine ⟨smT_nn _ (fun i _ => Int.mul_nonneg (cw_le x f _).1 (bin_nn _ _)), ?_⟩
    refine Int.le_trans (smT_le (h := fun j => 2 ^ fsum x f * bin (fsz x f) j) _ (fun i _ => Int.mul_le_mul_of_nonneg_right (cw_le x f _).2 (bin_nn _ _))) ?_
    rw [smT_mul, fsum, Int.pow_add]
    exact Int.mul_le_mul_of_nonneg_left (bin_sum _ _) (Int.le_of_lt (Int.pow_pos (by omega)))
/-- The number of entries that can differ from 0. -/
def fcap (x : Cd) : Nat → Nat
  | 0 => 1
  | f + 1 => fcap x f + min (flm x f) (fsz x f)
theorem cw_far (x : Cd) : ∀ f k, fcap x f ≤ k → cw x f k = 0
  | 0, k, h => by
    rw [cw, if_neg]
    have : 1 ≤ k := h
    omega
  | f + 1, k, h => by
    rw [fcap] at h
    rw [cw]
    have : ∀ m, m ≤ flm x f + 1 → smT (fun j => cw x f (k - j) * bin (fsz x f) j) m = 0 := fun m hm => by
      induction m with
      | zero => rfl
      | succ m ih =>
        rw [smT, ih (by omega)]
        by_cases e : m ≤ fsz x f
        · rw [cw_far x f (k - m) (by omega)]
          simp
        · rw [bin_far _ _ (by omega)]
          simp
    exact this _ (by omega)
/-- Numbers of ways joined. -/
def cvV (a b : List Int) (t : Nat) : Int := smT (fun j => it a (t - j) * it b j) (t + 1)
def cvP (a b : List Int) (t : Nat) (p : Nat) : Int := if p ≤ t ∧ t - p < b.length then it a p * it b (t - p) else 0
def cvE (a b : List Int) (i k t : Nat) : Int := smT (cvP a b t) i + if i ≤ t ∧ t - i < k then it a i * it b (t - i) else 0
def cvL (a b : List Int) (i k : Nat) : List Int := (List.range (a.length + b.length - 1)).map (cvE a b i k)
theorem cvL_len (a b : List Int) (i k : Nat) : (cvL a b i k).length = a.length + b.length - 1 := by simp [cvL]
theorem cvL_it (a b : List Int) (i k t : Nat) (h : t < a.length + b.length - 1) : it (cvL a b i k) t = cvE a b i k t := by
  have := it_get (cvL a b i k) t (by rw [cvL_len]; exact h)
  rw [cvL, List.getElem?_map, List.getElem?_range h] at this
  simp only [Option.map_some, Option.some.injEq] at this
  exact this.symm
theorem cvL_zero (a b : List Int) : cvL a b 0 0 = List.replicate (a.length + b.length - 1) 0 := by
  refine it_ext _ _ (by rw [cvL_len, List.length_replicate]) (fun t ht => ?_)
  rw [cvL_len] at ht
  rw [cvL_it a b 0 0 t ht]
  have := it_get (List.replicate (a.length + b.length - 1) (0 : Int)) t (by rw [List.length_replicate]; exact ht)
  rw [List.getElem?_replicate, if_pos ht] at this
  simp only [Option.some.injEq] at this
  rw [← this]
  simp [cvE, smT]
theorem cvL_put (a b : List Int) (i k : Nat) (hi : i < a.length) (hk : k < b.length) : (cvL a b i k).set (i + k) (it (cvL a b i k) (i + k) + it a i * it b k) = cvL a b i (k + 1) := by
  refine it_ext _ _ (by rw [List.length_set, cvL_len, cvL_len]) (fun t ht => ?_)
  rw [List.length_set, cvL_len] at ht
  rw [it_set _ _ _ _ (by rw [cvL_len]; omega), cvL_it a b i (k + 1) t ht]
  by_cases e : t = i + k
  · subst e
    rw [if_pos rfl, cvL_it a b i k _ ht]
    unfold cvE
    rw [if_neg (by omega), if_pos (by omega), show i + k - i = k by omega]
    omega
  · rw [if_neg e, cvL_it a b i k t ht]
    unfold cvE
    have : (i ≤ t ∧ t - i < k) ↔ (i ≤ t ∧ t - i < k + 1) := by omega
    simp only [this]
theorem cvL_row (a b : List Int) (i : Nat) : cvL a b i b.length = cvL a b (i + 1) 0 := by
  refine it_ext _ _ (by rw [cvL_len, cvL_len]) (fun t ht => ?_)
  rw [cvL_len] at ht
  rw [cvL_it a b i _ t ht, cvL_it a b (i + 1) 0 t ht]
  unfold cvE
  rw [smT, if_neg (c := i + 1 ≤ t ∧ t - (i + 1) < 0) (by omega), Int.add_zero]
  rfl
theorem it_far {l : List Int} {i : Nat} (h : l.length ≤ i) : it l i = 0 := by
  unfold it
  rw [List.getD_eq_getElem?_getD, List.getElem?_eq_none h]
  rfl
theorem cvL_all (a b : List Int) (t : Nat) (ht : t < a.length + b.length - 1) : it (cvL a b a.length 0) t = cvV a b t := by
  rw [cvL_it a b _ _ t ht]
  unfold cvE cvV
  rw [if_neg (by omega), Int.add_zero]
  have hp : ∀ p, cvP a b t p = if p ≤ t then it a p * it b (t - p) else 0 := fun p => by
    unfold cvP
    by_cases h1 : p ≤ t
    · by_cases h2 : t - p < b.length
      · rw [if_pos ⟨h1, h2⟩, if_pos h1]
      · rw [if_neg (fun q => h2 q.2), if_pos h1, it_far (l := b) (by omega)]
        simp
    · rw [if_neg (fun q => h1 q.1), if_neg h1]
  have h1 : smT (cvP a b t) a.length = smT (cvP a b t) (t + 1) := by
    rcases Nat.le_total a.length (t + 1) with h | h
    · exact (smT_cut _ _ _ h (fun i h1 h2 => by rw [hp, it_far h1]; simp)).symm
    · exact smT_cut _ _ _ h (fun i h1 h2 => by rw [hp, if_neg (by omega)])
  rw [h1, ← smT_turn t (fun j => it a (t - j) * it b j)]
  refine smT_congr _ (fun i hi => ?_)
  rw [hp, if_pos (by omega)]
  show _ = it a (t - (t - i)) * it b (t - i)
  rw [show t - (t - i) = i by omega]
theorem cvL_far (a b : List Int) (t : Nat) (ht : a.length + b.length - 1 ≤ t) (ha : 0 < a.length) (hb : 0 < b.length) : cvV a b t = 0 := by
  unfold cvV
  have : ∀ m, smT (fun j => it a (t - j) * it b j) m = 0 := fun m => by
    induction m with
    | zero => rfl
    | succ m ih =>
      rw [smT, ih]
      by_cases e : m < b.length
      · rw [it_far (l := a) (by omega)]
        simp
      · rw [it_far (l := b) (by omega)]
        simp
  exact this _
/-- The choices out of m elements. -/
def binL (m : Nat) (c : Nat) : List Int := (List.range (c + 1)).map (bin m)
theorem binL_len (m c : Nat) : (binL m c).length = c + 1 := by simp [binL]
theorem binL_it (m c t : Nat) (h : t ≤ c) : it (binL m c) t = bin m t := by
  have := it_get (binL m c) t (by rw [binL_len]; omega)
  rw [binL, List.getElem?_map, List.getElem?_range (by omega)] at this
  simp only [Option.map_some, Option.some.injEq] at this
  exact this.symm
theorem binL_any (m t : Nat) : it (binL m m) t = bin m t := by
  by_cases h : t ≤ m
  · exact binL_it m m t h
  · rw [it_far (by rw [binL_len]; omega), bin_far m t (by omega)]
theorem binL_one : binL 0 0 = [1] := rfl
theorem binL_take (m c : Nat) (h : c ≤ m) : (binL m m).take (c + 1) = binL m c := by
  unfold binL
  rw [← List.map_take, List.take_range, show min (c + 1) (m + 1) = c + 1 by omega]
theorem binL_next (m : Nat) : cvL (binL m m) [1, 1] (binL m m).length 0 = binL (m + 1) (m + 1) := by
  refine it_ext _ _ (by rw [cvL_len, binL_len, binL_len]; rfl) (fun t ht => ?_)
  rw [cvL_len] at ht
  have h2 : t ≤ m + 1 := by rw [binL_len] at ht; simp at ht; omega
  rw [cvL_all _ _ t ht, binL_it _ _ t h2]
  unfold cvV
  cases t with
  | zero =>
    simp only [smT, binL_any]
    rw [bin_zero, bin_zero]
    rfl
  | succ t =>
    rw [smT_cut _ 2 (t + 1 + 1) (by omega) (fun i h1 _ => by rw [it_far (l := [1, 1]) (by simpa using h1)]; simp)]
    simp only [smT, binL_any]
    rw [bin]
    show 0 + bin m (t + 1 - 0) * 1 + bin m (t + 1 - 1) * 1 = _
    simp
/-- The ways of the first f families, as a list. -/
def cwL (x : Cd) (f : Nat) : List Int := (List.range (fcap x f)).map (cw x f)
theorem cwL_len (x : Cd) (f : Nat) : (cwL x f).length = fcap x f := by simp [cwL]
theorem cwL_it (x : Cd) (f t : Nat) : it (cwL x f) t = cw x f t := by
  by_cases h : t < fcap x f
  · have := it_get (cwL x f) t (by rw [cwL_len]; omega)
    rw [cwL, List.getElem?_map, List.getElem?_range h] at this
    simp only [Option.map_some, Option.some.injEq] at this
    exact this.symm
  · rw [it_far (by rw [cwL_len]; omega), cw_far x f t (by omega)]
theorem cwL_zero (x : Cd) : cwL x 0 = [1] := rfl
theorem cwL_next (x : Cd) (f : Nat) : cvL (cwL x f) (binL (fsz x f) (min (flm x f) (fsz x f))) (cwL x f).length 0 = cwL x (f + 1) := by
  refine it_ext _ _ (by rw [cvL_len, cwL_len, cwL_len, binL_len, fcap]; omega) (fun t ht => ?_)
  rw [cvL_len] at ht
  rw [cvL_all _ _ t ht, cwL_it]
  unfold cvV
  rw [cw]
  rw [smT_cut _ (min t (flm x f) + 1) (t + 1) (by omega) (fun i h1 h2 => by
    rw [it_far (l := binL _ _) (by rw [binL_len]; omega)]
    simp)]
  refine smT_congr _ (fun i hi => ?_)
  rw [cwL_it]
  by_cases e : i ≤ fsz x f
  · rw [binL_it _ _ _ (by omega)]
  · rw [it_far (l := binL _ _) (by rw [binL_len]; omega), bin_far _ _ (by omega)]
end Go.Proofs.YtocjkhfghldnnaaDoor
