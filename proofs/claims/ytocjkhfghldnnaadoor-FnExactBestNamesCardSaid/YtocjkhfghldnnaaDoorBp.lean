/- A stable order, and what the steps of a stable sort do to a row, in plain words. A stable sort of a row of numbers, by any comparison of theirs: exchanges of ranges, rotations. A stable sort of a row of numbers: the symmetric merge. The symmetric merge: one element before. The symmetric merge: one element behind. The symmetric merge: the search for the place of the rotation, the rotation, the two halves. The symmetric merge: as a whole. A stable sort of a row of fewer than forty numbers. -/
import Derived.Test.YtocjkhfghldnnaaDoorRows
import Derived.Sort.LotA
import Derived.Test.YtocjkhfghldnnaaDoorIntF
import Derived.Test.YtocjkhfghldnnaaDoorShelf
import Derived.Shelf.SlSortCmp.Kit1
import Derived.Deep.LoopGhost
import Derived.RegionTactic
import Derived.BigRegion
import Derived.LoopTactic
import Derived.Deep.Cut
import Derived.Deep.CutRange
import Derived.Deep.DeepCutAuto
import Derived.Shelf.SlSortCmp.QuietGrown
namespace Go.Proofs.YtocjkhfghldnnaaDoor
open Go.Sort
set_option linter.unusedVariables false

/-- A stable order: by a key, and by the place of old. -/
def Lx (key : Nat → Int) (i j : Nat) : Prop := key i < key j ∨ (key i = key j ∧ i < j)
theorem Lx.trans {key : Nat → Int} {i j k : Nat} (h : Lx key i j) (g : Lx key j k) : Lx key i k := by
  rcases h with h | h <;> rcases g with g | g
  · exact .inl (by omega)
  · exact .inl (by omega)
  · exact .inl (by omega)
  · exact .inr ⟨by omega, by omega⟩
def Srt (key : Nat → Int) (a b : Nat) (d : Array Nat) : Prop := ∀ i j, a ≤ i → i < j → j < b → Lx key d[i]! d[j]!
def Tag (a m b : Nat) (d : Array Nat) : Prop := ∀ i j, a ≤ i → i < m → m ≤ j → j < b → d[i]! < d[j]!
structure KeyLt (key : Nat → Int) (lt : Nat → Nat → Bool) : Prop where
  yes : ∀ i j, lt i j = true → key i < key j
  no : ∀ i j, lt i j = false → key j ≤ key i
theorem srt_join {key : Nat → Int} {a m b : Nat} {d : Array Nat} (h1 : Srt key a m d) (h2 : Srt key m b d) (h : ∀ i j, a ≤ i → i < m → m ≤ j → j < b → Lx key d[i]! d[j]!) : Srt key a b d := fun i j hi hij hj => by
  rcases Nat.lt_or_ge j m with q | q
  · exact h1 i j hi hij q
  · rcases Nat.lt_or_ge i m with p | p
    · exact h i j hi p q hj
    · exact h2 i j p hij hj
theorem srt_congr {key : Nat → Int} {a b : Nat} {d e : Array Nat} (h : Srt key a b d) (he : ∀ i, a ≤ i → i < b → e[i]! = d[i]!) : Srt key a b e := fun i j hi hij hj => by
  rw [he i hi (by omega), he j (by omega) hj]
  exact h i j hi hij hj
/-- Insertion: the element at j on its way down. -/
structure InsS (key : Nat → Int) (a j i : Nat) (d : Array Nat) : Prop where
  rest : ∀ p q, a ≤ p → p < q → q ≤ i → p ≠ j → q ≠ j → Lx key d[p]! d[q]!
  right : ∀ q, j < q → q ≤ i → Lx key d[j]! d[q]!
  tag : ∀ p, a ≤ p → p < j → d[p]! < d[j]!
theorem InsS.stop {key : Nat → Int} {lt : Nat → Nat → Bool} (hk : KeyLt key lt) {a j i : Nat} {d : Array Nat} (h : InsS key a j i d) (hs : j ≤ a ∨ lt d[j]! d[j - 1]! = false) : Srt key a (i + 1) d := fun p q hp hpq hq => by
  by_cases e1 : q = j
  · subst e1
    rcases hs with hs | hs
    · omega
    · have h1 : Lx key d[q - 1]! d[q]! := by
        have := hk.no _ _ hs
        have := h.tag (q - 1) (by omega) (by omega)
        unfold Lx
        omega
      by_cases e2 : p = q - 1
      · rw [e2]
        exact h1
      · exact (h.rest p (q - 1) hp (by omega) (by omega) (by omega) (by omega)).trans h1
  · by_cases e2 : p = j
    · subst e2
      exact h.right q hpq (by omega)
    · exact h.rest p q hp hpq (by omega) e2 e1
theorem InsS.step {key : Nat → Int} {lt : Nat → Nat → Bool} (hk : KeyLt key lt) {a j i : Nat} {d : Array Nat} (h : InsS key a (j + 1) i d) (hl : lt d[j + 1]! d[j]! = true) (haj : a ≤ j) (hsz : j + 1 < d.size) (hji : j + 1 ≤ i) : InsS key a j i (swp d (j + 1) j) := by
  have g := swp_get d hsz (show j < d.size by omega)
  have hlt := hk.yes _ _ hl
  refine ⟨fun p q hp hpq hq h1 h2 => ?_, fun q h1 h2 => ?_, fun p hp h1 => ?_⟩
  · rw [g, g, if_neg h1, if_neg h2]
    by_cases e1 : p = j + 1
    · subst e1
      rw [if_pos rfl, if_neg (by omega)]
      exact h.rest j q haj (by omega) hq (by omega) (by omega)
    · rw [if_neg e1]
      by_cases e2 : q = j + 1
      · subst e2
        rw [if_pos rfl]
        exact h.rest p j hp (by omega) (by omega) (by omega) (by omega)
      · rw [if_neg e2]
        exact h.rest p q hp hpq hq e1 e2
  · rw [g, g, if_pos rfl, if_neg (by omega)]
    by_cases e : q = j + 1
    · subst e
      rw [if_pos rfl]
      exact .inl hlt
    · rw [if_neg e]
      exact h.right q (by omega) h2
  · rw [g, g, if_pos rfl, if_neg (by omega), if_neg (by omega)]
    exact h.tag p hp (by omega)
theorem insInner_srt {key : Nat → Int} {lt : Nat → Nat → Bool} (hk : KeyLt key lt) (a i b : Nat) (hib : i < b) : ∀ (j : Nat) (d : Array Nat), InsS key a j i d → b ≤ d.size → j ≤ i → a ≤ j → Srt key a (i + 1) (insInner lt a j d) ∧ PermIn a (i + 1) d (insInner lt a j d)
  | 0, d, h, hb, hj, ha => ⟨h.stop hk (.inl (by omega)), permIn_refl _ _ _⟩
  | j + 1, d, h, hb, hj, ha => by
    rw [insInner]
    by_cases e : j + 1 > a
    · cases hl : lt d[j + 1]! d[j]! with
      | true =>
        simp only [e, decide_true, Bool.true_and, if_true]
        have hs := h.step hk hl (by omega) (by omega) hj
        have ih := insInner_srt hk a i b hib j (swp d (j + 1) j) hs (by rw [swp_size]; exact hb) (by omega) (by omega)
        exact ⟨ih.1, permIn_trans _ _ _ _ _ (swp_permIn d a (i + 1) (j + 1) j (by omega) (by omega) (by omega) (by omega) (by omega)) ih.2⟩
      | false =>
        simp only [Bool.and_false, Bool.false_eq_true, if_false]
        exact ⟨h.stop hk (.inr hl), permIn_refl _ _ _⟩
    · simp only [e, decide_false, Bool.false_and, Bool.false_eq_true, if_false]
      exact ⟨h.stop hk (.inl (by omega)), permIn_refl _ _ _⟩
theorem permIn_at {a b : Nat} {d e : Array Nat} (h : PermIn a b d e) {i : Nat} (hi : i < a ∨ b ≤ i) : e[i]! = d[i]! := h.2.1 i hi
theorem insOuter_srt {key : Nat → Int} {lt : Nat → Nat → Bool} (hk : KeyLt key lt) (a b : Nat) : ∀ (n i : Nat) (d : Array Nat), b - i = n → a < i → Srt key a i d → (∀ p q, a ≤ p → p < q → i ≤ q → q < b → d[p]! < d[q]!) → b ≤ d.size → Srt key a (max i b) (insOuter lt a b i d) ∧ PermIn a b d (insOuter lt a b i d)
  | 0, i, d, hn, hai, hs, ht, hb => by
    rw [insOuter, if_neg (by omega), show max i b = i by omega]
    exact ⟨hs, permIn_refl _ _ _⟩
  | n + 1, i, d, hn, hai, hs, ht, hb => by
    rw [insOuter, if_pos (by omega)]
    have h1 := insInner_srt hk a i b (by omega) i d ⟨fun p q hp hpq hq h1 h2 => hs p q hp hpq (by omega), fun q h1 h2 => absurd h1 (by omega), fun p hp h1 => ht p i hp h1 (Nat.le_refl _) (by omega)⟩ hb (Nat.le_refl _) (by omega)
    have h2 := insOuter_srt hk a b n (i + 1) (insInner lt a i d) (by omega) (by omega) h1.1 (fun p q hp hpq hiq hq => by
      rw [permIn_at h1.2 (i := q) (.inr (by omega))]
      rcases Nat.lt_or_ge p (i + 1) with hpi | hpi
      · exact permIn_all d (insInner lt a i d) a (i + 1) (fun v => v < d[q]!) (by omega) h1.2 (fun p' h3 h4 => ht p' q h3 (by omega) (by omega) hq) p hp hpi
      · rw [permIn_at h1.2 (i := p) (.inr hpi)]
        exact ht p q hp hpq (by omega) hq) (by rw [h1.2.1]; exact hb)
    rw [show max i b = max (i + 1) b by omega]
    exact ⟨h2.1, permIn_trans _ _ _ _ _ (permIn_mono _ _ a (i + 1) a b (Nat.le_refl _) (by omega) hb h1.2) h2.2⟩
/-- Insertion sort is stable. -/
theorem insertion_srt {key : Nat → Int} {lt : Nat → Nat → Bool} (hk : KeyLt key lt) (a b : Nat) (d : Array Nat) (ht : ∀ p q, a ≤ p → p < q → q < b → d[p]! < d[q]!) (hb : b ≤ d.size) : Srt key a b (insertionSort lt d a b) ∧ PermIn a b d (insertionSort lt d a b) := by
  have h := insOuter_srt hk a b (b - (a + 1)) (a + 1) d rfl (by omega) (fun i j h1 h2 h3 => absurd h2 (by omega)) (fun p q h1 h2 h3 h4 => ht p q h1 h2 h4) hb
  refine ⟨fun i j h1 h2 h3 => h.1 i j h1 h2 (by omega), h.2⟩
/-- Two ranges exchanged. -/
def sr (d : Array Nat) (a b : Nat) : Nat → Array Nat
  | 0 => d
  | n + 1 => swp (sr d a b n) (a + n) (b + n)
theorem sr_size (d : Array Nat) (a b : Nat) : ∀ n, (sr d a b n).size = d.size
  | 0 => rfl
  | n + 1 => by rw [sr, swp_size, sr_size d a b n]
theorem sr_get (d : Array Nat) (a b : Nat) : ∀ n, a + n ≤ b → b + n ≤ d.size → ∀ t, (sr d a b n)[t]! = if a ≤ t ∧ t < a + n then d[t - a + b]! else if b ≤ t ∧ t < b + n then d[t - b + a]! else d[t]!
  | 0, _, _, t => by
    rw [if_neg (by omega), if_neg (by omega)]
    rfl
  | n + 1, h1, h2, t => by
    have ih := sr_get d a b n (by omega) (by omega)
    have hs := sr_size d a b n
    rw [sr, swp_get _ (by omega) (by omega), ih, ih, ih]
    by_cases e1 : t = b + n
    · subst e1
      rw [if_pos rfl, if_neg (by omega), if_neg (by omega), if_neg (by omega), if_pos (by omega)]
      congr 1
      omega
    · rw [if_neg e1]
      by_cases e2 : t = a + n
      · subst e2
        rw [if_pos rfl, if_neg (by omega), if_neg (by omega), if_pos (by omega)]
        congr 1
        omega
      · rw [if_neg e2]
        have c1 : (a ≤ t ∧ t < a + n) ↔ (a ≤ t ∧ t < a + (n + 1)) := by omega
        have c2 : (b ≤ t ∧ t < b + n) ↔ (b ≤ t ∧ t < b + (n + 1)) := by omega
        simp only [c1, c2]
theorem sr_perm (d : Array Nat) (a b lo hi : Nat) (h0 : lo ≤ a) (hhi : hi ≤ d.size) : ∀ n, a + n ≤ b → b + n ≤ hi → PermIn lo hi d (sr d a b n)
  | 0, _, _ => permIn_refl _ _ _
  | n + 1, h1, h2 => permIn_trans _ _ _ _ _ (sr_perm d a b lo hi h0 hhi n (by omega) (by omega)) (swp_permIn _ lo hi (a + n) (b + n) (by omega) (by omega) (by omega) (by omega) (by rw [sr_size]; exact hhi))
/-- What a rotation leaves at a place. -/
def rv (d : Array Nat) (a m b t : Nat) : Nat := if a ≤ t ∧ t < b then (if t < a + (b - m) then d[t - a + m]! else d[t - (b - m)]!) else d[t]!
theorem rv_id (d : Array Nat) {a m b : Nat} (h : a = m ∨ m = b) (ham : a ≤ m) (hmb : m ≤ b) (t : Nat) : rv d a m b t = d[t]! := by
  unfold rv
  split
  · split
    · congr 1
      omega
    · congr 1
      omega
  · rfl
theorem rv_more (d : Array Nat) {m i j : Nat} (hj : 0 < j) (hij : j < i) (him : i ≤ m) (hs : m + j ≤ d.size) (t : Nat) : rv (sr d (m - i) m j) (m - (i - j)) m (m + j) t = rv d (m - i) m (m + j) t := by
  unfold rv
  simp only [sr_get d (m - i) m j (by omega) hs]
  by_cases c1 : m - i ≤ t ∧ t < m + j
  · rw [if_pos c1]
    by_cases c2 : t < m - i + (m + j - m)
    · rw [if_pos c2, if_neg (by omega), if_pos (by omega)]
    · rw [if_neg c2]
      rw [if_pos (by omega)]
      by_cases c3 : t < m - (i - j) + (m + j - m)
      · rw [if_pos c3]
        rw [if_neg (by omega), if_pos (by omega)]
        congr 1
        omega
      · rw [if_neg c3, if_neg (by omega), if_neg (by omega)]
  · rw [if_neg c1, if_neg (by omega), if_neg (by omega), if_neg (by omega)]
theorem rv_less (d : Array Nat) {m i j : Nat} (hi : 0 < i) (hij : i < j) (him : i ≤ m) (hs : m + j ≤ d.size) (t : Nat) : rv (sr d (m - i) (m + j - i) i) (m - i) m (m + (j - i)) t = rv d (m - i) m (m + j) t := by
  unfold rv
  simp only [sr_get d (m - i) (m + j - i) i (by omega) (by omega)]
  by_cases c1 : m - i ≤ t ∧ t < m + j
  · rw [if_pos c1]
    by_cases c2 : t < m - i + (m + j - m)
    · rw [if_pos c2]
      by_cases c4 : t < m + (j - i)
      · rw [if_pos (by omega)]
        by_cases c3 : t < m - i + (m + (j - i) - m)
        · rw [if_pos c3, if_neg (by omega), if_neg (by omega)]
        · rw [if_neg c3, if_pos (by omega)]
          congr 1
          omega
      · omega
    · rw [if_neg c2]
      rw [if_neg (by omega), if_neg (by omega), if_pos (by omega)]
      congr 1
      omega
  · rw [if_neg c1, if_neg (by omega), if_neg (by omega), if_neg (by omega)]
theorem rv_same (d : Array Nat) {m i : Nat} (him : i ≤ m) (hs : m + i ≤ d.size) (t : Nat) : (sr d (m - i) m i)[t]! = rv d (m - i) m (m + i) t := by
  unfold rv
  rw [sr_get d (m - i) m i (by omega) hs]
  by_cases c1 : m - i ≤ t ∧ t < m + i
  · rw [if_pos c1]
    by_cases c2 : t < m - i + (m + i - m)
    · rw [if_pos c2, if_pos (by omega)]
    · rw [if_neg c2, if_neg (by omega), if_pos (by omega)]
      congr 1
      omega
  · rw [if_neg c1, if_neg (by omega), if_neg (by omega)]
/-- One element moved up, one moved down. -/
def mvU (d : Array Nat) (a : Nat) : Nat → Array Nat
  | 0 => d
  | c + 1 => swp (mvU d a c) (a + c) (a + c + 1)
theorem mvU_size (d : Array Nat) (a : Nat) : ∀ c, (mvU d a c).size = d.size
  | 0 => rfl
  | c + 1 => by rw [mvU, swp_size, mvU_size d a c]
theorem mvU_get (d : Array Nat) (a : Nat) : ∀ c, a + c < d.size → ∀ t, (mvU d a c)[t]! = if t < a ∨ a + c < t then d[t]! else if t = a + c then d[a]! else d[t + 1]!
  | 0, _, t => by
    by_cases e : t < a ∨ a + 0 < t
    · rw [if_pos e]
      rfl
    · rw [if_neg e, if_pos (by omega)]
      show d[t]! = _
      congr 1
      omega
  | c + 1, h, t => by
    have ih := mvU_get d a c (by omega)
    have hs := mvU_size d a c
    rw [mvU, swp_get _ (by omega) (by omega), ih, ih, ih]
    by_cases e1 : t = a + c + 1
    · subst e1
      rw [if_pos rfl, if_neg (by omega), if_pos rfl, if_neg (by omega), if_pos (by omega)]
    · rw [if_neg e1]
      by_cases e2 : t = a + c
      · subst e2
        rw [if_pos rfl, if_pos (by omega), if_neg (by omega), if_neg (by omega)]
      · rw [if_neg e2]
        by_cases e3 : t < a ∨ a + c < t
        · rw [if_pos e3, if_pos (by omega)]
        · rw [if_neg e3, if_neg (by omega), if_neg (by omega), if_neg (by omega)]
theorem mvU_perm (d : Array Nat) (a lo hi : Nat) (h0 : lo ≤ a) (hhi : hi ≤ d.size) : ∀ c, a + c < hi → PermIn lo hi d (mvU d a c)
  | 0, _ => permIn_refl _ _ _
  | c + 1, h => permIn_trans _ _ _ _ _ (mvU_perm d a lo hi h0 hhi c (by omega)) (swp_permIn _ lo hi (a + c) (a + c + 1) (by omega) (by omega) (by omega) (by omega) (by rw [mvU_size]; exact hhi))
def mvD (d : Array Nat) (m : Nat) : Nat → Array Nat
  | 0 => d
  | c + 1 => swp (mvD d m c) (m - c) (m - c - 1)
theorem mvD_size (d : Array Nat) (m : Nat) : ∀ c, (mvD d m c).size = d.size
  | 0 => rfl
  | c + 1 => by rw [mvD, swp_size, mvD_size d m c]
theorem mvD_get (d : Array Nat) (m : Nat) (hm : m < d.size) : ∀ c, c ≤ m → ∀ t, (mvD d m c)[t]! = if t < m - c ∨ m < t then d[t]! else if t = m - c then d[m]! else d[t - 1]!
  | 0, _, t => by
    by_cases e : t < m - 0 ∨ m < t
    · rw [if_pos e]
      rfl
    · rw [if_neg e, if_pos (by omega)]
      show d[t]! = _
      congr 1
      omega
  | c + 1, h, t => by
    have ih := mvD_get d m hm c (by omega)
    have hs := mvD_size d m c
    rw [mvD, swp_get _ (by omega) (by omega), ih, ih, ih]
    by_cases e1 : t = m - c - 1
    · subst e1
      rw [if_pos rfl, if_neg (by omega), if_pos rfl, if_neg (by omega), if_pos (by omega)]
    · rw [if_neg e1]
      by_cases e2 : t = m - c
      · subst e2
        rw [if_pos rfl, if_pos (by omega), if_neg (by omega), if_neg (by omega)]
      · rw [if_neg e2]
        by_cases e3 : t < m - c ∨ m < t
        · rw [if_pos e3, if_pos (by omega)]
        · rw [if_neg e3, if_neg (by omega), if_neg (by omega), if_neg (by omega)]
theorem mvD_perm (d : Array Nat) (m lo hi : Nat) (h0 : m < hi) (hhi : hi ≤ d.size) : ∀ c, lo + c ≤ m → PermIn lo hi d (mvD d m c)
  | 0, _ => permIn_refl _ _ _
  | c + 1, h => permIn_trans _ _ _ _ _ (mvD_perm d m lo hi h0 hhi c (by omega)) (swp_permIn _ lo hi (m - c) (m - c - 1) (by omega) (by omega) (by omega) (by omega) (by rw [mvD_size]; exact hhi))
/-- One element before a sorted range. -/
theorem merge_up {key : Nat → Int} {lt : Nat → Nat → Bool} (hk : KeyLt key lt) {a b i : Nat} {d : Array Nat} (hs : Srt key (a + 1) b d) (ht : Tag a (a + 1) b d) (h1 : a + 1 ≤ i) (h2 : i ≤ b) (hb : b ≤ d.size) (hl : a + 1 < i → lt d[i - 1]! d[a]! = true) (hr : i < b → lt d[i]! d[a]! = false) : Srt key a b (mvU d a (i - 1 - a)) := by
  have hlo : ∀ q, a + 1 ≤ q → q < i → Lx key d[q]! d[a]! := fun q hq hqi => by
    have h3 := hk.yes _ _ (hl (by omega))
    by_cases e : q = i - 1
    · subst e
      exact .inl h3
    · exact (hs q (i - 1) hq (by omega) (by omega)).trans (.inl h3)
  have hhi : ∀ q, i ≤ q → q < b → Lx key d[a]! d[q]! := fun q hq hqb => by
    have h3 := hk.no _ _ (hr (by omega))
    have h4 := ht a i (Nat.le_refl _) (by omega) (by omega) (by omega)
    have h5 : Lx key d[a]! d[i]! := by unfold Lx; omega
    by_cases e : q = i
    · subst e
      exact h5
    · exact h5.trans (hs i q (by omega) (by omega) hqb)
  intro p q hp hpq hq
  have g := mvU_get d a (i - 1 - a) (by omega)
  rw [g, g]
  by_cases e1 : a + (i - 1 - a) < p
  · rw [if_pos (.inr e1), if_pos (by omega)]
    exact hs p q (by omega) hpq hq
  · rw [if_neg (by omega)]
    by_cases e2 : p = a + (i - 1 - a)
    · rw [if_pos e2, if_pos (by omega)]
      exact hhi q (by omega) hq
    · rw [if_neg e2]
      by_cases e3 : a + (i - 1 - a) < q
      · rw [if_pos (.inr e3)]
        exact hs (p + 1) q (by omega) (by omega) hq
      · rw [if_neg (by omega)]
        by_cases e4 : q = a + (i - 1 - a)
        · rw [if_pos e4]
          exact hlo (p + 1) (by omega) (by omega)
        · rw [if_neg e4]
          exact hs (p + 1) (q + 1) (by omega) (by omega) (by omega)
/-- One element behind a sorted range. -/
theorem merge_down {key : Nat → Int} {lt : Nat → Nat → Bool} (hk : KeyLt key lt) {a m i : Nat} {d : Array Nat} (hs : Srt key a m d) (ht : Tag a m (m + 1) d) (h1 : a ≤ i) (h2 : i ≤ m) (hb : m < d.size) (hl : a < i → lt d[m]! d[i - 1]! = false) (hr : i < m → lt d[m]! d[i]! = true) : Srt key a (m + 1) (mvD d m (m - i)) := by
  have hlo : ∀ q, a ≤ q → q < i → Lx key d[q]! d[m]! := fun q hq hqi => by
    have h3 := hk.no _ _ (hl (by omega))
    have h4 := ht (i - 1) m (by omega) (by omega) (by omega) (by omega)
    have h5 : Lx key d[i - 1]! d[m]! := by unfold Lx; omega
    by_cases e : q = i - 1
    · subst e
      exact h5
    · exact (hs q (i - 1) hq (by omega) (by omega)).trans h5
  have hhi : ∀ q, i ≤ q → q < m → Lx key d[m]! d[q]! := fun q hq hqb => by
    have h5 : Lx key d[m]! d[i]! := .inl (hk.yes _ _ (hr (by omega)))
    by_cases e : q = i
    · subst e
      exact h5
    · exact h5.trans (hs i q (by omega) (by omega) hqb)
  intro p q hp hpq hq
  have g := mvD_get d m hb (m - i) (by omega)
  rw [g, g]
  by_cases e1 : q < m - (m - i)
  · rw [if_pos (by omega), if_pos (.inl e1)]
    exact hs p q hp hpq (by omega)
  · rw [if_neg (c := q < m - (m - i) ∨ m < q) (by omega)]
    by_cases e2 : q = m - (m - i)
    · rw [if_pos (by omega), if_pos e2]
      exact hlo p hp (by omega)
    · rw [if_neg e2]
      by_cases e3 : p < m - (m - i)
      · rw [if_pos (.inl e3)]
        exact hs p (q - 1) hp (by omega) (by omega)
      · rw [if_neg (by omega)]
        by_cases e4 : p = m - (m - i)
        · rw [if_pos e4]
          exact hhi (q - 1) (by omega) (by omega)
        · rw [if_neg e4]
          exact hs (p - 1) (q - 1) (by omega) (by omega) (by omega)
/-- Behind the rotation: four sorted parts, the first two not behind the last two. -/
structure Mid (key : Nat → Int) (a s mid e b : Nat) (d1 : Array Nat) : Prop where
  u1 : Srt key a s d1
  v1 : Srt key s mid d1
  t1 : Tag a s mid d1
  u2 : Srt key mid e d1
  v2 : Srt key e b d1
  t2 : Tag mid e b d1
  cross : ∀ i j, a ≤ i → i < mid → mid ≤ j → j < b → Lx key d1[i]! d1[j]!
theorem mid_of {key : Nat → Int} {lt : Nat → Nat → Bool} (hk : KeyLt key lt) {a m b s mid lo hi : Nat} {d d1 : Array Nat} (hs1 : Srt key a m d) (hs2 : Srt key m b d) (ht : Tag a m b d) (ham : a < m) (hmb : m < b) (hb : b ≤ d.size)
    (hmid : mid = (a + b) / 2) (hlo : (mid < m ∧ lo = mid + m - b ∧ hi = mid) ∨ (m ≤ mid ∧ lo = a ∧ hi = m)) (h1 : lo ≤ s) (h2 : s ≤ hi) (hl : lo < s → lt d[mid + m - 1 - (s - 1)]! d[s - 1]! = false) (hr : s < hi → lt d[mid + m - 1 - s]! d[s]! = true)
    (hd : ∀ t, d1[t]! = rv d s m (mid + m - s) t) : Mid key a s mid (mid + m - s) b d1 := by
  have hsm : s ≤ m := by omega
  have has : a ≤ s := by omega
  have hme : m ≤ mid + m - s := by omega
  have heb : mid + m - s ≤ b := by omega
  have hsmid : s ≤ mid := by omega
  have g1 : ∀ t, t < s → d1[t]! = d[t]! := fun t h => by rw [hd]; unfold rv; rw [if_neg (by omega)]
  have g2 : ∀ t, s ≤ t → t < mid → d1[t]! = d[t - s + m]! := fun t h h' => by rw [hd]; unfold rv; rw [if_pos (by omega), if_pos (by omega)]
  have g3 : ∀ t, mid ≤ t → t < mid + m - s → d1[t]! = d[t - (mid - s)]! := fun t h h' => by
    rw [hd]
    unfold rv
    rw [if_pos (by omega), if_neg (by omega)]
    congr 1
    omega
  have g4 : ∀ t, mid + m - s ≤ t → d1[t]! = d[t]! := fun t h => by rw [hd]; unfold rv; rw [if_neg (by omega)]
  refine ⟨fun i j h1 h2 h3 => ?_, fun i j h1 h2 h3 => ?_, fun i j h1 h2 h3 h4 => ?_, fun i j h1 h2 h3 => ?_, fun i j h1 h2 h3 => ?_, fun i j h1 h2 h3 h4 => ?_, fun i j h3 h4 h5 h6 => ?_⟩
  · rw [g1 i (by omega), g1 j h3]
    exact hs1 i j h1 h2 (by omega)
  · rw [g2 i h1 (by omega), g2 j (by omega) h3]
    exact hs2 _ _ (by omega) (by omega) (by omega)
  · rw [g1 i h2, g2 j h3 h4]
    exact ht _ _ (by omega) (by omega) (by omega) (by omega)
  · rw [g3 i h1 (by omega), g3 j (by omega) h3]
    exact hs1 _ _ (by omega) (by omega) (by omega)
  · rw [g4 i h1, g4 j (by omega)]
    exact hs2 _ _ (by omega) (by omega) (by omega)
  · rw [g3 i h1 h2, g4 j h3]
    exact ht _ _ (by omega) (by omega) (by omega) (by omega)
  · rcases Nat.lt_or_ge i s with q1 | q1
    · rw [g1 i q1]
      rcases Nat.lt_or_ge j (mid + m - s) with q2 | q2
      · rw [g3 j h5 q2]
        exact hs1 _ _ (by omega) (by omega) (by omega)
      · rw [g4 j q2]
        -- the last of the first part is not more than the first of the last part
        have hls : lo < s := by omega
        have h7 := hk.no _ _ (hl hls)
        rw [show mid + m - 1 - (s - 1) = mid + m - s by omega] at h7
        have h8 := ht (s - 1) (mid + m - s) (by omega) (by omega) (by omega) (by omega)
        have h9 : Lx key d[s - 1]! d[mid + m - s]! := by unfold Lx; omega
        have h10 : Lx key d[i]! d[mid + m - s]! := by
          by_cases e : i = s - 1
          · subst e
            exact h9
          · exact (hs1 i (s - 1) h3 (by omega) (by omega)).trans h9
        by_cases e : j = mid + m - s
        · subst e
          exact h10
        · exact h10.trans (hs2 _ _ (by omega) (by omega) (by omega))
    · rw [g2 i q1 h4]
      rcases Nat.lt_or_ge j (mid + m - s) with q2 | q2
      · rw [g3 j h5 q2]
        have h7 := hk.yes _ _ (hr (by omega))
        rw [show mid + m - 1 - s = mid - 1 - s + m by omega] at h7
        have h9 : Lx key d[mid - 1 - s + m]! d[s]! := .inl h7
        have h10 : Lx key d[i - s + m]! d[s]! := by
          by_cases e : i = mid - 1
          · rw [show i - s + m = mid - 1 - s + m by omega]
            exact h9
          · exact (hs2 _ _ (by omega) (by omega) (by omega)).trans h9
        by_cases e : j - (mid - s) = s
        · rw [e]
          exact h10
        · exact h10.trans (hs1 _ _ (by omega) (by omega) (by omega))
      · rw [g4 j q2]
        exact hs2 _ _ (by omega) (by omega) (by omega)
theorem mid_left {key : Nat → Int} {a s mid e b : Nat} {d1 : Array Nat} (h : Mid key a s mid e b d1) (hn : ¬ (a < s ∧ s < mid)) (has : a ≤ s) (hsm : s ≤ mid) : Srt key a mid d1 := by
  rcases Nat.lt_or_ge a s with q | q
  · have : s = mid := by omega
    rw [← this]
    exact h.u1
  · have : a = s := by omega
    rw [this]
    exact h.v1
theorem mid_right {key : Nat → Int} {a s mid e b : Nat} {d1 : Array Nat} (h : Mid key a s mid e b d1) (hn : ¬ (mid < e ∧ e < b)) (has : mid ≤ e) (hsm : e ≤ b) : Srt key mid b d1 := by
  rcases Nat.lt_or_ge mid e with q | q
  · have : e = b := by omega
    rw [← this]
    exact h.u2
  · have : mid = e := by omega
    rw [this]
    exact h.v2
theorem mid_all {key : Nat → Int} {a s mid e b : Nat} {d1 d2 d3 : Array Nat} (h : Mid key a s mid e b d1) (hb : b ≤ d1.size) (ham : a ≤ mid) (hmb : mid ≤ b) (h2 : Srt key a mid d2) (p2 : PermIn a mid d1 d2) (h3 : Srt key mid b d3) (p3 : PermIn mid b d2 d3) : Srt key a b d3 := by
  refine srt_join (m := mid) (srt_congr h2 (fun i _ hi => permIn_at p3 (.inl hi))) h3 (fun i j h4 h5 h6 h7 => ?_)
  rw [permIn_at p3 (i := i) (.inl h5)]
  have hx : ∀ q, mid ≤ q → q < b → Lx key d2[i]! d2[q]! := fun q hq hqb => by
    rw [permIn_at p2 (i := q) (.inr hq)]
    exact permIn_all d1 d2 a mid (fun v => Lx key v d1[q]!) (by omega) p2 (fun i' h8 h9 => h.cross i' q h8 h9 hq hqb) i h4 h5
  exact permIn_all d2 d3 mid b (fun v => Lx key d2[i]! v) (by rw [p2.1]; exact hb) p3 (fun q hq hqb => hx q hq hqb) j h6 h7
end Go.Proofs.YtocjkhfghldnnaaDoor

namespace Go.Proofs.YtocjkhfghldnnaaDoor
open Go.ChangeShapes Go.WideShapes Go.ChangeAt Go.RowKit Go.Lib Go.Sort Go.Proofs
set_option linter.unusedVariables false

/-- The number that lies at the place where element i lay of old. -/
def encI (l : List Int) (i : Nat) : Value := .int .i64 (it l i)
theorem encI_one (l : List Int) : OneCell (encI l) := fun _ => rfl
section
variable {l : List Int} {w0 W : World} {blk off : Nat} {d0 dk : Array Nat}
/-- What an exchange of two places asks and leaves. -/
structure Xch (l : List Int) (w0 W : World) (blk off : Nat) (dk : Array Nat) (i j : Nat) : Prop where
  ci : W.cell? ⟨blk, off + i, none⟩ = some (.int .i64 (it l dk[i]!))
  cj : W.cell? ⟨blk, off + j, none⟩ = some (.int .i64 (it l dk[j]!))
  fi : W.frozen? ⟨blk, off + i, none⟩ = false
  fj : W.frozen? ⟨blk, off + j, none⟩ = false
  c2 : ∃ u, (W.setCell ⟨blk, off + i, none⟩ (.int .i64 (it l dk[j]!))).cell? ⟨blk, off + j, none⟩ = some u
  sw : SW (encI l) w0 blk off (swp dk i j) ((W.setCell ⟨blk, off + i, none⟩ (.int .i64 (it l dk[j]!))).setCell ⟨blk, off + j, none⟩ (.int .i64 (it l dk[i]!))).drew
theorem xch (S : SW (encI l) w0 blk off dk W) (R : Row1 (encI l) w0 blk off d0) (hs : dk.size = d0.size) (i j : Nat) (hi : i < dk.size) (hj : j < dk.size) : Xch l w0 W blk off dk i j :=
  ⟨S.c1 R hs i hi, S.c1 R hs j hj, S.f1 R hs i hi, S.f1 R hs j hj, S.c2 R hs i j hi hj _, S.swapped R i j hi hj⟩
end

set_option maxHeartbeats 4000000 in
set_option maxRecDepth 100000 in
theorem swapRange_any (l : List Int) (g : Nat) (cb : Array Value) (blk off cap a b n : Nat) (d0 d : Array Nat) (w0 w : World) (R : Row1 (encI l) w0 blk off d0) (hs : d0.size = d.size) (S : SW (encI l) w0 blk off d w) (h1 : a + n ≤ b) (h2 : b + n ≤ d.size) (hsz : d.size < 1000000) :
    Calls Tryd.prog 103 #[.slice (some ⟨blk, off, none⟩) d.size cap, .int .i64 a, .int .i64 b, .int .i64 n, .func (.func g) #[] cb] w fun e w' => e = .returned (.tuple #[]) ∧ SW (encI l) w0 blk off (sr d a b n) w' := by
  have S0 := Lib.hid S
  have RR := Lib.hid R
  have HS := Lib.hid hs
  clear S R hs
  go_enter Tryd.func103, Tryd.ntmps103
  go_wp2
  go_loopw [10] (fun v wr => ∃ i : Nat, i ≤ n ∧ v = .int .i64 i ∧ Hid (SW (encI l) w0 blk off (sr d a b i) wr)) (fun v _ => n - (intOf v).toNat)
  case atStart => exact ⟨0, Nat.zero_le _, rfl, S0⟩
  case round =>
    clear S0
    obtain ⟨i, hi, rfl, S1⟩ := hrel
    by_cases hlt : i < n
    · have hsr := sr_size d a b i
      obtain ⟨p, hp⟩ : ∃ p, p = a + i := ⟨_, rfl⟩
      obtain ⟨q, hq⟩ : ∃ q, q = b + i := ⟨_, rfl⟩
      obtain ⟨ci, cj, fi, fj, ⟨u, c2⟩, sw⟩ := xch S1.out RR.out (by rw [hsr, HS.out]) p q (by omega) (by omega)
      have HSW := Lib.hid (show SW (encI l) w0 blk off (sr d a b (i + 1)) _ from by
        have h := sw
        rw [hp, hq] at h
        exact h)
      have e1 : (a : Int) + (i : Int) = (p : Int) := by omega
      have e2 : (b : Int) + (i : Int) = (q : Int) := by omega
      have p1 : p < d.size := by omega
      have p2 : q < d.size := by omega
      have P1 := Lib.hid hp
      have P2 := Lib.hid hq
      have HSR := Lib.hid hsr
      obtain ⟨X, hX⟩ : ∃ X, X = it l (sr d a b i)[p]! := ⟨_, rfl⟩
      obtain ⟨Y, hY⟩ : ∃ Y, Y = it l (sr d a b i)[q]! := ⟨_, rfl⟩
      rw [← hX] at ci
      rw [← hY] at cj c2
      rw [← hp, ← hq, ← hX, ← hY] at HSW
      have r1 : IntKind.i64.wrap (p : Int) = (p : Int) := IntWalk.i64_in _ (by omega)
      have r2 : IntKind.i64.wrap (q : Int) = (q : Int) := IntWalk.i64_in _ (by omega)
      have b1 : (0 : Int) ≤ (p : Int) := by omega
      have b2 : (p : Int) < (d.size : Int) := by omega
      have b3 : (0 : Int) ≤ (q : Int) := by omega
      have b4 : (q : Int) < (d.size : Int) := by omega
      clear sw hp hq hsr hX hY
      go_wp2_with fail
      go_region
      all_goals
        go_wp2
        go_roundw
        case rel => exact ⟨i + 1, by omega, by go_num, HSW⟩
        case measure => simp [intOf]; omega
    · obtain rfl : i = n := by omega
      go_wp2
      go_end0
      exact ⟨rfl, S1.out⟩

set_option maxHeartbeats 4000000 in
set_option maxRecDepth 100000 in
theorem rotate_any (l : List Int) (g : Nat) (cb : Array Value) (blk off cap a m b : Nat) (d0 d : Array Nat) (w0 w : World) (R : Row1 (encI l) w0 blk off d0) (hs : d0.size = d.size) (S : SW (encI l) w0 blk off d w) (h1 : a < m) (h2 : m < b) (h3 : b ≤ d.size) (hsz : d.size < 1000000) :
    Calls Tryd.prog 102 #[.slice (some ⟨blk, off, none⟩) d.size cap, .int .i64 a, .int .i64 m, .int .i64 b, .func (.func g) #[] cb] w fun e w' => e = .returned (.tuple #[]) ∧ ∃ d', SW (encI l) w0 blk off d' w' ∧ d'.size = d.size ∧ PermIn a b d d' ∧ ∀ t, d'[t]! = rv d a m b t := by
  have S0 := Lib.hid S
  have RR := Lib.hid R
  have HS := Lib.hid hs
  have ENDW := Lib.hid (show (a : Nat) = m - (m - a) ∧ b = m + (b - m) by omega)
  clear S R hs
  go_enter Tryd.func102, Tryd.ntmps102
  go_wp2
  go_loopw [10, 11] (fun v1 v2 wr => ∃ (i j : Nat) (dk : Array Nat), v1 = .int .i64 i ∧ v2 = .int .i64 j ∧ 0 < i ∧ 0 < j ∧ a + i ≤ m ∧ m + j ≤ b ∧ Hid (dk.size = d.size) ∧ Hid (SW (encI l) w0 blk off dk wr) ∧ Hid (PermIn a b d dk) ∧ Hid (∀ t, rv dk (m - i) m (m + j) t = rv d a m b t)) (fun v1 v2 _ => (intOf v1).toNat + (intOf v2).toNat)
  case atStart => exact ⟨m - a, b - m, d, by go_num, by go_num, by omega, by omega, by omega, by omega, Lib.hid rfl, S0, Lib.hid (permIn_refl _ _ _), Lib.hid (fun t => by rw [← ENDW.out.1, ← ENDW.out.2])⟩
  case round =>
    clear S0
    obtain ⟨i, j, dk, rfl, rfl, hi0, hj0, hi, hj, HD, S1, HP, HV⟩ := hrel
    rcases Nat.lt_trichotomy i j with hij | hij | hij
    · obtain ⟨p, hp⟩ : ∃ p, p = m - i := ⟨_, rfl⟩
      obtain ⟨q, hq⟩ : ∃ q, q = m + j - i := ⟨_, rfl⟩
      have e1 : (m : Int) - (i : Int) = (p : Int) := by omega
      have e2 : (m : Int) + (j : Int) - (i : Int) = (q : Int) := by omega
      have hcall := swapRange_any l g cb blk off cap p q i d0 dk w0 wr RR.out (by rw [HS.out, HD.out]) S1.out (by omega) (by rw [HD.out]; omega) (by rw [HD.out]; exact hsz)
      rw [HD.out] at hcall
      have HC := Lib.hid hcall
      have HP2 := Lib.hid (permIn_trans _ _ _ _ _ HP.out (sr_perm dk p q a b (by omega) (by rw [HD.out]; exact h3) i (by omega) (by omega)))
      have HV2 := Lib.hid (show ∀ t, rv (sr dk p q i) (m - i) m (m + (j - i)) t = rv d a m b t from fun t => by
        rw [hp, hq, rv_less dk hi0 hij (by omega) (by rw [HD.out]; omega) t]
        exact HV.out t)
      have HD2 := Lib.hid (show (sr dk p q i).size = d.size by rw [sr_size, HD.out])
      clear hcall hp hq
      go_wp2_with (first | (go_at_call 103; refine HC.out.mono ?_; rintro e w2 ⟨rfl, hsw⟩; have S2 := Lib.hid hsw; clear hsw))
      go_roundw
      case rel => exact ⟨i, j - i, _, by go_num, by go_num, hi0, by omega, hi, by omega, HD2, S2, HP2, HV2⟩
      case measure => simp [intOf]; omega
    · subst hij
      obtain ⟨p, hp⟩ : ∃ p, p = m - i := ⟨_, rfl⟩
      have e1 : (m : Int) - (i : Int) = (p : Int) := by omega
      have hcall := swapRange_any l g cb blk off cap p m i d0 dk w0 wr RR.out (by rw [HS.out, HD.out]) S1.out (by omega) (by rw [HD.out]; omega) (by rw [HD.out]; exact hsz)
      rw [HD.out] at hcall
      have HC := Lib.hid hcall
      have HP2 := Lib.hid (permIn_trans _ _ _ _ _ HP.out (sr_perm dk p m a b (by omega) (by rw [HD.out]; exact h3) i (by omega) (by omega)))
      have HV2 := Lib.hid (show ∀ t, (sr dk p m i)[t]! = rv d a m b t from fun t => by
        rw [hp, rv_same dk (by omega) (by rw [HD.out]; omega) t]
        exact HV.out t)
      have HD2 := Lib.hid (show (sr dk p m i).size = d.size by rw [sr_size, HD.out])
      clear hcall hp
      go_wp2_with (first | (go_at_call 103; refine HC.out.mono ?_; rintro e w2 ⟨rfl, hsw⟩; have S2 := Lib.hid hsw; clear hsw))
      go_end0
      exact ⟨rfl, _, S2.out, HD2.out, HP2.out, HV2.out⟩
    · obtain ⟨p, hp⟩ : ∃ p, p = m - i := ⟨_, rfl⟩
      have e1 : (m : Int) - (i : Int) = (p : Int) := by omega
      have hcall := swapRange_any l g cb blk off cap p m j d0 dk w0 wr RR.out (by rw [HS.out, HD.out]) S1.out (by omega) (by rw [HD.out]; omega) (by rw [HD.out]; exact hsz)
      rw [HD.out] at hcall
      have HC := Lib.hid hcall
      have HP2 := Lib.hid (permIn_trans _ _ _ _ _ HP.out (sr_perm dk p m a b (by omega) (by rw [HD.out]; exact h3) j (by omega) (by omega)))
      have HV2 := Lib.hid (show ∀ t, rv (sr dk p m j) (m - (i - j)) m (m + j) t = rv d a m b t from fun t => by
        rw [hp, rv_more dk hj0 hij (by omega) (by rw [HD.out]; omega) t]
        exact HV.out t)
      have HD2 := Lib.hid (show (sr dk p m j).size = d.size by rw [sr_size, HD.out])
      clear hcall hp
      go_wp2_with (first | (go_at_call 103; refine HC.out.mono ?_; rintro e w2 ⟨rfl, hsw⟩; have S2 := Lib.hid hsw; clear hsw))
      go_roundw
      case rel => exact ⟨i - j, j, _, by go_num, by go_num, by omega, hj0, by omega, hj, HD2, S2, HP2, HV2⟩
      case measure => simp [intOf]; omega
end Go.Proofs.YtocjkhfghldnnaaDoor

namespace Go.Proofs.YtocjkhfghldnnaaDoor
open Go.ChangeShapes Go.WideShapes Go.ChangeAt Go.RowKit Go.Lib Go.Sort Go.Proofs
set_option linter.unusedVariables false

/-- How two places compare, by their keys. -/
def cfK (key : Nat → Int) (i j : Nat) : Int := if key i < key j then -1 else if key j < key i then 1 else 0
theorem cfK_lt {key : Nat → Int} {i j : Nat} : cfK key i j < 0 ↔ key i < key j := by
  unfold cfK
  split
  · omega
  · split <;> omega
theorem ltOf_cfK (key : Nat → Int) : KeyLt key (ltOf (cfK key)) := ⟨fun i j h => cfK_lt.1 (of_decide_eq_true h), fun i j h => by
  have := of_decide_eq_false h
  rw [cfK_lt] at this
  omega⟩
theorem half_mid (a b : Nat) : ((a : Int) + (b : Int)) / 2 = (((a + b) / 2 : Nat) : Int) := by omega

/-- What a merge asks: a row whose first part and whose second part are sorted, the first of old before the second. -/
structure SymIn (key : Nat → Int) (l : List Int) (g : Nat) (cb : Array Value) (blk off : Nat) (d0 : Array Nat) (w0 : World) (a m b : Nat) (d : Array Nat) (w : World) : Prop where
  eg : ∀ args w, (callFunc g args).run Tryd.prog w = .ok (.enter g args) w
  cmp : CmpLays1 Tryd.prog g cb (encI l) (cfK key) blk off d0.size w0
  R : Row1 (encI l) w0 blk off d0
  hsz : d0.size < 1000000
  hs : d0.size = d.size
  S : SW (encI l) w0 blk off d w
  h1 : a < m
  h2 : m < b
  h3 : b ≤ d.size
  s1 : Srt key a m d
  s2 : Srt key m b d
  t : Tag a m b d
/-- What it leaves. -/
def SymOut (key : Nat → Int) (l : List Int) (blk off : Nat) (w0 : World) (a b : Nat) (d : Array Nat) (w' : World) : Prop :=
  ∃ d', SW (encI l) w0 blk off d' w' ∧ d'.size = d.size ∧ PermIn a b d d' ∧ Srt key a b d'
end Go.Proofs.YtocjkhfghldnnaaDoor

namespace Go.Proofs.YtocjkhfghldnnaaDoor
open Go.ChangeShapes Go.WideShapes Go.ChangeAt Go.RowKit Go.Lib Go.Sort Go.Proofs
set_option linter.unusedVariables false

set_option maxHeartbeats 8000000 in
set_option maxRecDepth 100000 in
theorem symMerge_left (key : Nat → Int) (l : List Int) (g : Nat) (cb : Array Value) (blk off cap : Nat) (d0 : Array Nat) (w0 : World) (a m b : Nat) (d : Array Nat) (w : World) (A : SymIn key l g cb blk off d0 w0 a m b d w) (hm : m = a + 1) :
    Calls Tryd.prog 100 #[.slice (some ⟨blk, off, none⟩) d.size cap, .int .i64 a, .int .i64 m, .int .i64 b, .func (.func g) #[] cb] w fun e w' => e = .returned (.tuple #[]) ∧ SymOut key l blk off w0 a b d w' := by
  have S0 := Lib.hid A.S
  have RR := Lib.hid A.R
  have HS := Lib.hid A.hs
  have HCMP := Lib.hid A.cmp
  have HS1 := Lib.hid A.s1
  have HS2 := Lib.hid A.s2
  have HT := Lib.hid A.t
  have HK := Lib.hid (ltOf_cfK key)
  have hd : d.size < 1000000 := by have := A.hs; have := A.hsz; omega
  have h1 := A.h1
  have h2 := A.h2
  have h3 := A.h3
  have eg := A.eg
  have mixed : Tryd.prog.follows .mixedOrders = true := by kernel_rfl
  clear A
  go_enter Tryd.func100, Tryd.ntmps100
  have e1 : (m : Int) - (a : Int) = 1 := by omega
  have hma1 : a + 1 ≤ m := by omega
  have hma2 : m ≤ a + 1 := by omega
  have HM0 := Lib.hid hm
  clear hm
  go_wp2
  go_loopw [10, 11] (fun v1 v2 wr => ∃ i j : Nat, v1 = .int .i64 i ∧ v2 = .int .i64 j ∧ a + 1 ≤ i ∧ i ≤ j ∧ j ≤ b ∧ Hid (SW (encI l) w0 blk off d wr) ∧ Hid (a + 1 < i → ltOf (cfK key) d[i - 1]! d[a]! = true) ∧ Hid (j < b → ltOf (cfK key) d[j]! d[a]! = false)) (fun v1 v2 _ => (intOf v2).toNat - (intOf v1).toNat)
  case atStart => exact ⟨m, b, rfl, rfl, by omega, by omega, Nat.le_refl _, S0, Lib.hid (fun h => absurd h (by omega)), Lib.hid (fun h => absurd h (by omega))⟩
  case round =>
    clear S0
    obtain ⟨i, j, rfl, rfl, hi, hij, hj, S1, HI, HJ⟩ := hrel
    rcases Nat.lt_or_ge i j with hlt | hge
    · obtain ⟨hh, hhd⟩ : ∃ hh, hh = (i + j) / 2 := ⟨_, rfl⟩
      have hb1 : i ≤ hh := by omega
      have hb2 : hh < j := by omega
      have e2 : ((i : Int) + (j : Int)) / 2 = (hh : Int) := by omega
      have b1 : (0 : Int) ≤ (hh : Int) := by omega
      have b2 : (hh : Int) < (d.size : Int) := by omega
      have b3 : (0 : Int) ≤ (a : Int) := by omega
      have b4 : (a : Int) < (d.size : Int) := by omega
      clear hhd
      obtain ⟨X, hX⟩ : ∃ X, X = d[hh]! := ⟨_, rfl⟩
      obtain ⟨Y, hY⟩ : ∃ Y, Y = d[a]! := ⟨_, rfl⟩
      have la : ∀ (n : Nat) (os : Array Obj), (grow (wr.drewN n) os).cell? ⟨blk, off + hh, none⟩ = some (.int .i64 (it l X)) := fun n os => by rw [hX]; exact S1.out.cl RR.out (by rw [HS.out]) hh (by omega) n os
      have lb : ∀ (n : Nat) (os : Array Obj), (grow (wr.drewN n) os).cell? ⟨blk, off + a, none⟩ = some (.int .i64 (it l Y)) := fun n os => by rw [hY]; exact S1.out.cl RR.out (by rw [HS.out]) a (by omega) n os
      have hc := S1.out.cmp HCMP.out (by rw [HS.out]) X Y
      have HX := Lib.hid hX
      have HY := Lib.hid hY
      clear hX hY
      by_cases hl : cfK key X Y < 0
      · have hd1 : decide (cfK key X Y < 0) = true := decide_eq_true hl
        have HL := Lib.hid (show ltOf (cfK key) d[hh]! d[a]! = true by rw [← HX.out, ← HY.out]; exact hd1)
        go_wp2_with fail
        go_quiet_grown (first | (go_at_fn g; refine Calls.grown_of (hc _ _)))
        have S2 := Lib.hid (S1.out.grown nq osq)
        clear la lb hc
        generalize grow (wr.drewN nq) osq = w2 at S2 ⊢
        clear nq osq
        go_wp2
        go_roundw
        case rel => exact ⟨hh + 1, j, by go_num, rfl, by omega, by omega, hj, S2, Lib.hid (fun _ => HL.out), HJ⟩
        case measure => simp [intOf]; omega
      · have hd1 : decide (cfK key X Y < 0) = false := decide_eq_false hl
        have HL := Lib.hid (show ltOf (cfK key) d[hh]! d[a]! = false by rw [← HX.out, ← HY.out]; exact hd1)
        go_wp2_with fail
        go_quiet_grown (first | (go_at_fn g; refine Calls.grown_of (hc _ _)))
        have S2 := Lib.hid (S1.out.grown nq osq)
        clear la lb hc
        generalize grow (wr.drewN nq) osq = w2 at S2 ⊢
        clear nq osq
        go_wp2
        go_roundw
        case rel => exact ⟨i, hh, rfl, by go_num, hi, by omega, by omega, S2, HI, Lib.hid (fun _ => HL.out)⟩
        case measure => simp [intOf]; omega
    · obtain rfl : i = j := by omega
      have hm0 := HM0.out
      have HM := Lib.hid (merge_up HK.out (by rw [← hm0]; exact HS2.out) (by rw [← hm0]; exact HT.out) hi hj h3 HI.out HJ.out)
      have HMP := Lib.hid (mvU_perm d a a b (Nat.le_refl _) h3 (i - 1 - a) (by omega))
      clear hm0 hij hge
      go_wp2
      go_loopw [13] (fun v wr => ∃ p : Nat, a ≤ p ∧ p + 1 ≤ i ∧ v = .int .i64 p ∧ Hid (SW (encI l) w0 blk off (mvU d a (p - a)) wr)) (fun v _ => i - (intOf v).toNat)
      case atStart => exact ⟨a, Nat.le_refl _, by omega, rfl, by rw [Nat.sub_self]; exact S1⟩
      case round =>
        clear S1
        obtain ⟨p, hp1, hp2, rfl, S1⟩ := hrel
        rcases Nat.lt_or_ge (p + 1) i with hlk | hge
        · have hsr := mvU_size d a (p - a)
          obtain ⟨ci, cj, fi, fj, ⟨u, c2⟩, sw⟩ := xch S1.out RR.out (by rw [hsr, HS.out]) p (p + 1) (by omega) (by omega)
          obtain ⟨X, hX⟩ : ∃ X, X = it l (mvU d a (p - a))[p]! := ⟨_, rfl⟩
          obtain ⟨Y, hY⟩ : ∃ Y, Y = it l (mvU d a (p - a))[p + 1]! := ⟨_, rfl⟩
          have HSW := Lib.hid (show SW (encI l) w0 blk off (mvU d a (p + 1 - a)) ((wr.setCell ⟨blk, off + p, none⟩ (.int .i64 Y)).setCell ⟨blk, off + (p + 1), none⟩ (.int .i64 X)).drew from by
            rw [hX, hY, show p + 1 - a = (p - a) + 1 by omega, mvU, show a + (p - a) = p by omega]
            exact sw)
          rw [← hX] at ci
          rw [← hY] at cj c2
          have r1 : IntKind.i64.wrap ((p : Int) + 1) = (p : Int) + 1 := IntWalk.i64_in _ (by omega)
          have r2 : ((p : Int) + 1).toNat = p + 1 := by omega
          have r3 : (p : Int) < (i : Int) - 1 := by omega
          have b1 : (0 : Int) ≤ (p : Int) := by omega
          have b2 : (p : Int) < (d.size : Int) := by omega
          have b3 : (0 : Int) ≤ (p : Int) + 1 := by omega
          have b4 : (p : Int) + 1 < (d.size : Int) := by omega
          clear sw hsr hX hY
          go_wp2_with fail
          go_region
          all_goals
            go_wp2
            go_roundw
            case rel => exact ⟨p + 1, by omega, by omega, by go_num, HSW⟩
            case measure => simp [intOf]; omega
        · have r3 : (i : Int) - 1 ≤ (p : Int) := by omega
          have HE := Lib.hid (show p - a = i - 1 - a by omega)
          have HMS := Lib.hid (mvU_size d a (p - a))
          clear hge
          go_wp2
          refine bodyPost_ret (results_none rfl _ _ _) rfl ?_
          exact ⟨rfl, _, S1.out, HMS.out, by rw [HE.out]; exact HMP.out, by rw [HE.out]; exact HM.out⟩
end Go.Proofs.YtocjkhfghldnnaaDoor

namespace Go.Proofs.YtocjkhfghldnnaaDoor
open Go.ChangeShapes Go.WideShapes Go.ChangeAt Go.RowKit Go.Lib Go.Sort Go.Proofs
set_option linter.unusedVariables false

set_option maxHeartbeats 8000000 in
set_option maxRecDepth 100000 in
theorem symMerge_right (key : Nat → Int) (l : List Int) (g : Nat) (cb : Array Value) (blk off cap : Nat) (d0 : Array Nat) (w0 : World) (a m b : Nat) (d : Array Nat) (w : World) (A : SymIn key l g cb blk off d0 w0 a m b d w) (hb : b = m + 1) (hn : a + 1 < m) :
    Calls Tryd.prog 100 #[.slice (some ⟨blk, off, none⟩) d.size cap, .int .i64 a, .int .i64 m, .int .i64 b, .func (.func g) #[] cb] w fun e w' => e = .returned (.tuple #[]) ∧ SymOut key l blk off w0 a b d w' := by
  have S0 := Lib.hid A.S
  have RR := Lib.hid A.R
  have HS := Lib.hid A.hs
  have HCMP := Lib.hid A.cmp
  have HS1 := Lib.hid A.s1
  have HS2 := Lib.hid A.s2
  have HT := Lib.hid A.t
  have HK := Lib.hid (ltOf_cfK key)
  have hd : d.size < 1000000 := by have := A.hs; have := A.hsz; omega
  have h1 := A.h1
  have h2 := A.h2
  have h3 := A.h3
  have eg := A.eg
  have mixed : Tryd.prog.follows .mixedOrders = true := by kernel_rfl
  clear A
  go_enter Tryd.func100, Tryd.ntmps100
  have e0 : ((m : Int) - (a : Int) == 1) = false := by simp; omega
  have e1 : (b : Int) - (m : Int) = 1 := by omega
  have HB0 := Lib.hid hb
  have hb1 : m + 1 ≤ b := by omega
  have hb2 : b ≤ m + 1 := by omega
  clear hb
  go_wp2
  go_loopw [14, 15] (fun v1 v2 wr => ∃ i j : Nat, v1 = .int .i64 i ∧ v2 = .int .i64 j ∧ a ≤ i ∧ i ≤ j ∧ j ≤ m ∧ Hid (SW (encI l) w0 blk off d wr) ∧ Hid (a < i → ltOf (cfK key) d[m]! d[i - 1]! = false) ∧ Hid (j < m → ltOf (cfK key) d[m]! d[j]! = true)) (fun v1 v2 _ => (intOf v2).toNat - (intOf v1).toNat)
  case atStart => exact ⟨a, m, rfl, rfl, Nat.le_refl _, by omega, Nat.le_refl _, S0, Lib.hid (fun h => absurd h (by omega)), Lib.hid (fun h => absurd h (by omega))⟩
  case round =>
    clear S0
    obtain ⟨i, j, rfl, rfl, hi, hij, hj, S1, HI, HJ⟩ := hrel
    rcases Nat.lt_or_ge i j with hlt | hge
    · obtain ⟨hh, hhd⟩ : ∃ hh, hh = (i + j) / 2 := ⟨_, rfl⟩
      have hb1 : i ≤ hh := by omega
      have hb2 : hh < j := by omega
      have e2 : ((i : Int) + (j : Int)) / 2 = (hh : Int) := by omega
      have b1 : (0 : Int) ≤ (hh : Int) := by omega
      have b2 : (hh : Int) < (d.size : Int) := by omega
      have b3 : (0 : Int) ≤ (m : Int) := by omega
      have b4 : (m : Int) < (d.size : Int) := by omega
      clear hhd
      obtain ⟨X, hX⟩ : ∃ X, X = d[m]! := ⟨_, rfl⟩
      obtain ⟨Y, hY⟩ : ∃ Y, Y = d[hh]! := ⟨_, rfl⟩
      have la : ∀ (n : Nat) (os : Array Obj), (grow (wr.drewN n) os).cell? ⟨blk, off + m, none⟩ = some (.int .i64 (it l X)) := fun n os => by rw [hX]; exact S1.out.cl RR.out (by rw [HS.out]) m (by omega) n os
      have lb : ∀ (n : Nat) (os : Array Obj), (grow (wr.drewN n) os).cell? ⟨blk, off + hh, none⟩ = some (.int .i64 (it l Y)) := fun n os => by rw [hY]; exact S1.out.cl RR.out (by rw [HS.out]) hh (by omega) n os
      have hc := S1.out.cmp HCMP.out (by rw [HS.out]) X Y
      have HX := Lib.hid hX
      have HY := Lib.hid hY
      clear hX hY
      by_cases hl : cfK key X Y < 0
      · have hd1 : decide (cfK key X Y < 0) = true := decide_eq_true hl
        have HL := Lib.hid (show ltOf (cfK key) d[m]! d[hh]! = true by rw [← HX.out, ← HY.out]; exact hd1)
        go_wp2_with fail
        go_quiet_grown (first | (go_at_fn g; refine Calls.grown_of (hc _ _)))
        have S2 := Lib.hid (S1.out.grown nq osq)
        clear la lb hc
        generalize grow (wr.drewN nq) osq = w2 at S2 ⊢
        clear nq osq
        go_wp2
        go_roundw
        case rel => exact ⟨i, hh, rfl, by go_num, hi, by omega, by omega, S2, HI, Lib.hid (fun _ => HL.out)⟩
        case measure => simp [intOf]; omega
      · have hd1 : decide (cfK key X Y < 0) = false := decide_eq_false hl
        have HL := Lib.hid (show ltOf (cfK key) d[m]! d[hh]! = false by rw [← HX.out, ← HY.out]; exact hd1)
        go_wp2_with fail
        go_quiet_grown (first | (go_at_fn g; refine Calls.grown_of (hc _ _)))
        have S2 := Lib.hid (S1.out.grown nq osq)
        clear la lb hc
        generalize grow (wr.drewN nq) osq = w2 at S2 ⊢
        clear nq osq
        go_wp2
        go_roundw
        case rel => exact ⟨hh + 1, j, by go_num, rfl, by omega, by omega, hj, S2, Lib.hid (fun _ => HL.out), HJ⟩
        case measure => simp [intOf]; omega
    · obtain rfl : i = j := by omega
      have hm0 := HB0.out
      have HM := Lib.hid (show Srt key a b (mvD d m (m - i)) from by rw [hm0]; exact merge_down HK.out HS1.out (by rw [← hm0]; exact HT.out) hi hj (by omega) HI.out HJ.out)
      have HMP := Lib.hid (mvD_perm d m a b (by omega) h3 (m - i) (by omega))
      clear hm0 hij hge
      go_wp2
      go_loopw [17] (fun v wr => ∃ p : Nat, i ≤ p ∧ p ≤ m ∧ v = .int .i64 p ∧ Hid (SW (encI l) w0 blk off (mvD d m (m - p)) wr)) (fun v _ => (intOf v).toNat)
      case atStart => exact ⟨m, hj, Nat.le_refl _, rfl, by rw [Nat.sub_self]; exact S1⟩
      case round =>
        clear S1
        obtain ⟨p, hp1, hp2, rfl, S1⟩ := hrel
        rcases Nat.lt_or_ge i p with hlk | hge
        · have hsr := mvD_size d m (m - p)
          obtain ⟨q, hq⟩ : ∃ q, q = p - 1 := ⟨_, rfl⟩
          obtain ⟨ci, cj, fi, fj, ⟨u, c2⟩, sw⟩ := xch S1.out RR.out (by rw [hsr, HS.out]) p q (by omega) (by omega)
          obtain ⟨X, hX⟩ : ∃ X, X = it l (mvD d m (m - p))[p]! := ⟨_, rfl⟩
          obtain ⟨Y, hY⟩ : ∃ Y, Y = it l (mvD d m (m - p))[q]! := ⟨_, rfl⟩
          have HSW := Lib.hid (show SW (encI l) w0 blk off (mvD d m (m - q)) ((wr.setCell ⟨blk, off + p, none⟩ (.int .i64 Y)).setCell ⟨blk, off + q, none⟩ (.int .i64 X)).drew from by
            rw [hX, hY, show m - q = (m - p) + 1 by omega, mvD, show m - (m - p) = p by omega, ← hq]
            exact sw)
          rw [← hX] at ci
          rw [← hY] at cj c2
          have e5 : (p : Int) - 1 = (q : Int) := by omega
          have r1 : IntKind.i64.wrap (q : Int) = (q : Int) := IntWalk.i64_in _ (by omega)
          have r3 : (i : Int) < (p : Int) := by omega
          have b1 : (0 : Int) ≤ (p : Int) := by omega
          have b2 : (p : Int) < (d.size : Int) := by omega
          have b3 : (0 : Int) ≤ (q : Int) := by omega
          have b4 : (q : Int) < (d.size : Int) := by omega
          have g1 : i ≤ q := by omega
          have g2 : q ≤ m := by omega
          have g3 : q < p := by omega
          clear sw hsr hX hY hq
          go_wp2_with fail
          go_region
          all_goals
            go_wp2
            go_roundw
            case rel => exact ⟨q, g1, g2, by go_num, HSW⟩
            case measure => simp [intOf]; omega
        · have r3 : (p : Int) ≤ (i : Int) := by omega
          have HE := Lib.hid (show m - p = m - i by omega)
          have HMS := Lib.hid (mvD_size d m (m - p))
          clear hge
          go_wp2
          refine bodyPost_ret (results_none rfl _ _ _) rfl ?_
          exact ⟨rfl, _, S1.out, HMS.out, by rw [HE.out]; exact HMP.out, by rw [HE.out]; exact HM.out⟩
end Go.Proofs.YtocjkhfghldnnaaDoor

namespace Go.Proofs.YtocjkhfghldnnaaDoor
open Go.ChangeShapes Go.WideShapes Go.ChangeAt Go.RowKit Go.Lib Go.Sort Go.Proofs
set_option linter.unusedVariables false

/-- Behind the rotation. -/
structure Got (key : Nat → Int) (l : List Int) (blk off : Nat) (w0 : World) (a s mid e b : Nat) (d d1 : Array Nat) (w : World) : Prop where
  sw : SW (encI l) w0 blk off d1 w
  sz : d1.size = d.size
  pm : PermIn a b d d1
  md : Mid key a s mid e b d1
  q1 : a ≤ s
  q2 : s ≤ mid
  q3 : mid ≤ e
  q4 : e ≤ b
  q5 : b ≤ d.size
/-- Behind the merge of the first half. -/
structure Got2 (key : Nat → Int) (l : List Int) (blk off : Nat) (w0 : World) (a s mid e b : Nat) (d d1 d2 : Array Nat) (w : World) : Prop where
  sw : SW (encI l) w0 blk off d2 w
  sz1 : d1.size = d.size
  sz : d2.size = d.size
  pm : PermIn a b d d1
  md : Mid key a s mid e b d1
  q1 : a ≤ s
  q2 : s ≤ mid
  q3 : mid ≤ e
  q4 : e ≤ b
  q5 : b ≤ d.size
  h2 : Srt key a mid d2
  p2 : PermIn a mid d1 d2
  s1 : Srt key mid e d2
  s2 : Srt key e b d2
  t : Tag mid e b d2
section
variable {key : Nat → Int} {l : List Int} {blk off : Nat} {w0 : World} {a s mid e b : Nat} {d d1 d2 : Array Nat} {w w2 : World}
theorem Got.next (G : Got key l blk off w0 a s mid e b d d1 w) (hsw : SW (encI l) w0 blk off d2 w2) (hsz : d2.size = d1.size) (p2 : PermIn a mid d1 d2) (h2 : Srt key a mid d2) : Got2 key l blk off w0 a s mid e b d d1 d2 w2 := by
  have g : ∀ i, mid ≤ i → d2[i]! = d1[i]! := fun i hi => permIn_at p2 (.inr hi)
  refine ⟨hsw, G.sz, hsz.trans G.sz, G.pm, G.md, G.q1, G.q2, G.q3, G.q4, G.q5, h2, p2, srt_congr G.md.u2 (fun i hi _ => g i hi), srt_congr G.md.v2 (fun i hi _ => g i (Nat.le_trans G.q3 hi)), fun i j k1 k2 k3 k4 => ?_⟩
  rw [g i k1, g j (Nat.le_trans G.q3 k3)]
  exact G.md.t2 i j k1 k2 k3 k4
theorem Got.skip (G : Got key l blk off w0 a s mid e b d d1 w) (hn : ¬ (a < s ∧ s < mid)) : Got2 key l blk off w0 a s mid e b d d1 d1 w := G.next G.sw rfl (permIn_refl _ _ _) (mid_left G.md hn G.q1 G.q2)
theorem Got.left (G : Got key l blk off w0 a s mid e b d d1 w) (O : SymOut key l blk off w0 a mid d1 w2) : ∃ d2, Got2 key l blk off w0 a s mid e b d d1 d2 w2 := by
  obtain ⟨d2, h1, h2, h3, h4⟩ := O
  exact ⟨d2, G.next h1 h2 h3 h4⟩
theorem Got2.done {d3 : Array Nat} (G : Got2 key l blk off w0 a s mid e b d d1 d2 w) (hsw : SW (encI l) w0 blk off d3 w2) (hsz : d3.size = d2.size) (p3 : PermIn mid b d2 d3) (h3 : Srt key mid b d3) : SymOut key l blk off w0 a b d w2 := by
  have ham : a ≤ mid := Nat.le_trans G.q1 G.q2
  have hmb : mid ≤ b := Nat.le_trans G.q3 G.q4
  have hb1 : b ≤ d1.size := by rw [G.sz1]; exact G.q5
  have hb2 : b ≤ d2.size := by rw [G.sz]; exact G.q5
  exact ⟨d3, hsw, hsz.trans G.sz, permIn_trans _ _ _ _ _ G.pm (permIn_trans _ _ _ _ _ (permIn_mono _ _ a mid a b (Nat.le_refl _) hmb hb1 G.p2) (permIn_mono _ _ mid b a b ham (Nat.le_refl _) hb2 p3)), mid_all G.md hb1 ham hmb G.h2 G.p2 h3 p3⟩
theorem Got2.skip (G : Got2 key l blk off w0 a s mid e b d d1 d2 w) (hn : ¬ (mid < e ∧ e < b)) : SymOut key l blk off w0 a b d w := by
  refine G.done G.sw rfl (permIn_refl _ _ _) ?_
  rcases Nat.lt_or_ge mid e with q | q
  · have h : e = b := by have := G.q4; omega
    rw [← h]
    exact G.s1
  · have h : mid = e := by have := G.q3; omega
    rw [h]
    exact G.s2
theorem Got2.right (G : Got2 key l blk off w0 a s mid e b d d1 d2 w) (O : SymOut key l blk off w0 mid b d2 w2) : SymOut key l blk off w0 a b d w2 := by
  obtain ⟨d3, h1, h2, h3, h4⟩ := O
  exact G.done h1 h2 h3 h4
end

set_option maxHeartbeats 8000000 in
set_option maxRecDepth 100000 in
theorem symMerge_mid (key : Nat → Int) (l : List Int) (g : Nat) (cb : Array Value) (blk off cap : Nat) (d0 : Array Nat) (w0 : World) (a m b : Nat) (d : Array Nat) (w : World) (A : SymIn key l g cb blk off d0 w0 a m b d w) (hn1 : a + 1 < m) (hn2 : m + 1 < b) (IH0 : ∀ (a1 m1 b1 : Nat) (d1 : Array Nat) (w1 : World), b1 - a1 < b - a → SymIn key l g cb blk off d0 w0 a1 m1 b1 d1 w1 → Calls Tryd.prog 100 #[.slice (some ⟨blk, off, none⟩) d1.size cap, .int .i64 a1, .int .i64 m1, .int .i64 b1, .func (.func g) #[] cb] w1 fun e w' => e = .returned (.tuple #[]) ∧ SymOut key l blk off w0 a1 b1 d1 w') :
    Calls Tryd.prog 100 #[.slice (some ⟨blk, off, none⟩) d.size cap, .int .i64 a, .int .i64 m, .int .i64 b, .func (.func g) #[] cb] w fun e w' => e = .returned (.tuple #[]) ∧ SymOut key l blk off w0 a b d w' := by
  have IH := Lib.hid IH0
  have HIN := Lib.hid (show ∀ (a1 m1 b1 : Nat) (d1 : Array Nat) (w1 : World), SW (encI l) w0 blk off d1 w1 → d1.size = d.size → a1 < m1 → m1 < b1 → b1 ≤ d.size → Srt key a1 m1 d1 → Srt key m1 b1 d1 → Tag a1 m1 b1 d1 → SymIn key l g cb blk off d0 w0 a1 m1 b1 d1 w1 from fun a1 m1 b1 d1 w1 h1 h2 h3 h4 h5 h6 h7 h8 => ⟨A.eg, A.cmp, A.R, A.hsz, A.hs.trans h2.symm, h1, h3, h4, by rw [h2]; exact h5, h6, h7, h8⟩)
  clear IH0
  have S0 := Lib.hid A.S
  have RR := Lib.hid A.R
  have HS := Lib.hid A.hs
  have HCMP := Lib.hid A.cmp
  have HS1 := Lib.hid A.s1
  have HS2 := Lib.hid A.s2
  have HT := Lib.hid A.t
  have HK := Lib.hid (ltOf_cfK key)
  have hd : d.size < 1000000 := by have := A.hs; have := A.hsz; omega
  have h1 := A.h1
  have h2 := A.h2
  have h3 := A.h3
  have eg := A.eg
  have mixed : Tryd.prog.follows .mixedOrders = true := by kernel_rfl
  clear A
  go_enter Tryd.func100, Tryd.ntmps100
  have e0 : ((m : Int) - (a : Int) == 1) = false := by simp; omega
  have e1 : ((b : Int) - (m : Int) == 1) = false := by simp; omega
  obtain ⟨mid, hmd⟩ : ∃ mid, mid = (a + b) / 2 := ⟨_, rfl⟩
  have m1 : 2 * mid ≤ a + b := by omega
  have m2 : a + b ≤ 2 * mid + 1 := by omega
  have e2 : ((a : Int) + (b : Int)) / 2 = (mid : Int) := by omega
  clear hmd
  obtain ⟨n, hn⟩ : ∃ n, n = mid + m := ⟨_, rfl⟩
  have n1 : n ≤ mid + m := by omega
  have n2 : mid + m ≤ n := by omega
  have e3 : (mid : Int) + (m : Int) = (n : Int) := by omega
  clear hn
  obtain ⟨pp, hpp⟩ : ∃ pp, pp = n - 1 := ⟨_, rfl⟩
  have p1 : pp + 1 ≤ n := by omega
  have p2 : n ≤ pp + 1 := by omega
  have e5 : (n : Int) - 1 = (pp : Int) := by omega
  clear hpp
  rcases Nat.lt_or_ge mid m with hcs | hcs
  · obtain ⟨lo, hlo1, hlo2⟩ : ∃ lo, lo + b ≤ n ∧ n ≤ lo + b := ⟨n - b, by omega, by omega⟩
    obtain ⟨hi, hhi1, hhi2⟩ : ∃ hi, hi ≤ mid ∧ mid ≤ hi := ⟨mid, by omega, by omega⟩
    have e7 : (n : Int) - (b : Int) = (lo : Int) := by omega
    go_wp2
    go_loopw [20, 21] (fun v1 v2 wr => ∃ i j : Nat, v1 = .int .i64 i ∧ v2 = .int .i64 j ∧ lo ≤ i ∧ i ≤ j ∧ j ≤ hi ∧ Hid (SW (encI l) w0 blk off d wr) ∧ Hid (lo < i → ltOf (cfK key) d[mid + m - 1 - (i - 1)]! d[i - 1]! = false) ∧ Hid (j < hi → ltOf (cfK key) d[mid + m - 1 - j]! d[j]! = true)) (fun v1 v2 _ => (intOf v2).toNat - (intOf v1).toNat)
    case atStart => exact ⟨lo, mid, rfl, rfl, by omega, by omega, by omega, S0, Lib.hid (fun h => absurd h (by omega)), Lib.hid (fun h => absurd h (by omega))⟩
    case round =>
      clear S0
      obtain ⟨i, j, rfl, rfl, hi1, hij, hj, S1, HI, HJ⟩ := hrel
      rcases Nat.lt_or_ge i j with hlt | hge
      · obtain ⟨hh, hhd⟩ : ∃ hh, hh = (i + j) / 2 := ⟨_, rfl⟩
        have hb1 : i ≤ hh := by omega
        have hb2 : hh < j := by omega
        have e8 : ((i : Int) + (j : Int)) / 2 = (hh : Int) := by omega
        clear hhd
        obtain ⟨x, hx⟩ : ∃ x, x = mid + m - 1 - hh := ⟨_, rfl⟩
        have e6 : (pp : Int) - (hh : Int) = (x : Int) := by omega
        have b1 : (0 : Int) ≤ (hh : Int) := by omega
        have b2 : (hh : Int) < (d.size : Int) := by omega
        have b3 : (0 : Int) ≤ (x : Int) := by omega
        have b4 : (x : Int) < (d.size : Int) := by omega
        have r1 : IntKind.i64.wrap (x : Int) = (x : Int) := IntWalk.i64_in _ (by omega)
        have HX0 := Lib.hid hx
        have xl : x < d.size := by omega
        clear hx
        obtain ⟨X, hX⟩ : ∃ X, X = d[x]! := ⟨_, rfl⟩
        obtain ⟨Y, hY⟩ : ∃ Y, Y = d[hh]! := ⟨_, rfl⟩
        have la : ∀ (n : Nat) (os : Array Obj), (grow (wr.drewN n) os).cell? ⟨blk, off + x, none⟩ = some (.int .i64 (it l X)) := fun n os => by rw [hX]; exact S1.out.cl RR.out (by rw [HS.out]) x (by omega) n os
        have lb : ∀ (n : Nat) (os : Array Obj), (grow (wr.drewN n) os).cell? ⟨blk, off + hh, none⟩ = some (.int .i64 (it l Y)) := fun n os => by rw [hY]; exact S1.out.cl RR.out (by rw [HS.out]) hh (by omega) n os
        have hc := S1.out.cmp HCMP.out (by rw [HS.out]) X Y
        have HX := Lib.hid hX
        have HY := Lib.hid hY
        clear hX hY
        by_cases hl : cfK key X Y < 0
        · have hd1 : decide (cfK key X Y < 0) = true := decide_eq_true hl
          have HL := Lib.hid (show ltOf (cfK key) d[mid + m - 1 - hh]! d[hh]! = true by rw [← HX0.out, ← HX.out, ← HY.out]; exact hd1)
          go_wp2_with fail
          go_quiet_grown (first | (go_at_fn g; refine Calls.grown_of (hc _ _)))
          have S2 := Lib.hid (S1.out.grown nq osq)
          clear la lb hc
          generalize grow (wr.drewN nq) osq = w2 at S2 ⊢
          clear nq osq
          go_wp2
          go_roundw
          case rel => exact ⟨i, hh, rfl, by go_num, hi1, by omega, by omega, S2, HI, Lib.hid (fun _ => HL.out)⟩
          case measure => simp [intOf]; omega
        · have hd1 : decide (cfK key X Y < 0) = false := decide_eq_false hl
          have HL := Lib.hid (show ltOf (cfK key) d[mid + m - 1 - hh]! d[hh]! = false by rw [← HX0.out, ← HX.out, ← HY.out]; exact hd1)
          go_wp2_with fail
          go_quiet_grown (first | (go_at_fn g; refine Calls.grown_of (hc _ _)))
          have S2 := Lib.hid (S1.out.grown nq osq)
          clear la lb hc
          generalize grow (wr.drewN nq) osq = w2 at S2 ⊢
          clear nq osq
          go_wp2
          go_roundw
          case rel => exact ⟨hh + 1, j, by go_num, rfl, by omega, by omega, hj, S2, Lib.hid (fun _ => HL.out), HJ⟩
          case measure => simp [intOf]; omega
      · obtain ⟨s, hs1, hs2⟩ : ∃ s : Nat, s = i ∧ s = j := ⟨i, rfl, by omega⟩
        subst hs1
        subst hs2
        obtain ⟨e, he1⟩ : ∃ e, e = mid + m - s := ⟨_, rfl⟩
        have e4 : (n : Int) - (s : Int) = (e : Int) := by omega
        have c1 : lo ≤ s := hi1
        have c2 : s ≤ hi := hj
        have HMID := Lib.hid (show ∀ d1 : Array Nat, (∀ t, d1[t]! = rv d s m (mid + m - s) t) → Mid key a s mid e b d1 from fun d1 hd1 => by
          rw [he1]
          exact mid_of (lo := lo) (hi := hi) HK.out HS1.out HS2.out HT.out h1 h2 h3 (by omega) (by omega) c1 c2 HI.out HJ.out hd1)
        have k1 : e + s ≤ mid + m := by omega
        have k2 : mid + m ≤ e + s := by omega
        have HE := Lib.hid he1
        clear he1 HI HJ hge hij
        have g1 : s < m := by omega
        rcases Nat.lt_or_ge m e with g2 | g2
        · have hcall := rotate_any l g cb blk off cap s m e d0 d w0 wr RR.out HS.out S1.out g1 g2 (by omega) hd
          have HC := Lib.hid hcall
          clear hcall
          go_upto_region 41 with (first | (go_at_call 102; refine HC.out.mono ?_; rintro e9 w9 ⟨rfl, d1, r1, r2, r3, r4⟩; have HR1 := Lib.hid r1; have HR2 := Lib.hid r2; have HR3 := Lib.hid r3; have HR4 := Lib.hid r4; clear r1 r2 r3 r4))
          have HG := Lib.hid (show Got key l blk off w0 a s mid e b d d1 w9 from ⟨HR1.out, HR2.out, permIn_mono _ _ s e a b (by omega) (by omega) h3 HR3.out, HMID.out d1 (fun t => by rw [HR4.out t, HE.out]), by omega, by omega, by omega, by omega, h3⟩)
          clear HC HR1 HR2 HR3 HR4 S1
          have g4 : s < mid := by omega
          rcases Nat.lt_or_ge a s with g3 | g3
          · have hcall := IH.out a s mid d1 _ (by omega) (HIN.out a s mid d1 _ HG.out.sw HG.out.sz g3 g4 (by omega) HG.out.md.u1 HG.out.md.v1 HG.out.md.t1)
            rw [HG.out.sz] at hcall
            have HC := Lib.hid hcall
            clear hcall
            go_upto_region 43 with (first | (go_at_call 100; refine HC.out.mono ?_; rintro e9 w9 ⟨rfl, ho⟩; have HO2 := Lib.hid ho; clear ho))
            obtain ⟨d2, hg2⟩ := HG.out.left HO2.out
            have HG2 := Lib.hid hg2
            clear hg2 HC HO2
            have g5 : mid < e := by omega
            rcases Nat.lt_or_ge e b with g6 | g6
            · have hcall := IH.out mid e b d2 _ (by omega) (HIN.out mid e b d2 _ HG2.out.sw HG2.out.sz g5 g6 h3 HG2.out.s1 HG2.out.s2 HG2.out.t)
              rw [HG2.out.sz] at hcall
              have HC := Lib.hid hcall
              clear hcall
              go_wp2_with (first | (go_at_call 100; refine HC.out.mono ?_; rintro e9 w9 ⟨rfl, ho⟩; have HO3 := Lib.hid ho; clear ho))
              go_end0
              exact ⟨rfl, HG2.out.right HO3.out⟩
            · first
                | (exfalso; omega)
                | (go_wp2; go_end0; exact ⟨rfl, HG2.out.skip (by omega)⟩)
          · go_upto_region 43 with fail
            obtain ⟨d2, hg2⟩ : ∃ d2, Got2 key l blk off w0 a s mid e b d d1 d2 _ := ⟨_, HG.out.skip (by omega)⟩
            have HG2 := Lib.hid hg2
            clear hg2
            have g5 : mid < e := by omega
            rcases Nat.lt_or_ge e b with g6 | g6
            · have hcall := IH.out mid e b d2 _ (by omega) (HIN.out mid e b d2 _ HG2.out.sw HG2.out.sz g5 g6 h3 HG2.out.s1 HG2.out.s2 HG2.out.t)
              rw [HG2.out.sz] at hcall
              have HC := Lib.hid hcall
              clear hcall
              go_wp2_with (first | (go_at_call 100; refine HC.out.mono ?_; rintro e9 w9 ⟨rfl, ho⟩; have HO3 := Lib.hid ho; clear ho))
              go_end0
              exact ⟨rfl, HG2.out.right HO3.out⟩
            · first
                | (exfalso; omega)
                | (go_wp2; go_end0; exact ⟨rfl, HG2.out.skip (by omega)⟩)
        · go_upto_region 41 with fail
          obtain ⟨d1, hg⟩ : ∃ d1, Got key l blk off w0 a s mid e b d d1 wr := ⟨d, S1.out, rfl, permIn_refl _ _ _, HMID.out d (fun t => (rv_id d (by have := HE.out; omega) (by omega) (by have := HE.out; omega) t).symm), by omega, by omega, by omega, by omega, h3⟩
          have HG := Lib.hid hg
          clear hg S1
          have g3 : a < s := by omega
          have g4 : mid ≤ s := by omega
          go_upto_region 43 with fail
          obtain ⟨d2, hg2⟩ : ∃ d2, Got2 key l blk off w0 a s mid e b d d1 d2 _ := ⟨_, HG.out.skip (by omega)⟩
          have HG2 := Lib.hid hg2
          clear hg2
          have g5 : mid < e := by omega
          rcases Nat.lt_or_ge e b with g6 | g6
          · have hcall := IH.out mid e b d2 _ (by omega) (HIN.out mid e b d2 _ HG2.out.sw HG2.out.sz g5 g6 h3 HG2.out.s1 HG2.out.s2 HG2.out.t)
            rw [HG2.out.sz] at hcall
            have HC := Lib.hid hcall
            clear hcall
            go_wp2_with (first | (go_at_call 100; refine HC.out.mono ?_; rintro e9 w9 ⟨rfl, ho⟩; have HO3 := Lib.hid ho; clear ho))
            go_end0
            exact ⟨rfl, HG2.out.right HO3.out⟩
          · first
              | (exfalso; omega)
              | (go_wp2; go_end0; exact ⟨rfl, HG2.out.skip (by omega)⟩)
  · obtain ⟨lo, hlo1, hlo2⟩ : ∃ lo, lo ≤ a ∧ a ≤ lo := ⟨a, by omega, by omega⟩
    obtain ⟨hi, hhi1, hhi2⟩ : ∃ hi, hi ≤ m ∧ m ≤ hi := ⟨m, by omega, by omega⟩
    have e9 : decide (mid < m) = false := decide_eq_false (by omega)
    go_wp2
    go_loopw [20, 21] (fun v1 v2 wr => ∃ i j : Nat, v1 = .int .i64 i ∧ v2 = .int .i64 j ∧ lo ≤ i ∧ i ≤ j ∧ j ≤ hi ∧ Hid (SW (encI l) w0 blk off d wr) ∧ Hid (lo < i → ltOf (cfK key) d[mid + m - 1 - (i - 1)]! d[i - 1]! = false) ∧ Hid (j < hi → ltOf (cfK key) d[mid + m - 1 - j]! d[j]! = true)) (fun v1 v2 _ => (intOf v2).toNat - (intOf v1).toNat)
    case atStart => exact ⟨a, m, rfl, rfl, by omega, by omega, by omega, S0, Lib.hid (fun h => absurd h (by omega)), Lib.hid (fun h => absurd h (by omega))⟩
    case round =>
      clear S0
      obtain ⟨i, j, rfl, rfl, hi1, hij, hj, S1, HI, HJ⟩ := hrel
      rcases Nat.lt_or_ge i j with hlt | hge
      · obtain ⟨hh, hhd⟩ : ∃ hh, hh = (i + j) / 2 := ⟨_, rfl⟩
        have hb1 : i ≤ hh := by omega
        have hb2 : hh < j := by omega
        have e8 : ((i : Int) + (j : Int)) / 2 = (hh : Int) := by omega
        clear hhd
        obtain ⟨x, hx⟩ : ∃ x, x = mid + m - 1 - hh := ⟨_, rfl⟩
        have e6 : (pp : Int) - (hh : Int) = (x : Int) := by omega
        have b1 : (0 : Int) ≤ (hh : Int) := by omega
        have b2 : (hh : Int) < (d.size : Int) := by omega
        have b3 : (0 : Int) ≤ (x : Int) := by omega
        have b4 : (x : Int) < (d.size : Int) := by omega
        have r1 : IntKind.i64.wrap (x : Int) = (x : Int) := IntWalk.i64_in _ (by omega)
        have HX0 := Lib.hid hx
        have xl : x < d.size := by omega
        clear hx
        obtain ⟨X, hX⟩ : ∃ X, X = d[x]! := ⟨_, rfl⟩
        obtain ⟨Y, hY⟩ : ∃ Y, Y = d[hh]! := ⟨_, rfl⟩
        have la : ∀ (n : Nat) (os : Array Obj), (grow (wr.drewN n) os).cell? ⟨blk, off + x, none⟩ = some (.int .i64 (it l X)) := fun n os => by rw [hX]; exact S1.out.cl RR.out (by rw [HS.out]) x (by omega) n os
        have lb : ∀ (n : Nat) (os : Array Obj), (grow (wr.drewN n) os).cell? ⟨blk, off + hh, none⟩ = some (.int .i64 (it l Y)) := fun n os => by rw [hY]; exact S1.out.cl RR.out (by rw [HS.out]) hh (by omega) n os
        have hc := S1.out.cmp HCMP.out (by rw [HS.out]) X Y
        have HX := Lib.hid hX
        have HY := Lib.hid hY
        clear hX hY
        by_cases hl : cfK key X Y < 0
        · have hd1 : decide (cfK key X Y < 0) = true := decide_eq_true hl
          have HL := Lib.hid (show ltOf (cfK key) d[mid + m - 1 - hh]! d[hh]! = true by rw [← HX0.out, ← HX.out, ← HY.out]; exact hd1)
          go_wp2_with fail
          go_quiet_grown (first | (go_at_fn g; refine Calls.grown_of (hc _ _)))
          have S2 := Lib.hid (S1.out.grown nq osq)
          clear la lb hc
          generalize grow (wr.drewN nq) osq = w2 at S2 ⊢
          clear nq osq
          go_wp2
          go_roundw
          case rel => exact ⟨i, hh, rfl, by go_num, hi1, by omega, by omega, S2, HI, Lib.hid (fun _ => HL.out)⟩
          case measure => simp [intOf]; omega
        · have hd1 : decide (cfK key X Y < 0) = false := decide_eq_false hl
          have HL := Lib.hid (show ltOf (cfK key) d[mid + m - 1 - hh]! d[hh]! = false by rw [← HX0.out, ← HX.out, ← HY.out]; exact hd1)
          go_wp2_with fail
          go_quiet_grown (first | (go_at_fn g; refine Calls.grown_of (hc _ _)))
          have S2 := Lib.hid (S1.out.grown nq osq)
          clear la lb hc
          generalize grow (wr.drewN nq) osq = w2 at S2 ⊢
          clear nq osq
          go_wp2
          go_roundw
          case rel => exact ⟨hh + 1, j, by go_num, rfl, by omega, by omega, hj, S2, Lib.hid (fun _ => HL.out), HJ⟩
          case measure => simp [intOf]; omega
      · obtain ⟨s, hs1, hs2⟩ : ∃ s : Nat, s = i ∧ s = j := ⟨i, rfl, by omega⟩
        subst hs1
        subst hs2
        obtain ⟨e, he1⟩ : ∃ e, e = mid + m - s := ⟨_, rfl⟩
        have e4 : (n : Int) - (s : Int) = (e : Int) := by omega
        have c1 : lo ≤ s := hi1
        have c2 : s ≤ hi := hj
        have HMID := Lib.hid (show ∀ d1 : Array Nat, (∀ t, d1[t]! = rv d s m (mid + m - s) t) → Mid key a s mid e b d1 from fun d1 hd1 => by
          rw [he1]
          exact mid_of (lo := lo) (hi := hi) HK.out HS1.out HS2.out HT.out h1 h2 h3 (by omega) (by omega) c1 c2 HI.out HJ.out hd1)
        have k1 : e + s ≤ mid + m := by omega
        have k2 : mid + m ≤ e + s := by omega
        have HE := Lib.hid he1
        clear he1 HI HJ hge hij
        rcases Nat.lt_or_ge s m with g1 | g1
        · have g2 : m < e := by omega
          have hcall := rotate_any l g cb blk off cap s m e d0 d w0 wr RR.out HS.out S1.out g1 g2 (by omega) hd
          have HC := Lib.hid hcall
          clear hcall
          go_upto_region 41 with (first | (go_at_call 102; refine HC.out.mono ?_; rintro e9 w9 ⟨rfl, d1, r1, r2, r3, r4⟩; have HR1 := Lib.hid r1; have HR2 := Lib.hid r2; have HR3 := Lib.hid r3; have HR4 := Lib.hid r4; clear r1 r2 r3 r4))
          have HG := Lib.hid (show Got key l blk off w0 a s mid e b d d1 w9 from ⟨HR1.out, HR2.out, permIn_mono _ _ s e a b (by omega) (by omega) h3 HR3.out, HMID.out d1 (fun t => by rw [HR4.out t, HE.out]), by omega, by omega, by omega, by omega, h3⟩)
          clear HC HR1 HR2 HR3 HR4 S1
          have g4 : s < mid := by omega
          rcases Nat.lt_or_ge a s with g3 | g3
          · have hcall := IH.out a s mid d1 _ (by omega) (HIN.out a s mid d1 _ HG.out.sw HG.out.sz g3 g4 (by omega) HG.out.md.u1 HG.out.md.v1 HG.out.md.t1)
            rw [HG.out.sz] at hcall
            have HC := Lib.hid hcall
            clear hcall
            go_upto_region 43 with (first | (go_at_call 100; refine HC.out.mono ?_; rintro e9 w9 ⟨rfl, ho⟩; have HO2 := Lib.hid ho; clear ho))
            obtain ⟨d2, hg2⟩ := HG.out.left HO2.out
            have HG2 := Lib.hid hg2
            clear hg2 HC HO2
            have g5 : mid < e := by omega
            rcases Nat.lt_or_ge e b with g6 | g6
            · have hcall := IH.out mid e b d2 _ (by omega) (HIN.out mid e b d2 _ HG2.out.sw HG2.out.sz g5 g6 h3 HG2.out.s1 HG2.out.s2 HG2.out.t)
              rw [HG2.out.sz] at hcall
              have HC := Lib.hid hcall
              clear hcall
              go_wp2_with (first | (go_at_call 100; refine HC.out.mono ?_; rintro e9 w9 ⟨rfl, ho⟩; have HO3 := Lib.hid ho; clear ho))
              go_end0
              exact ⟨rfl, HG2.out.right HO3.out⟩
            · first
                | (exfalso; omega)
                | (go_wp2; go_end0; exact ⟨rfl, HG2.out.skip (by omega)⟩)
          · go_upto_region 43 with fail
            obtain ⟨d2, hg2⟩ : ∃ d2, Got2 key l blk off w0 a s mid e b d d1 d2 _ := ⟨_, HG.out.skip (by omega)⟩
            have HG2 := Lib.hid hg2
            clear hg2
            have g5 : mid < e := by omega
            rcases Nat.lt_or_ge e b with g6 | g6
            · have hcall := IH.out mid e b d2 _ (by omega) (HIN.out mid e b d2 _ HG2.out.sw HG2.out.sz g5 g6 h3 HG2.out.s1 HG2.out.s2 HG2.out.t)
              rw [HG2.out.sz] at hcall
              have HC := Lib.hid hcall
              clear hcall
              go_wp2_with (first | (go_at_call 100; refine HC.out.mono ?_; rintro e9 w9 ⟨rfl, ho⟩; have HO3 := Lib.hid ho; clear ho))
              go_end0
              exact ⟨rfl, HG2.out.right HO3.out⟩
            · first
                | (exfalso; omega)
                | (go_wp2; go_end0; exact ⟨rfl, HG2.out.skip (by omega)⟩)
        · go_upto_region 41 with fail
          obtain ⟨d1, hg⟩ : ∃ d1, Got key l blk off w0 a s mid e b d d1 wr := ⟨d, S1.out, rfl, permIn_refl _ _ _, HMID.out d (fun t => (rv_id d (by have := HE.out; omega) (by omega) (by have := HE.out; omega) t).symm), by omega, by omega, by omega, by omega, h3⟩
          have HG := Lib.hid hg
          clear hg S1
          have g3 : a < s := by omega
          rcases Nat.lt_or_ge s mid with g4 | g4
          · have hcall := IH.out a s mid d1 _ (by omega) (HIN.out a s mid d1 _ HG.out.sw HG.out.sz g3 g4 (by omega) HG.out.md.u1 HG.out.md.v1 HG.out.md.t1)
            rw [HG.out.sz] at hcall
            have HC := Lib.hid hcall
            clear hcall
            go_upto_region 43 with (first | (go_at_call 100; refine HC.out.mono ?_; rintro e9 w9 ⟨rfl, ho⟩; have HO2 := Lib.hid ho; clear ho))
            obtain ⟨d2, hg2⟩ := HG.out.left HO2.out
            have HG2 := Lib.hid hg2
            clear hg2 HC HO2
            have g5 : e ≤ mid := by omega
            first
              | (exfalso; omega)
              | (go_wp2; go_end0; exact ⟨rfl, HG2.out.skip (by omega)⟩)
          · go_upto_region 43 with fail
            obtain ⟨d2, hg2⟩ : ∃ d2, Got2 key l blk off w0 a s mid e b d d1 d2 _ := ⟨_, HG.out.skip (by omega)⟩
            have HG2 := Lib.hid hg2
            clear hg2
            have g5 : e ≤ mid := by omega
            first
              | (exfalso; omega)
              | (go_wp2; go_end0; exact ⟨rfl, HG2.out.skip (by omega)⟩)
end Go.Proofs.YtocjkhfghldnnaaDoor

namespace Go.Proofs.YtocjkhfghldnnaaDoor
open Go.ChangeShapes Go.WideShapes Go.ChangeAt Go.RowKit Go.Lib Go.Sort Go.Proofs
set_option linter.unusedVariables false

/-- The symmetric merge of two sorted neighbours is a stable merge. -/
theorem symMerge_any (key : Nat → Int) (l : List Int) (g : Nat) (cb : Array Value) (blk off cap : Nat) (d0 : Array Nat) (w0 : World) : ∀ (N a m b : Nat) (d : Array Nat) (w : World), b - a ≤ N → SymIn key l g cb blk off d0 w0 a m b d w → Calls Tryd.prog 100 #[.slice (some ⟨blk, off, none⟩) d.size cap, .int .i64 a, .int .i64 m, .int .i64 b, .func (.func g) #[] cb] w fun e w' => e = .returned (.tuple #[]) ∧ SymOut key l blk off w0 a b d w'
  | 0, a, m, b, d, w, hN, A => absurd hN (by have := A.h1; have := A.h2; omega)
  | N + 1, a, m, b, d, w, hN, A => by
    by_cases hm : m = a + 1
    · exact symMerge_left key l g cb blk off cap d0 w0 a m b d w A hm
    · have h1 := A.h1
      have h2 := A.h2
      by_cases hb : b = m + 1
      · exact symMerge_right key l g cb blk off cap d0 w0 a m b d w A hb (by omega)
      · exact symMerge_mid key l g cb blk off cap d0 w0 a m b d w A (by omega) (by omega) (fun a1 m1 b1 d1 w1 h A1 => symMerge_any key l g cb blk off cap d0 w0 N a1 m1 b1 d1 w1 (by omega) A1)
end Go.Proofs.YtocjkhfghldnnaaDoor

namespace Go.Proofs.YtocjkhfghldnnaaDoor
open Go.ChangeShapes Go.WideShapes Go.ChangeAt Go.RowKit Go.Lib Go.Sort Go.Proofs
set_option linter.unusedVariables false

/-- Two sorted blocks, twenty and the rest. -/
structure Two (key : Nat → Int) (n : Nat) (d d2 : Array Nat) : Prop where
  sz : d2.size = d.size
  pm : PermIn 0 n d d2
  s1 : Srt key 0 20 d2
  s2 : Srt key 20 n d2
  t : Tag 0 20 n d2
theorem two_of {key : Nat → Int} {d : Array Nat} (hT : ∀ i j, i < j → j < d.size → d[i]! < d[j]!) (h20 : 20 ≤ d.size) : Two key d.size d (insertionSort (ltOf (cfK key)) (insertionSort (ltOf (cfK key)) d 0 20) 20 d.size) ∧ (insertionSort (ltOf (cfK key)) d 0 20).size = d.size := by
  have h1 := insertion_srt (ltOf_cfK key) 0 20 d (fun p q _ h3 h4 => hT p q h3 (by omega)) h20
  generalize insertionSort (ltOf (cfK key)) d 0 20 = d1 at h1 ⊢
  have z1 : d1.size = d.size := h1.2.1
  have g1 : ∀ i, 20 ≤ i → d1[i]! = d[i]! := fun i hi => permIn_at h1.2 (.inr hi)
  have h2 := insertion_srt (ltOf_cfK key) 20 d.size d1 (fun p q h5 h3 h4 => by rw [g1 p h5, g1 q (by omega)]; exact hT p q h3 h4) (by rw [z1]; exact Nat.le_refl _)
  generalize insertionSort (ltOf (cfK key)) d1 20 d.size = d2 at h2 ⊢
  have g2 : ∀ i, i < 20 → d2[i]! = d1[i]! := fun i hi => permIn_at h2.2 (.inl hi)
  refine ⟨⟨h2.2.1.trans z1, permIn_trans _ _ _ _ _ (permIn_mono _ _ 0 20 0 d.size (Nat.le_refl _) h20 (Nat.le_refl _) h1.2) (permIn_mono _ _ 20 d.size 0 d.size (by omega) (Nat.le_refl _) (by rw [z1]; exact Nat.le_refl _) h2.2), srt_congr h1.1 (fun i _ hi => g2 i hi), h2.1, fun i j _ hi hj hjn => ?_⟩, z1⟩
  rw [g2 i hi]
  refine permIn_all d1 d2 20 d.size (fun v => d1[i]! < v) (by rw [z1]; exact Nat.le_refl _) h2.2 (fun q hq hqn => ?_) j hj hjn
  rw [g1 q hq]
  exact permIn_all d d1 0 20 (fun v => v < d[q]!) h20 h1.2 (fun p _ hp => hT p q (by omega) hqn) i (Nat.zero_le _) hi

set_option maxHeartbeats 8000000 in
set_option maxRecDepth 100000 in
theorem stable_any (key : Nat → Int) (l : List Int) (g : Nat) (cb : Array Value) (blk off cap : Nat) (d0 d : Array Nat) (w0 w : World) (eg : ∀ args w, (callFunc g args).run Tryd.prog w = .ok (.enter g args) w) (hcmp : CmpLays1 Tryd.prog g cb (encI l) (cfK key) blk off d0.size w0) (R : Row1 (encI l) w0 blk off d0) (hs : d0.size = d.size) (S : SW (encI l) w0 blk off d w) (hn : d.size < 40) (hT : ∀ i j, i < j → j < d.size → d[i]! < d[j]!) :
    Calls Tryd.prog 88 #[.slice (some ⟨blk, off, none⟩) d.size cap, .int .i64 d.size, .func (.func g) #[] cb] w fun e w' => e = .returned (.tuple #[]) ∧ SymOut key l blk off w0 0 d.size d w' := by
  have S0 := Lib.hid S
  have RR := Lib.hid R
  have HS := Lib.hid hs
  have HCMP := Lib.hid hcmp
  have HTT := Lib.hid hT
  have HK := Lib.hid (ltOf_cfK key)
  have HEG := Lib.hid eg
  have HIS := Lib.hid (fun (a b : Nat) (dk : Array Nat) (wk : World) (hk : dk.size = d.size) (Sk : SW (encI l) w0 blk off dk wk) (hab : a ≤ b) (hb : b ≤ dk.size) => Tryd.insertionSortCmpFunc_s (encI l) (cfK key) g cb blk off cap a b d0 dk w0 wk eg hcmp R (hs.trans hk.symm) Sk hab hb (by omega))
  have HSM := Lib.hid (fun (d1 : Array Nat) (w1 : World) (h20 : 20 < d.size) (T : Two key d.size d d1) (S1 : SW (encI l) w0 blk off d1 w1) => symMerge_any key l g cb blk off cap d0 w0 d.size 0 20 d.size d1 w1 (Nat.sub_le _ _) ⟨eg, hcmp, R, by omega, hs.trans T.sz.symm, S1, by omega, h20, by rw [T.sz]; exact Nat.le_refl _, T.s1, T.s2, T.t⟩)
  obtain ⟨N, hN⟩ : ∃ N, N = d.size := ⟨_, rfl⟩
  rw [← hN] at hn ⊢
  have HN := Lib.hid hN
  clear S R hs hcmp hT hN eg
  go_enter Tryd.func88, Tryd.ntmps88
  go_wp2
  go_loopw [7, 8] (fun v1 v2 wr => (v1 = .int .i64 0 ∧ v2 = .int .i64 20 ∧ Hid (SW (encI l) w0 blk off d wr)) ∨ (20 ≤ N ∧ v1 = .int .i64 20 ∧ v2 = .int .i64 40 ∧ Hid (SW (encI l) w0 blk off (insertionSort (ltOf (cfK key)) d 0 20) wr))) (fun _ v2 _ => 64 - (intOf v2).toNat)
  case atStart => exact .inl ⟨rfl, rfl, S0⟩
  case round =>
    clear S0
    rcases hrel with ⟨rfl, rfl, S1⟩ | ⟨h20, rfl, rfl, S1⟩
    · rcases Nat.lt_or_ge N 20 with hlt | hge
      · have hlt' : (N : Int) < 20 := by omega
        have HC := Lib.hid (show Calls Tryd.prog 99 #[.slice (some ⟨blk, off, none⟩) N cap, .int .i64 0, .int .i64 N, .func (.func g) #[] cb] wr _ from by
          have h := HIS.out 0 N d wr rfl S1.out (Nat.zero_le _) (by rw [HN.out]; exact Nat.le_refl _)
          rw [← HN.out] at h
          exact h)
        go_upto_region 7 with (first | (go_at_call 99; refine HC.out.mono ?_; rintro e9 w9 ⟨rfl, hsw⟩; have S2 := Lib.hid hsw; clear hsw))
        have HI := Lib.hid (insertion_srt HK.out 0 N d (fun p q _ h3 h4 => HTT.out p q h3 (by rw [← HN.out]; exact h4)) (by rw [HN.out]; exact Nat.le_refl _))
        go_wp2
        go_loopw [6] (fun v6 wr => v6 = .int .i64 20 ∧ Hid (SW (encI l) w0 blk off (insertionSort (ltOf (cfK key)) d 0 N) wr)) (fun _ _ => 0)
        case atStart => exact ⟨rfl, S2⟩
        case round =>
          clear S2
          obtain ⟨rfl, S2⟩ := hrel
          go_wp2
          go_end0
          exact ⟨rfl, _, S2.out, HI.out.2.1, HI.out.2, HI.out.1⟩
      · have hge' : (20 : Int) ≤ (N : Int) := by omega
        have HC := Lib.hid (show Calls Tryd.prog 99 #[.slice (some ⟨blk, off, none⟩) N cap, .int .i64 0, .int .i64 20, .func (.func g) #[] cb] wr _ from by
          have h := HIS.out 0 20 d wr rfl S1.out (Nat.zero_le _) (by rw [← HN.out]; exact hge)
          rw [← HN.out] at h
          exact h)
        go_wp2_with (first | (go_at_call 99; refine HC.out.mono ?_; rintro e9 w9 ⟨rfl, hsw⟩; have S2 := Lib.hid hsw; clear hsw))
        go_roundw
        case rel => exact .inr ⟨hge, rfl, rfl, S2⟩
        case measure => simp [intOf]
    · have hlt' : (N : Int) < 40 := by omega
      have HTW := Lib.hid (two_of (key := key) HTT.out (by rw [← HN.out]; exact h20))
      have HC := Lib.hid (show Calls Tryd.prog 99 #[.slice (some ⟨blk, off, none⟩) N cap, .int .i64 20, .int .i64 N, .func (.func g) #[] cb] wr fun e w' => e = .returned (.tuple #[]) ∧ SW (encI l) w0 blk off (insertionSort (ltOf (cfK key)) (insertionSort (ltOf (cfK key)) d 0 20) 20 N) w' from by
        have h := HIS.out 20 N (insertionSort (ltOf (cfK key)) d 0 20) wr HTW.out.2 S1.out h20 (by rw [HTW.out.2, HN.out]; exact Nat.le_refl _)
        rw [HTW.out.2, ← HN.out] at h
        exact h)
      go_upto_region 7 with (first | (go_at_call 99; refine HC.out.mono ?_; rintro e9 w9 ⟨rfl, hsw⟩; have S2 := Lib.hid hsw; clear hsw))
      have HT2 := Lib.hid (show Two key N d (insertionSort (ltOf (cfK key)) (insertionSort (ltOf (cfK key)) d 0 20) 20 N) from by
        have h := HTW.out.1
        rw [← HN.out] at h
        exact h)
      clear HC HTW S1
      generalize insertionSort (ltOf (cfK key)) (insertionSort (ltOf (cfK key)) d 0 20) 20 N = d2 at HT2 S2
      go_wp2
      go_loopw [6] (fun v6 wr => (v6 = .int .i64 20 ∧ Hid (SW (encI l) w0 blk off d2 wr)) ∨ (20 < N ∧ v6 = .int .i64 40 ∧ Hid (SymOut key l blk off w0 0 N d2 wr))) (fun v6 _ => 64 - (intOf v6).toNat)
      case atStart => exact .inl ⟨rfl, S2⟩
      case round =>
        clear S2
        rcases hrel with ⟨rfl, S2⟩ | ⟨h21, rfl, S2⟩
        · rcases Nat.lt_or_ge 20 N with h21 | h21
          · have h21' : (20 : Int) < (N : Int) := by omega
            have HC := Lib.hid (show Calls Tryd.prog 100 #[.slice (some ⟨blk, off, none⟩) N cap, .int .i64 0, .int .i64 20, .int .i64 N, .func (.func g) #[] cb] wr fun e w' => e = .returned (.tuple #[]) ∧ SymOut key l blk off w0 0 N d2 w' from by
              have h := HSM.out d2 wr (by rw [← HN.out]; exact h21) (by rw [← HN.out]; exact HT2.out) S2.out
              rw [HT2.out.sz, ← HN.out] at h
              exact h)
            go_wp2
            go_loopw [7, 8] (fun v7 v8 w' => v7 = .int .i64 0 ∧ v8 = .int .i64 40 ∧ w' = wr) (fun _ _ _ => 0)
            case atStart => exact ⟨rfl, rfl, rfl⟩
            case round =>
              obtain ⟨rfl, rfl, rfl⟩ := hrel
              go_wp2_with (first | (go_at_call 100; refine HC.out.mono ?_; rintro e9 w9 ⟨rfl, hsw⟩; have S3 := Lib.hid hsw; clear hsw))
              go_roundw
              case rel => exact .inr ⟨h21, rfl, S3⟩
              case measure => simp [intOf]
          · have h21' : (N : Int) ≤ 20 := by omega
            go_wp2
            go_end0
            have e20 : N = 20 := Nat.le_antisymm h21 h20
            exact ⟨rfl, d2, S2.out, HT2.out.sz, HT2.out.pm, by rw [e20]; exact HT2.out.s1⟩
        · go_wp2
          go_end0
          obtain ⟨d3, k1, k2, k3, k4⟩ := S2.out
          exact ⟨rfl, d3, k1, k2.trans HT2.out.sz, permIn_trans _ _ _ _ _ HT2.out.pm k3, k4⟩
end Go.Proofs.YtocjkhfghldnnaaDoor
