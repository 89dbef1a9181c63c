/- A stable order, and what the steps of a stable sort do to a row, in plain words. -/
import Derived.Test.YtnambmpnolkfjaaRows
import Derived.Sort.LotA
namespace Go.Proofs.Ytnambmpnolkfjaa
open Go.Sort
set_option linter.unusedVariables false

/-- A stable order: by a key, and by the place of old. -/
def Lx (key : Nat → Int) (i j : Nat) : Prop := key i < key j ∨ (key i = key j ∧ i < j)
theorem Lx.trans {key : Nat → Int} {i j k : Nat} (h : Lx key i j) (g : Lx key j k) : Lx key i k := by
  rcases h with h | h <;> rcases g with g | g
  · exact .inl (by omega)
  · exact .inl (by omega)
  · exact .inl (by omega)
  · exact .inr ⟨by omega, by omega⟩
def Srt (key : Nat → Int) (a b : Nat) (d : Array Nat) : Prop := ∀ i j, a ≤ i → i < j → j < b → Lx key d[i]! d[j]!
def Tag (a m b : Nat) (d : Array Nat) : Prop := ∀ i j, a ≤ i → i < m → m ≤ j → j < b → d[i]! < d[j]!
structure KeyLt (key : Nat → Int) (lt : Nat → Nat → Bool) : Prop where
  yes : ∀ i j, lt i j = true → key i < key j
  no : ∀ i j, lt i j = false → key j ≤ key i
theorem srt_join {key : Nat → Int} {a m b : Nat} {d : Array Nat} (h1 : Srt key a m d) (h2 : Srt key m b d) (h : ∀ i j, a ≤ i → i < m → m ≤ j → j < b → Lx key d[i]! d[j]!) : Srt key a b d := fun i j hi hij hj => by
  rcases Nat.lt_or_ge j m with q | q
  · exact h1 i j hi hij q
  · rcases Nat.lt_or_ge i m with p | p
    · exact h i j hi p q hj
    · exact h2 i j p hij hj
theorem srt_congr {key : Nat → Int} {a b : Nat} {d e : Array Nat} (h : Srt key a b d) (he : ∀ i, a ≤ i → i < b → e[i]! = d[i]!) : Srt key a b e := fun i j hi hij hj => by
  rw [he i hi (by omega), he j (by omega) hj]
  exact h i j hi hij hj
/-- Insertion: the element at j on its way down. -/
structure InsS (key : Nat → Int) (a j i : Nat) (d : Array Nat) : Prop where
  rest : ∀ p q, a ≤ p → p < q → q ≤ i → p ≠ j → q ≠ j → Lx key d[p]! d[q]!
  right : ∀ q, j < q → q ≤ i → Lx key d[j]! d[q]!
  tag : ∀ p, a ≤ p → p < j → d[p]! < d[j]!
theorem InsS.stop {key : Nat → Int} {lt : Nat → Nat → Bool} (hk : KeyLt key lt) {a j i : Nat} {d : Array Nat} (h : InsS key a j i d) (hs : j ≤ a ∨ lt d[j]! d[j - 1]! = false) : Srt key a (i + 1) d := fun p q hp hpq hq => by
  by_cases e1 : q = j
  · subst e1
    rcases hs with hs | hs
    · omega
    · have h1 : Lx key d[q - 1]! d[q]! := by
        have := hk.no _ _ hs
        have := h.tag (q - 1) (by omega) (by omega)
        unfold Lx
        omega
      by_cases e2 : p = q - 1
      · rw [e2]
        exact h1
      · exact (h.rest p (q - 1) hp (by omega) (by omega) (by omega) (by omega)).trans h1
  · by_cases e2 : p = j
    · subst e2
      exact h.right q hpq (by omega)
    · exact h.rest p q hp hpq (by omega) e2 e1
theorem InsS.step {key : Nat → Int} {lt : Nat → Nat → Bool} (hk : KeyLt key lt) {a j i : Nat} {d : Array Nat} (h : InsS key a (j + 1) i d) (hl : lt d[j + 1]! d[j]! = true) (haj : a ≤ j) (hsz : j + 1 < d.size) (hji : j + 1 ≤ i) : InsS key a j i (swp d (j + 1) j) := by
  have g := swp_get d hsz (show j < d.size by omega)
  have hlt := hk.yes _ _ hl
  refine ⟨fun p q hp hpq hq h1 h2 => ?_, fun q h1 h2 => ?_, fun p hp h1 => ?_⟩
  · rw [g, g, if_neg h1, if_neg h2]
    by_cases e1 : p = j + 1
    · subst e1
      rw [if_pos rfl, if_neg (by omega)]
      exact h.rest j q haj (by omega) hq (by omega) (by omega)
    · rw [if_neg e1]
      by_cases e2 : q = j + 1
      · subst e2
        rw [if_pos rfl]
        exact h.rest p j hp (by omega) (by omega) (by omega) (by omega)
      · rw [if_neg e2]
        exact h.rest p q hp hpq hq e1 e2
  · rw [g, g, if_pos rfl, if_neg (by omega)]
    by_cases e : q = j + 1
    · subst e
      rw [if_pos rfl]
      exact .inl hlt
    · rw [if_neg e]
      exact h.right q (by omega) h2
  · rw [g, g, if_pos rfl, if_neg (by omega), if_neg (by omega)]
    exact h.tag p hp (by omega)
theorem insInner_srt {key : Nat → Int} {lt : Nat → Nat → Bool} (hk : KeyLt key lt) (a i b : Nat) (hib : i < b) : ∀ (j : Nat) (d : Array Nat), InsS key a j i d → b ≤ d.size → j ≤ i → a ≤ j → Srt key a (i + 1) (insInner lt a j d) ∧ PermIn a (i + 1) d (insInner lt a j d)
  | 0, d, h, hb, hj, ha => ⟨h.stop hk (.inl (by omega)), permIn_refl _ _ _⟩
  | j + 1, d, h, hb, hj, ha => by
    rw [insInner]
    by_cases e : j + 1 > a
    · cases hl : lt d[j + 1]! d[j]! with
      | true =>
        simp only [e, decide_true, Bool.true_and, if_true]
        have hs := h.step hk hl (by omega) (by omega) hj
        have ih := insInner_srt hk a i b hib j (swp d (j + 1) j) hs (by rw [swp_size]; exact hb) (by omega) (by omega)
        exact ⟨ih.1, permIn_trans _ _ _ _ _ (swp_permIn d a (i + 1) (j + 1) j (by omega) (by omega) (by omega) (by omega) (by omega)) ih.2⟩
      | false =>
        simp only [Bool.and_false, Bool.false_eq_true, if_false]
        exact ⟨h.stop hk (.inr hl), permIn_refl _ _ _⟩
    · simp only [e, decide_false, Bool.false_and, Bool.false_eq_true, if_false]
      exact ⟨h.stop hk (.inl (by omega)), permIn_refl _ _ _⟩
theorem permIn_at {a b : Nat} {d e : Array Nat} (h : PermIn a b d e) {i : Nat} (hi : i < a ∨ b ≤ i) : e[i]! = d[i]! := h.2.1 i hi
theorem insOuter_srt {key : Nat → Int} {lt : Nat → Nat → Bool} (hk : KeyLt key lt) (a b : Nat) : ∀ (n i : Nat) (d : Array Nat), b - i = n → a < i → Srt key a i d → (∀ p q, a ≤ p → p < q → i ≤ q → q < b → d[p]! < d[q]!) → b ≤ d.size → Srt key a (max i b) (insOuter lt a b i d) ∧ PermIn a b d (insOuter lt a b i d)
  | 0, i, d, hn, hai, hs, ht, hb => by
    rw [insOuter, if_neg (by omega), show max i b = i by omega]
    exact ⟨hs, permIn_refl _ _ _⟩
  | n + 1, i, d, hn, hai, hs, ht, hb => by
    rw [insOuter, if_pos (by omega)]
    have h1 := insInner_srt hk a i b (by omega) i d ⟨fun p q hp hpq hq h1 h2 => hs p q hp hpq (by omega), fun q h1 h2 => absurd h1 (by omega), fun p hp h1 => ht p i hp h1 (Nat.le_refl _) (by omega)⟩ hb (Nat.le_refl _) (by omega)
    have h2 := insOuter_srt hk a b n (i + 1) (insInner lt a i d) (by omega) (by omega) h1.1 (fun p q hp hpq hiq hq => by
      rw [permIn_at h1.2 (i := q) (.inr (by omega))]
      rcases Nat.lt_or_ge p (i + 1) with hpi | hpi
      · exact permIn_all d (insInner lt a i d) a (i + 1) (fun v => v < d[q]!) (by omega) h1.2 (fun p' h3 h4 => ht p' q h3 (by omega) (by omega) hq) p hp hpi
      · rw [permIn_at h1.2 (i := p) (.inr hpi)]
        exact ht p q hp hpq (by omega) hq) (by rw [h1.2.1]; exact hb)
    rw [show max i b = max (i + 1) b by omega]
    exact ⟨h2.1, permIn_trans _ _ _ _ _ (permIn_mono _ _ a (i + 1) a b (Nat.le_refl _) (by omega) hb h1.2) h2.2⟩
/-- Insertion sort is stable. -/
theorem insertion_srt {key : Nat → Int} {lt : Nat → Nat → Bool} (hk : KeyLt key lt) (a b : Nat) (d : Array Nat) (ht : ∀ p q, a ≤ p → p < q → q < b → d[p]! < d[q]!) (hb : b ≤ d.size) : Srt key a b (insertionSort lt d a b) ∧ PermIn a b d (insertionSort lt d a b) := by
  have h := insOuter_srt hk a b (b - (a + 1)) (a + 1) d rfl (by omega) (fun i j h1 h2 h3 => absurd h2 (by omega)) (fun p q h1 h2 h3 h4 => ht p q h1 h2 h4) hb
  refine ⟨fun i j h1 h2 h3 => h.1 i j h1 h2 (by omega), h.2⟩
/-- Two ranges exchanged. -/
def sr (d : Array Nat) (a b : Nat) : Nat → Array Nat
  | 0 => d
  | n + 1 => swp (sr d a b n) (a + n) (b + n)
theorem sr_size (d : Array Nat) (a b : Nat) : ∀ n, (sr d a b n).size = d.size
  | 0 => rfl
  | n + 1 => by rw [sr, swp_size, sr_size d a b n]
theorem sr_get (d : Array Nat) (a b : Nat) : ∀ n, a + n ≤ b → b + n ≤ d.size → ∀ t, (sr d a b n)[t]! = if a ≤ t ∧ t < a + n then d[t - a + b]! else if b ≤ t ∧ t < b + n then d[t - b + a]! else d[t]!
  | 0, _, _, t => by
    rw [if_neg (by omega), if_neg (by omega)]
    rfl
  | n + 1, h1, h2, t => by
    have ih := sr_get d a b n (by omega) (by omega)
    have hs := sr_size d a b n
    rw [sr, swp_get _ (by omega) (by omega), ih, ih, ih]
    by_cases e1 : t = b + n
    · subst e1
      rw [if_pos rfl, if_neg (by omega), if_neg (by omega), if_neg (by omega), if_pos (by omega)]
      congr 1
      omega
    · rw [if_neg e1]
      by_cases e2 : t = a + n
      · subst e2
        rw [if_pos rfl, if_neg (by omega), if_neg (by omega), if_pos (by omega)]
        congr 1
        omega
      · rw [if_neg e2]
        have c1 : (a ≤ t ∧ t < a + n) ↔ (a ≤ t ∧ t < a + (n + 1)) := by omega
        have c2 : (b ≤ t ∧ t < b + n) ↔ (b ≤ t ∧ t < b + (n + 1)) := by omega
        simp only [c1, c2]
theorem sr_perm (d : Array Nat) (a b lo hi : Nat) (h0 : lo ≤ a) (hhi : hi ≤ d.size) : ∀ n, a + n ≤ b → b + n ≤ hi → PermIn lo hi d (sr d a b n)
  | 0, _, _ => permIn_refl _ _ _
  | n + 1, h1, h2 => permIn_trans _ _ _ _ _ (sr_perm d a b lo hi h0 hhi n (by omega) (by omega)) (swp_permIn _ lo hi (a + n) (b + n) (by omega) (by omega) (by omega) (by omega) (by rw [sr_size]; exact hhi))
/-- What a rotation leaves at a place. -/
def rv (d : Array Nat) (a m b t : Nat) : Nat := if a ≤ t ∧ t < b then (if t < a + (b - m) then d[t - a + m]! else d[t - (b - m)]!) else d[t]!
theorem rv_id (d : Array Nat) {a m b : Nat} (h : a = m ∨ m = b) (ham : a ≤ m) (hmb : m ≤ b) (t : Nat) : rv d a m b t = d[t]! := by
  unfold rv
  split
  · split
    · congr 1
      omega
    · congr 1
      omega
  · rfl
theorem rv_more (d : Array Nat) {m i j : Nat} (hj : 0 < j) (hij : j < i) (him : i ≤ m) (hs : m + j ≤ d.size) (t : Nat) : rv (sr d (m - i) m j) (m - (i - j)) m (m + j) t = rv d (m - i) m (m + j) t := by
  unfold rv
  simp only [sr_get d (m - i) m j (by omega) hs]
  by_cases c1 : m - i ≤ t ∧ t < m + j
  · rw [if_pos c1]
    by_cases c2 : t < m - i + (m + j - m)
    · rw [if_pos c2, if_neg (by omega), if_pos (by omega)]
    · rw [if_neg c2]
      rw [if_pos (by omega)]
      by_cases c3 : t < m - (i - j) + (m + j - m)
      · rw [if_pos c3]
        rw [if_neg (by omega), if_pos (by omega)]
        congr 1
        omega
      · rw [if_neg c3, if_neg (by omega), if_neg (by omega)]
  · rw [if_neg c1, if_neg (by omega), if_neg (by omega), if_neg (by omega)]
theorem rv_less (d : Array Nat) {m i j : Nat} (hi : 0 < i) (hij : i < j) (him : i ≤ m) (hs : m + j ≤ d.size) (t : Nat) : rv (sr d (m - i) (m + j - i) i) (m - i) m (m + (j - i)) t = rv d (m - i) m (m + j) t := by
  unfold rv
  simp only [sr_get d (m - i) (m + j - i) i (by omega) (by omega)]
  by_cases c1 : m - i ≤ t ∧ t < m + j
  · rw [if_pos c1]
    by_cases c2 : t < m - i + (m + j - m)
    · rw [if_pos c2]
      by_cases c4 : t < m + (j - i)
      · rw [if_pos (by omega)]
        by_cases c3 : t < m - i + (m + (j - i) - m)
        · rw [if_pos c3, if_neg (by omega), if_neg (by omega)]
        · rw [if_neg c3, if_pos (by omega)]
          congr 1
          omega
      · omega
    · rw [if_neg c2]
      rw [if_neg (by omega), if_neg (by omega), if_pos (by omega)]
      congr 1
      omega
  · rw [if_neg c1, if_neg (by omega), if_neg (by omega), if_neg (by omega)]
theorem rv_same (d : Array Nat) {m i : Nat} (him : i ≤ m) (hs : m + i ≤ d.size) (t : Nat) : (sr d (m - i) m i)[t]! = rv d (m - i) m (m + i) t := by
  unfold rv
  rw [sr_get d (m - i) m i (by omega) hs]
  by_cases c1 : m - i ≤ t ∧ t < m + i
  · rw [if_pos c1]
    by_cases c2 : t < m - i + (m + i - m)
    · rw [if_pos c2, if_pos (by omega)]
    · rw [if_neg c2, if_neg (by omega), if_pos (by omega)]
      congr 1
      omega
  · rw [if_neg c1, if_neg (by omega), if_neg (by omega)]
/-- One element moved up, one moved down. -/
def mvU (d : Array Nat) (a : Nat) : Nat → Array Nat
  | 0 => d
  | c + 1 => swp (mvU d a c) (a + c) (a + c + 1)
theorem mvU_size (d : Array Nat) (a : Nat) : ∀ c, (mvU d a c).size = d.size
  | 0 => rfl
  | c + 1 => by rw [mvU, swp_size, mvU_size d a c]
theorem mvU_get (d : Array Nat) (a : Nat) : ∀ c, a + c < d.size → ∀ t, (mvU d a c)[t]! = if t < a ∨ a + c < t then d[t]! else if t = a + c then d[a]! else d[t + 1]!
  | 0, _, t => by
    by_cases e : t < a ∨ a + 0 < t
    · rw [if_pos e]
      rfl
    · rw [if_neg e, if_pos (by omega)]
      show d[t]! = _
      congr 1
      omega
  | c + 1, h, t => by
    have ih := mvU_get d a c (by omega)
    have hs := mvU_size d a c
    rw [mvU, swp_get _ (by omega) (by omega), ih, ih, ih]
    by_cases e1 : t = a + c + 1
    · subst e1
      rw [if_pos rfl, if_neg (by omega), if_pos rfl, if_neg (by omega), if_pos (by omega)]
    · rw [if_neg e1]
      by_cases e2 : t = a + c
      · subst e2
        rw [if_pos rfl, if_pos (by omega), if_neg (by omega), if_neg (by omega)]
      · rw [if_neg e2]
        by_cases e3 : t < a ∨ a + c < t
        · rw [if_pos e3, if_pos (by omega)]
        · rw [if_neg e3, if_neg (by omega), if_neg (by omega), if_neg (by omega)]
theorem mvU_perm (d : Array Nat) (a lo hi : Nat) (h0 : lo ≤ a) (hhi : hi ≤ d.size) : ∀ c, a + c < hi → PermIn lo hi d (mvU d a c)
  | 0, _ => permIn_refl _ _ _
  | c + 1, h => permIn_trans _ _ _ _ _ (mvU_perm d a lo hi h0 hhi c (by omega)) (swp_permIn _ lo hi (a + c) (a + c + 1) (by omega) (by omega) (by omega) (by omega) (by rw [mvU_size]; exact hhi))
def mvD (d : Array Nat) (m : Nat) : Nat → Array Nat
  | 0 => d
  | c + 1 => swp (mvD d m c) (m - c) (m - c - 1)
theorem mvD_size (d : Array Nat) (m : Nat) : ∀ c, (mvD d m c).size = d.size
  | 0 => rfl
  | c + 1 => by rw [mvD, swp_size, mvD_size d m c]
theorem mvD_get (d : Array Nat) (m : Nat) (hm : m < d.size) : ∀ c, c ≤ m → ∀ t, (mvD d m c)[t]! = if t < m - c ∨ m < t then d[t]! else if t = m - c then d[m]! else d[t - 1]!
  | 0, _, t => by
    by_cases e : t < m - 0 ∨ m < t
    · rw [if_pos e]
      rfl
    · rw [if_neg e, if_pos (by omega)]
      show d[t]! = _
      congr 1
      omega
  | c + 1, h, t => by
    have ih := mvD_get d m hm c (by omega)
    have hs := mvD_size d m c
    rw [mvD, swp_get _ (by omega) (by omega), ih, ih, ih]
    by_cases e1 : t = m - c - 1
    · subst e1
      rw [if_pos rfl, if_neg (by omega), if_pos rfl, if_neg (by omega), if_pos (by omega)]
    · rw [if_neg e1]
      by_cases e2 : t = m - c
      · subst e2
        rw [if_pos rfl, if_pos (by omega), if_neg (by omega), if_neg (by omega)]
      · rw [if_neg e2]
        by_cases e3 : t < m - c ∨ m < t
        · rw [if_pos e3, if_pos (by omega)]
        · rw [if_neg e3, if_neg (by omega), if_neg (by omega), if_neg (by omega)]
theorem mvD_perm (d : Array Nat) (m lo hi : Nat) (h0 : m < hi) (hhi : hi ≤ d.size) : ∀ c, lo + c ≤ m → PermIn lo hi d (mvD d m c)
  | 0, _ => permIn_refl _ _ _
  | c + 1, h => permIn_trans _ _ _ _ _ (mvD_perm d m lo hi h0 hhi c (by omega)) (swp_permIn _ lo hi (m - c) (m - c - 1) (by omega) (by omega) (by omega) (by omega) (by rw [mvD_size]; exact hhi))
/-- One element before a sorted range. -/
theorem merge_up {key : Nat → Int} {lt : Nat → Nat → Bool} (hk : KeyLt key lt) {a b i : Nat} {d : Array Nat} (hs : Srt key (a + 1) b d) (ht : Tag a (a + 1) b d) (h1 : a + 1 ≤ i) (h2 : i ≤ b) (hb : b ≤ d.size) (hl : a + 1 < i → lt d[i - 1]! d[a]! = true) (hr : i < b → lt d[i]! d[a]! = false) : Srt key a b (mvU d a (i - 1 - a)) := by
  have hlo : ∀ q, a + 1 ≤ q → q < i → Lx key d[q]! d[a]! := fun q hq hqi => by
    have h3 := hk.yes _ _ (hl (by omega))
    by_cases e : q = i - 1
    · subst e
      exact .inl h3
    · exact (hs q (i - 1) hq (by omega) (by omega)).trans (.inl h3)
  have hhi : ∀ q, i ≤ q → q < b → Lx key d[a]! d[q]! := fun q hq hqb => by
    have h3 := hk.no _ _ (hr (by omega))
    have h4 := ht a i (Nat.le_refl _) (by omega) (by omega) (by omega)
    have h5 : Lx key d[a]! d[i]! := by unfold Lx; omega
    by_cases e : q = i
    · subst e
      exact h5
    · exact h5.trans (hs i q (by omega) (by omega) hqb)
  intro p q hp hpq hq
  have g := mvU_get d a (i - 1 - a) (by omega)
  rw [g, g]
  by_cases e1 : a + (i - 1 - a) < p
  · rw [if_pos (.inr e1), if_pos (by omega)]
    exact hs p q (by omega) hpq hq
  · rw [if_neg (by omega)]
    by_cases e2 : p = a + (i - 1 - a)
    · rw [if_pos e2, if_pos (by omega)]
      exact hhi q (by omega) hq
    · rw [if_neg e2]
      by_cases e3 : a + (i - 1 - a) < q
      · rw [if_pos (.inr e3)]
        exact hs (p + 1) q (by omega) (by omega) hq
      · rw [if_neg (by omega)]
        by_cases e4 : q = a + (i - 1 - a)
        · rw [if_pos e4]
          exact hlo (p + 1) (by omega) (by omega)
        · rw [if_neg e4]
          exact hs (p + 1) (q + 1) (by omega) (by omega) (by omega)
/-- One element behind a sorted range. -/
theorem merge_down {key : Nat → Int} {lt : Nat → Nat → Bool} (hk : KeyLt key lt) {a m i : Nat} {d : Array Nat} (hs : Srt key a m d) (ht : Tag a m (m + 1) d) (h1 : a ≤ i) (h2 : i ≤ m) (hb : m < d.size) (hl : a < i → lt d[m]! d[i - 1]! = false) (hr : i < m → lt d[m]! d[i]! = true) : Srt key a (m + 1) (mvD d m (m - i)) := by
  have hlo : ∀ q, a ≤ q → q < i → Lx key d[q]! d[m]! := fun q hq hqi => by
    have h3 := hk.no _ _ (hl (by omega))
    have h4 := ht (i - 1) m (by omega) (by omega) (by omega) (by omega)
    have h5 : Lx key d[i - 1]! d[m]! := by unfold Lx; omega
    by_cases e : q = i - 1
    · subst e
      exact h5
    · exact (hs q (i - 1) hq (by omega) (by omega)).trans h5
  have hhi : ∀ q, i ≤ q → q < m → Lx key d[m]! d[q]! := fun q hq hqb => by
    have h5 : Lx key d[m]! d[i]! := .inl (hk.yes _ _ (hr (by omega)))
    by_cases e : q = i
    · subst e
      exact h5
    · exact h5.trans (hs i q (by omega) (by omega) hqb)
  intro p q hp hpq hq
  have g := mvD_get d m hb (m - i) (by omega)
  rw [g, g]
  by_cases e1 : q < m - (m - i)
  · rw [if_pos (by omega), if_pos (.inl e1)]
    exact hs p q hp hpq (by omega)
  · rw [if_neg (c := q < m - (m - i) ∨ m < q) (by omega)]
    by_cases e2 : q = m - (m - i)
    · rw [if_pos (by omega), if_pos e2]
      exact hlo p hp (by omega)
    · rw [if_neg e2]
      by_cases e3 : p < m - (m - i)
      · rw [if_pos (.inl e3)]
        exact hs p (q - 1) hp (by omega) (by omega)
      · rw [if_neg (by omega)]
        by_cases e4 : p = m - (m - i)
        · rw [if_pos e4]
          exact hhi (q - 1) (by omega) (by omega)
        · rw [if_neg e4]
          exact hs (p - 1) (q - 1) (by omega) (by omega) (by omega)
/-- Behind the rotation: four sorted parts, the first two not behind the last two. -/
structure Mid (key : Nat → Int) (a s mid e b : Nat) (d1 : Array Nat) : Prop where
  u1 : Srt key a s d1
  v1 : Srt key s mid d1
  t1 : Tag a s mid d1
  u2 : Srt key mid e d1
  v2 : Srt key e b d1
  t2 : Tag mid e b d1
  cross : ∀ i j, a ≤ i → i < mid → mid ≤ j → j < b → Lx key d1[i]! d1[j]!
theorem mid_of {key : Nat → Int} {lt : Nat → Nat → Bool} (hk : KeyLt key lt) {a m b s mid lo hi : Nat} {d d1 : Array Nat} (hs1 : Srt key a m d) (hs2 : Srt key m b d) (ht : Tag a m b d) (ham : a < m) (hmb : m < b) (hb : b ≤ d.size)
    (hmid : mid = (a + b) / 2) (hlo : (mid < m ∧ lo = mid + m - b ∧ hi = mid) ∨ (m ≤ mid ∧ lo = a ∧ hi = m)) (h1 : lo ≤ s) (h2 : s ≤ hi) (hl : lo < s → lt d[mid + m - 1 - (s - 1)]! d[s - 1]! = false) (hr : s < hi → lt d[mid + m - 1 - s]! d[s]! = true)
    (hd : ∀ t, d1[t]! = rv d s m (mid + m - s) t) : Mid key a s mid (mid + m - s) b d1 := by
  have hsm : s ≤ m := by omega
  have has : a ≤ s := by omega
  have hme : m ≤ mid + m - s := by omega
  have heb : mid + m - s ≤ b := by omega
  have hsmid : s ≤ mid := by omega
  have g1 : ∀ t, t < s → d1[t]! = d[t]! := fun t h => by rw [hd]; unfold rv; rw [if_neg (by omega)]
  have g2 : ∀ t, s ≤ t → t < mid → d1[t]! = d[t - s + m]! := fun t h h' => by rw [hd]; unfold rv; rw [if_pos (by omega), if_pos (by omega)]
  have g3 : ∀ t, mid ≤ t → t < mid + m - s → d1[t]! = d[t - (mid - s)]! := fun t h h' => by
    rw [hd]
    unfold rv
    rw [if_pos (by omega), if_neg (by omega)]
    congr 1
    omega
  have g4 : ∀ t, mid + m - s ≤ t → d1[t]! = d[t]! := fun t h => by rw [hd]; unfold rv; rw [if_neg (by omega)]
  refine ⟨fun i j h1 h2 h3 => ?_, fun i j h1 h2 h3 => ?_, fun i j h1 h2 h3 h4 => ?_, fun i j h1 h2 h3 => ?_, fun i j h1 h2 h3 => ?_, fun i j h1 h2 h3 h4 => ?_, fun i j h3 h4 h5 h6 => ?_⟩
  · rw [g1 i (by omega), g1 j h3]
    exact hs1 i j h1 h2 (by omega)
  · rw [g2 i h1 (by omega), g2 j (by omega) h3]
    exact hs2 _ _ (by omega) (by omega) (by omega)
  · rw [g1 i h2, g2 j h3 h4]
    exact ht _ _ (by omega) (by omega) (by omega) (by omega)
  · rw [g3 i h1 (by omega), g3 j (by omega) h3]
    exact hs1 _ _ (by omega) (by omega) (by omega)
  · rw [g4 i h1, g4 j (by omega)]
    exact hs2 _ _ (by omega) (by omega) (by omega)
  · rw [g3 i h1 h2, g4 j h3]
    exact ht _ _ (by omega) (by omega) (by omega) (by omega)
  · rcases Nat.lt_or_ge i s with q1 | q1
    · rw [g1 i q1]
      rcases Nat.lt_or_ge j (mid + m - s) with q2 | q2
      · rw [g3 j h5 q2]
        exact hs1 _ _ (by omega) (by omega) (by omega)
      · rw [g4 j q2]
        -- the last of the first part is not more than the first of the last part
        have hls : lo < s := by omega
        have h7 := hk.no _ _ (hl hls)
        rw [show mid + m - 1 - (s - 1) = mid + m - s by omega] at h7
        have h8 := ht (s - 1) (mid + m - s) (by omega) (by omega) (by omega) (by omega)
        have h9 : Lx key d[s - 1]! d[mid + m - s]! := by unfold Lx; omega
        have h10 : Lx key d[i]! d[mid + m - s]! := by
          by_cases e : i = s - 1
          · subst e
            exact h9
          · exact (hs1 i (s - 1) h3 (by omega) (by omega)).trans h9
        by_cases e : j = mid + m - s
        · subst e
          exact h10
        · exact h10.trans (hs2 _ _ (by omega) (by omega) (by omega))
    · rw [g2 i q1 h4]
      rcases Nat.lt_or_ge j (mid + m - s) with q2 | q2
      · rw [g3 j h5 q2]
        have h7 := hk.yes _ _ (hr (by omega))
        rw [show mid + m - 1 - s = mid - 1 - s + m by omega] at h7
        have h9 : Lx key d[mid - 1 - s + m]! d[s]! := .inl h7
        have h10 : Lx key d[i - s + m]! d[s]! := by
          by_cases e : i = mid - 1
          · rw [show i - s + m = mid - 1 - s + m by omega]
            exact h9
          · exact (hs2 _ _ (by omega) (by omega) (by omega)).trans h9
        by_cases e : j - (mid - s) = s
        · rw [e]
          exact h10
        · exact h10.trans (hs1 _ _ (by omega) (by omega) (by omega))
      · rw [g4 j q2]
        exact hs2 _ _ (by omega) (by omega) (by omega)
theorem mid_left {key : Nat → Int} {a s mid e b : Nat} {d1 : Array Nat} (h : Mid key a s mid e b d1) (hn : ¬ (a < s ∧ s < mid)) (has : a ≤ s) (hsm : s ≤ mid) : Srt key a mid d1 := by
  rcases Nat.lt_or_ge a s with q | q
  · have : s = mid := by omega
    rw [← this]
    exact h.u1
  · have : a = s := by omega
    rw [this]
    exact h.v1
theorem mid_right {key : Nat → Int} {a s mid e b : Nat} {d1 : Array Nat} (h : Mid key a s mid e b d1) (hn : ¬ (mid < e ∧ e < b)) (has : mid ≤ e) (hsm : e ≤ b) : Srt key mid b d1 := by
  rcases Nat.lt_or_ge mid e with q | q
  · have : e = b := by omega
    rw [← this]
    exact h.u2
  · have : mid = e := by omega
    rw [this]
    exact h.v2
theorem mid_all {key : Nat → Int} {a s mid e b : Nat} {d1 d2 d3 : Array Nat} (h : Mid key a s mid e b d1) (hb : b ≤ d1.size) (ham : a ≤ mid) (hmb : mid ≤ b) (h2 : Srt key a mid d2) (p2 : PermIn a mid d1 d2) (h3 : Srt key mid b d3) (p3 : PermIn mid b d2 d3) : Srt key a b d3 := by
  refine srt_join (m := mid) (srt_congr h2 (fun i _ hi => permIn_at p3 (.inl hi))) h3 (fun i j h4 h5 h6 h7 => ?_)
  rw [permIn_at p3 (i := i) (.inl h5)]
  have hx : ∀ q, mid ≤ q → q < b → Lx key d2[i]! d2[q]! := fun q hq hqb => by
    rw [permIn_at p2 (i := q) (.inr hq)]
    exact permIn_all d1 d2 a mid (fun v => Lx key v d1[q]!) (by omega) p2 (fun i' h8 h9 => h.cross i' q h8 h9 hq hqb) i h4 h5
  exact permIn_all d2 d3 mid b (fun v => Lx key d2[i]! v) (by rw [p2.1]; exact hb) p3 (fun q hq hqb => hx q hq hqb) j h6 h7
end Go.Proofs.Ytnambmpnolkfjaa
