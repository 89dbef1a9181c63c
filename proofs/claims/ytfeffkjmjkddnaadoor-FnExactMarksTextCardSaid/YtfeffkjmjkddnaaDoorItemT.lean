/- Items copied. -/
import Derived.Test.YtfeffkjmjkddnaaDoorItems
namespace Go.Proofs.YtfeffkjmjkddnaaDoor
open Go.ChangeShapes Go.WideShapes Go.ChangeAt Go.RowKit
set_option linter.unusedVariables false

/-- The three cells of an item that may be written. -/
structure ImOwn (w : World) (b o : Nat) (x : Im) : Prop extends ImAt w b o x where
  f0 : w.frozen? ⟨b, o, none⟩ = false
  f1 : w.frozen? ⟨b, o + 1, none⟩ = false
  f2 : w.frozen? ⟨b, o + 2, none⟩ = false
theorem OwnAt.im0 {w : World} {g : Nat} {xs : List Im} (h : OwnAt w g 0 xs) (i : Nat) (hi : i < xs.length) : ImOwn w g (i * 3) (it xs i) := by
  have h1 := h.cell i hi
  have h2 := fun j => h.free i j hi
  rw [Nat.zero_add] at h1 h2
  exact ⟨imAt h1, h2 0 (by decide), h2 1 (by decide), h2 2 (by decide)⟩
theorem OwnAt.im {w : World} {g o : Nat} {xs : List Im} (h : OwnAt w g o xs) (i : Nat) (hi : i < xs.length) : ImOwn w g (o + i * 3) (it xs i) := by
  have h1 := h.cell i hi
  have h2 := fun j => h.free i j hi
  exact ⟨imAt h1, h2 0 (by decide), h2 1 (by decide), h2 2 (by decide)⟩

/-- The items xs, with their slices in blocks of their own. -/
def Cpy (xs : List Im) (G : Nat → Nat) (k : Nat) (ys : List Im) : Prop := ∀ i, i < k → it ys i = (it xs i).cpy (G (2 * i)) (G (2 * i + 1))
/-- Different blocks from B on, below T. -/
structure Apart (G : Nat → Nat) (B T n : Nat) : Prop where
  lo : ∀ i, i < n → B ≤ G i
  hi : ∀ i, i < n → G i < T
  ne : ∀ i j, i < j → j < n → G i ≠ G j
/-- The slices of the first k items. -/
structure OwnTo (w : World) (xs : List Im) (G : Nat → Nat) (k : Nat) : Prop where
  ns : ∀ i, i < k → OwnAt w (G (2 * i)) 0 (it xs i).ns
  ms : ∀ i, i < k → OwnAt w (G (2 * i + 1)) 0 (it xs i).ms
theorem OwnTo.keep {w w' : World} {xs : List Im} {G : Nat → Nat} {k : Nat} {S : Nat → Prop} (h : OwnTo w xs G k) (ho : Only S w w') (hlt : ∀ i, i < 2 * k → G i < w.heap.size) (hs : ∀ i, i < 2 * k → ¬ S (G i)) : OwnTo w' xs G k :=
  ⟨fun i hi => (h.ns i hi).block (ho.block _ (hlt _ (by omega)) (hs _ (by omega))), fun i hi => (h.ms i hi).block (ho.block _ (hlt _ (by omega)) (hs _ (by omega)))⟩
/-- Two more blocks. -/
def grow2 (G : Nat → Nat) (k g1 g2 : Nat) : Nat → Nat := fun i => if i < 2 * k then G i else if i = 2 * k then g1 else g2
theorem grow2_lt {G : Nat → Nat} {k g1 g2 i : Nat} (h : i < 2 * k) : grow2 G k g1 g2 i = G i := by simp [grow2, h]
theorem grow2_0 (G : Nat → Nat) (k g1 g2 : Nat) : grow2 G k g1 g2 (2 * k) = g1 := by simp [grow2]
theorem grow2_1 (G : Nat → Nat) (k g1 g2 : Nat) : grow2 G k g1 g2 (2 * k + 1) = g2 := by
  unfold grow2
  rw [if_neg (by omega), if_neg (by omega)]
theorem Apart.grow {G : Nat → Nat} {B T T' k g1 g2 : Nat} (h : Apart G B T (2 * k)) (hB : B ≤ T) (h1 : T ≤ g1) (h2 : g1 < g2) (h3 : g2 < T') : Apart (grow2 G k g1 g2) B T' (2 * (k + 1)) := by
  have hv : ∀ i, i < 2 * (k + 1) → (i < 2 * k ∧ grow2 G k g1 g2 i = G i) ∨ (i = 2 * k ∧ grow2 G k g1 g2 i = g1) ∨ (i = 2 * k + 1 ∧ grow2 G k g1 g2 i = g2) := fun i hi => by
    rcases Nat.lt_trichotomy i (2 * k) with h | h | h
    · exact .inl ⟨h, grow2_lt h⟩
    · exact .inr (.inl ⟨h, h ▸ grow2_0 G k g1 g2⟩)
    · obtain rfl : i = 2 * k + 1 := by omega
      exact .inr (.inr ⟨rfl, grow2_1 G k g1 g2⟩)
  refine ⟨fun i hi => ?_, fun i hi => ?_, fun i j hij hj => ?_⟩
  · rcases hv i hi with ⟨a, e⟩ | ⟨a, e⟩ | ⟨a, e⟩ <;> rw [e]
    · exact h.lo i a
    · omega
    · omega
  · rcases hv i hi with ⟨a, e⟩ | ⟨a, e⟩ | ⟨a, e⟩ <;> rw [e]
    · have := h.hi i a
      omega
    · omega
    · omega
  · rcases hv j hj with ⟨a, e⟩ | ⟨a, e⟩ | ⟨a, e⟩ <;> rcases hv i (by omega) with ⟨a', e'⟩ | ⟨a', e'⟩ | ⟨a', e'⟩ <;> rw [e, e']
    · exact h.ne i j hij a
    · omega
    · omega
    · have := h.hi i a'
      omega
    · omega
    · omega
    · have := h.hi i a'
      omega
    · omega
    · omega
theorem Apart.up {G : Nat → Nat} {B T T' n : Nat} (h : Apart G B T n) (hT : T ≤ T') : Apart G B T' n := ⟨h.lo, fun i hi => Nat.lt_of_lt_of_le (h.hi i hi) hT, h.ne⟩
theorem OwnTo.grow {w : World} {xs : List Im} {G : Nat → Nat} {k g1 g2 : Nat} (h : OwnTo w xs G k) (h1 : OwnAt w g1 0 (it xs k).ns) (h2 : OwnAt w g2 0 (it xs k).ms) : OwnTo w xs (grow2 G k g1 g2) (k + 1) := by
  refine ⟨fun i hi => ?_, fun i hi => ?_⟩
  · rcases Nat.lt_or_ge i k with h' | h'
    · rw [grow2_lt (by omega)]
      exact h.ns i h'
    · obtain rfl : i = k := by omega
      rw [grow2_0]
      exact h1
  · rcases Nat.lt_or_ge i k with h' | h'
    · rw [grow2_lt (by omega)]
      exact h.ms i h'
    · obtain rfl : i = k := by omega
      rw [grow2_1]
      exact h2
theorem Cpy.grow {xs ys : List Im} {G : Nat → Nat} {k g1 g2 : Nat} (h : Cpy xs G k ys) (hk : k < ys.length) : Cpy xs (grow2 G k g1 g2) (k + 1) (ys.set k ((it xs k).cpy g1 g2)) := fun i hi => by
  rw [it_set _ _ _ _ hk]
  by_cases e : i = k
  · subst e
    rw [if_pos rfl, grow2_0, grow2_1]
  · rw [if_neg e, grow2_lt (by omega), grow2_lt (by omega)]
    exact h i (by omega)

end Go.Proofs.YtfeffkjmjkddnaaDoor
