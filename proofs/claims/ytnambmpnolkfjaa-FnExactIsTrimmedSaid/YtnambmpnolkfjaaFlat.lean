/- Slices of values that lie flat in memory, each in the same number of cells: what such a slice holds, what a call owns of it, what a store turns. -/
import Derived.Test.YtnambmpnolkfjaaRows
import Derived.WalkKit
import Derived.ProofKit
import Derived.OpenShut
import Derived.Handy
import Derived.Lib.Hide
import Derived.LoopTactic
import Derived.Below
import Derived.OwnWalk
import Derived.Deep.QuietTactic
import Derived.BigQuiet
import Derived.Outline
namespace Go.Proofs.Ytnambmpnolkfjaa
open Go.ChangeShapes Go.WideShapes Go.ChangeAt Go.RowKit
set_option linter.unusedVariables false

/-- A kind of value that lies in sz cells. -/
class Flat (α : Type) extends Inhabited α where
  sz : Nat
  cells : α → List Value
  len : ∀ x, (cells x).length = sz

/-- The element at an index. -/
def it {α : Type} [Inhabited α] (xs : List α) (i : Nat) : α := xs.getD i default
theorem it_set {α : Type} [Inhabited α] (xs : List α) (k i : Nat) (x : α) (hk : k < xs.length) : it (xs.set k x) i = if i = k then x else it xs i := by
  unfold it
  rw [List.getD_eq_getElem?_getD, List.getD_eq_getElem?_getD, List.getElem?_set]
  by_cases e : i = k
  · subst e
    simp [hk]
  · simp [e, Ne.symm e]
theorem it_get {α : Type} [Inhabited α] (xs : List α) (i : Nat) (h : i < xs.length) : xs[i]? = some (it xs i) := by
  unfold it
  rw [List.getD_eq_getElem?_getD, List.getElem?_eq_getElem h]
  rfl
theorem it_ext {α : Type} [Inhabited α] (xs ys : List α) (hl : xs.length = ys.length) (h : ∀ i, i < xs.length → it xs i = it ys i) : xs = ys := by
  apply List.ext_getElem?
  intro i
  rcases Nat.lt_or_ge i xs.length with hi | hi
  · rw [it_get xs i hi, it_get ys i (by omega), h i hi]
  · rw [List.getElem?_eq_none hi, List.getElem?_eq_none (by omega)]

/-- The cells from an offset on. -/
def CellsAt (w : World) (b o : Nat) (vs : List Value) : Prop := ∀ j v, vs[j]? = some v → w.cell? ⟨b, o + j, none⟩ = some v
theorem CellsAt.below {w w' : World} {B b o : Nat} {vs : List Value} (h : CellsAt w b o vs) (hb : Below B w w') (hB : b < B) : CellsAt w' b o vs :=
  fun j v hj => (hb.cell (p := ⟨b, o + j, none⟩) hB).trans (h j v hj)

section
variable {α : Type} [Flat α]
/-- The slice at A holds xs, in a block below B. -/
def Lst (w : World) (B : Nat) (A : Option Addr) (xs : List α) : Prop :=
  0 < xs.length → ∃ b o, A = some ⟨b, o, none⟩ ∧ b < B ∧ ∀ i, i < xs.length → CellsAt w b (o + i * Flat.sz α) (Flat.cells (it xs i))
theorem Lst.below {w w' : World} {B B' : Nat} {A : Option Addr} {xs : List α} (h : Lst w B A xs) (hb : Below B' w w') (hB : B ≤ B') : Lst w' B A xs := fun hp => by
  obtain ⟨b, o, rfl, hlt, hc⟩ := h hp
  exact ⟨b, o, rfl, hlt, fun i hi => (hc i hi).below hb (by omega)⟩
theorem Lst.up {w : World} {B B' : Nat} {A : Option Addr} {xs : List α} (h : Lst w B A xs) (hB : B ≤ B') : Lst w B' A xs := fun hp => by
  obtain ⟨b, o, rfl, hlt, hc⟩ := h hp
  exact ⟨b, o, rfl, by omega, hc⟩
theorem Lst.nil (w : World) (B : Nat) (A : Option Addr) : Lst w B A ([] : List α) := fun hp => absurd hp (by simp)
theorem Lst.drewN {w : World} {B : Nat} {A : Option Addr} {xs : List α} (h : Lst w B A xs) (n : Nat) : Lst (w.drewN n) B A xs := h
end

/-- A place where a walk stands still, ahead of a region. -/
structure Stop (p : Prop) : Prop where
  of : p
theorem stop_at (k : Nat) {P : Program} {ops : Array Oper} {dr : Bool} {c : Code} {Q : Exit → Act → World → Prop} {a : Act} {w : World} (h : Stop (∀ w', w' = w → Code.wp P ((Code.region k ops dr).seq c) Q a w')) : Code.wp P ((Code.region k ops dr).seq c) Q a w := h.of w rfl
theorem stop_end (k : Nat) {P : Program} {ops : Array Oper} {dr : Bool} {Q : Exit → Act → World → Prop} {a : Act} {w : World} (h : Stop (∀ w', w' = w → Code.wp P (Code.region k ops dr) Q a w')) : Code.wp P (Code.region k ops dr) Q a w := h.of w rfl

theorem stop_ret {P : Program} {Q : Exit → Act → World → Prop} {a : Act} {w : World} (h : Stop (∀ w', w' = w → Code.wp P Code.ret Q a w')) : Code.wp P Code.ret Q a w := h.of w rfl

/-- At most the blocks of S, and new ones, differ. -/
structure Only (S : Nat → Prop) (w w' : World) : Prop where
  os : w'.os = w.os
  tape : w'.tape = w.tape
  output : w'.output = w.output
  size : w.heap.size ≤ w'.heap.size
  block : ∀ k, k < w.heap.size → ¬ S k → w'.heap[k]? = w.heap[k]?
theorem Only.refl (S : Nat → Prop) (w : World) : Only S w w := ⟨rfl, rfl, rfl, Nat.le_refl _, fun _ _ _ => rfl⟩
theorem Only.trans {S : Nat → Prop} {a b c : World} (h : Only S a b) (k : Only S b c) : Only S a c :=
  ⟨k.os.trans h.os, k.tape.trans h.tape, k.output.trans h.output, Nat.le_trans h.size k.size, fun i hi hr => (k.block i (Nat.lt_of_lt_of_le hi h.size) hr).trans (h.block i hi hr)⟩
theorem Only.of_below {S : Nat → Prop} {B : Nat} {w w' : World} (h : Below B w w') (hB : w.heap.size ≤ B) : Only S w w' :=
  ⟨h.os, h.tape, h.output, h.size, fun k hk _ => h.block k (by omega)⟩
theorem Only.below {S : Nat → Prop} {B : Nat} {w w' : World} (h : Only S w w') (hB : B ≤ w.heap.size) (hS : ∀ k, S k → B ≤ k) : Below B w w' :=
  ⟨h.os, h.tape, h.output, h.size, fun k hk => h.block k (by omega) (fun hs => by have := hS k hs; omega)⟩
theorem Only.mono {S T : Nat → Prop} {w w' : World} (h : Only S w w') (hT : ∀ k, S k → T k) : Only T w w' :=
  ⟨h.os, h.tape, h.output, h.size, fun k hk hr => h.block k hk (fun hs => hr (hT k hs))⟩
theorem Only.put {S : Nat → Prop} {a w : World} (h : Only S a w) (b o : Nat) (hp : S b) (u : Value) : Only S a (w.setCell ⟨b, o, none⟩ u) :=
  h.trans ⟨rfl, rfl, rfl, by simp [World.setCell], fun k hk hr => Below.heap_setCell _ _ _ _ (fun e => hr (e ▸ hp))⟩
theorem Only.setCell {S : Nat → Prop} {a w : World} (h : Only S a w) {p : Addr} (hp : S p.block) (u : Value) : Only S a (w.setCell p u) :=
  h.trans ⟨rfl, rfl, rfl, by simp [World.setCell], fun k hk hr => Below.heap_setCell _ _ _ _ (fun e => hr (e ▸ hp))⟩

/-- The world with the cells of vs stored from o + j on. -/
def putAt (g o : Nat) : World → Nat → List Value → World
  | w, _, [] => w
  | w, j, v :: r => putAt g o (w.setCell ⟨g, o + j, none⟩ v) (j + 1) r
theorem putAt_only {S : Nat → Prop} {g : Nat} (hg : S g) (o : Nat) : ∀ (vs : List Value) (a w : World) (j : Nat), Only S a w → Only S a (putAt g o w j vs)
  | [], _, _, _, h => h
  | v :: r, a, w, j, h => putAt_only hg o r a _ (j + 1) (h.setCell hg v)
theorem putAt_frozen (g o : Nat) (p : Addr) : ∀ (vs : List Value) (w : World) (j : Nat), (putAt g o w j vs).frozen? p = w.frozen? p
  | [], _, _ => rfl
  | v :: r, w, j => by
    rw [putAt, putAt_frozen g o p r]
    exact World.frozen?_setCell w _ p v
theorem putAt_size (g o : Nat) : ∀ (vs : List Value) (w : World) (j : Nat), (putAt g o w j vs).heap.size = w.heap.size
  | [], _, _ => rfl
  | v :: r, w, j => by
    rw [putAt, putAt_size g o r]
    simp [World.setCell]
theorem putAt_other (g o : Nat) (p : Addr) : ∀ (vs : List Value) (w : World) (j : Nat), (∀ i, i < vs.length → p ≠ ⟨g, o + (j + i), none⟩) → (putAt g o w j vs).cell? p = w.cell? p
  | [], _, _, _ => rfl
  | v :: r, w, j, h => by
    rw [putAt, putAt_other g o p r _ (j + 1) (fun i hi e => h (i + 1) (by simp; omega) (by rw [e]; congr 1; omega))]
    exact World.cell?_setCell_other w _ _ _ (fun e => h 0 (by simp) (by first | exact e | exact e.symm))
theorem putAt_cell (g o : Nat) : ∀ (vs : List Value) (w : World) (j : Nat), (∀ i, i < vs.length → ∃ u, w.cell? ⟨g, o + (j + i), none⟩ = some u) → ∀ i v, vs[i]? = some v → (putAt g o w j vs).cell? ⟨g, o + (j + i), none⟩ = some v
  | [], _, _, _, i, v, hv => by simp at hv
  | x :: r, w, j, h, 0, v, hv => by
    obtain ⟨u, hu⟩ := h 0 (by simp)
    rw [putAt, putAt_other g o _ r _ (j + 1) (fun i hi e => by
      have : o + (j + 0) = o + (j + 1 + i) := by injection e
      omega)]
    simp at hv
    subst hv
    exact World.cell?_setCell_same w ⟨g, o + j, none⟩ _ hu
  | x :: r, w, j, h, i + 1, v, hv => by
    rw [putAt]
    have := putAt_cell g o r (w.setCell ⟨g, o + j, none⟩ x) (j + 1) (fun i hi => by
      obtain ⟨u, hu⟩ := h (i + 1) (by simp; omega)
      refine ⟨u, ?_⟩
      rw [World.cell?_setCell_other w _ _ _ (fun e => by
        have : (⟨g, o + j, none⟩ : Addr).off = (⟨g, o + (j + 1 + i), none⟩ : Addr).off := by rw [e]
        simp at this
        omega)]
      rw [← hu]
      congr 2
      omega) i v (by simpa using hv)
    rw [← this]
    congr 2
    omega

section
variable {α : Type} [Flat α]
/-- xs lies from an offset of block g on, and may be written there. -/
structure OwnAt (w : World) (g o : Nat) (xs : List α) : Prop where
  cell : ∀ i, i < xs.length → CellsAt w g (o + i * Flat.sz α) (Flat.cells (it xs i))
  free : ∀ i j, i < xs.length → j < Flat.sz α → w.frozen? ⟨g, o + i * Flat.sz α + j, none⟩ = false
theorem OwnAt.put {w : World} {g o : Nat} {xs : List α} (h : OwnAt w g o xs) (k : Nat) (x : α) (hk : k < xs.length) : OwnAt (putAt g (o + k * Flat.sz α) w 0 (Flat.cells x)) g o (xs.set k x) := by
  have hex : ∀ i, i < (Flat.cells x).length → ∃ u, w.cell? ⟨g, o + k * Flat.sz α + (0 + i), none⟩ = some u := fun i hi => by
    rw [Flat.len] at hi
    have hl : i < (Flat.cells (it xs k)).length := by rw [Flat.len]; exact hi
    refine ⟨(Flat.cells (it xs k))[i], ?_⟩
    rw [Nat.zero_add]
    exact h.cell k hk i _ (List.getElem?_eq_getElem hl)
  refine ⟨fun i hi => ?_, fun i j hi hj => ?_⟩
  · rw [List.length_set] at hi
    rw [it_set xs k i x hk]
    by_cases e : i = k
    · subst e
      rw [if_pos rfl]
      intro j v hv
      have := putAt_cell g _ _ w 0 hex j v hv
      rwa [Nat.zero_add] at this
    · rw [if_neg e]
      intro j v hv
      have hj : j < Flat.sz α := by
        have := (List.getElem?_eq_some_iff.1 hv).1
        rwa [Flat.len] at this
      rw [putAt_other g _ _ _ w 0 (fun i' hi' he => by
        rw [Flat.len] at hi'
        have h1 : o + i * Flat.sz α + j = o + k * Flat.sz α + (0 + i') := by injection he
        rcases Nat.lt_or_gt_of_ne e with hlt | hgt
        · have := Nat.mul_le_mul_right (Flat.sz α) (show i + 1 ≤ k from hlt)
          rw [Nat.succ_mul] at this
          omega
        · have := Nat.mul_le_mul_right (Flat.sz α) (show k + 1 ≤ i from hgt)
          rw [Nat.succ_mul] at this
          omega)]
      exact h.cell i hi j v hv
  · rw [List.length_set] at hi
    rw [putAt_frozen]
    exact h.free i j hi hj
theorem OwnAt.block {w w' : World} {g o : Nat} {xs : List α} (h : OwnAt w g o xs) (hb : w'.heap[g]? = w.heap[g]?) : OwnAt w' g o xs :=
  ⟨fun i hi j v hv => (World.cell?_of_block (w := w) (a := ⟨g, _, none⟩) hb).trans (h.cell i hi j v hv), fun i j hi hj => (World.frozen?_of_block (w := w) (a := ⟨g, _, none⟩) hb).trans (h.free i j hi hj)⟩

/-- The slice at A holds xs, in a block of S, and may be written. -/
def Owned (S : Nat → Prop) (w : World) (A : Option Addr) (xs : List α) : Prop :=
  0 < xs.length → ∃ g o, A = some ⟨g, o, none⟩ ∧ S g ∧ g < w.heap.size ∧ OwnAt w g o xs
theorem Owned.nil (S : Nat → Prop) (w : World) (A : Option Addr) : Owned S w A ([] : List α) := fun hp => absurd hp (by simp)
theorem Owned.keep {S T : Nat → Prop} {w w' : World} {A : Option Addr} {xs : List α} (h : Owned S w A xs) (k : Only T w w') (hd : ∀ i, S i → ¬ T i) : Owned S w' A xs := fun hp => by
  obtain ⟨g, o, rfl, hs, hg, hc⟩ := h hp
  exact ⟨g, o, rfl, hs, Nat.lt_of_lt_of_le hg k.size, hc.block (k.block g hg (hd g hs))⟩
theorem Owned.keepB {S : Nat → Prop} {w w' : World} {A : Option Addr} {xs : List α} (h : Owned S w A xs) (k : Below w.heap.size w w') : Owned S w' A xs :=
  h.keep (T := fun _ => False) (Only.of_below k (Nat.le_refl _)) (fun _ _ h => h)
theorem Owned.mono {S T : Nat → Prop} {w : World} {A : Option Addr} {xs : List α} (h : Owned S w A xs) (hS : ∀ i, S i → T i) : Owned T w A xs := fun hp => by
  obtain ⟨g, o, rfl, hs, hg, hc⟩ := h hp
  exact ⟨g, o, rfl, hS g hs, hg, hc⟩
theorem Owned.lst {S : Nat → Prop} {w : World} {A : Option Addr} {xs : List α} (h : Owned S w A xs) : Lst w w.heap.size A xs := fun hp => by
  obtain ⟨g, o, rfl, hs, hg, hc⟩ := h hp
  exact ⟨g, o, rfl, hg, hc.cell⟩

theorem flat_get (xs : List α) (i j : Nat) (hi : i < xs.length) (hj : j < Flat.sz α) : (xs.flatMap Flat.cells)[i * Flat.sz α + j]? = (Flat.cells (it xs i))[j]? := by
  induction xs generalizing i with
  | nil => simp at hi
  | cons x r ih =>
    rw [List.flatMap_cons]
    cases i with
    | zero =>
      rw [Nat.zero_mul, Nat.zero_add, List.getElem?_append_left (by rw [Flat.len]; exact hj)]
      rfl
    | succ i =>
      rw [List.getElem?_append_right (by rw [Flat.len, Nat.succ_mul]; omega), Flat.len, show (i + 1) * Flat.sz α + j - Flat.sz α = i * Flat.sz α + j by rw [Nat.succ_mul]; omega, ih i (by simpa using hi)]
      rfl
theorem flat_len (xs : List α) : (xs.flatMap Flat.cells).length = xs.length * Flat.sz α := by
  induction xs with
  | nil => simp
  | cons x r ih => rw [List.flatMap_cons, List.length_append, Flat.len, ih, List.length_cons, Nat.succ_mul, Nat.add_comm]
theorem own_of_row {w : World} {base g cap : Nat} {e : TypeId} (xs : List α) (h : w.ownsRow base e (Flat.sz α) (.slice (some ⟨g, 0, none⟩) xs.length cap) xs.length (xs.flatMap Flat.cells)) : OwnAt w g 0 xs := by
  refine ⟨fun i hi j v hv => ?_, fun i j hi hj => h.frozenAt _⟩
  have hj : j < Flat.sz α := by
    have := (List.getElem?_eq_some_iff.1 hv).1
    rwa [Flat.len] at this
  have hm := Nat.mul_le_mul_right (Flat.sz α) (show i + 1 ≤ xs.length from hi)
  rw [Nat.succ_mul] at hm
  rw [Nat.zero_add, h.cellAt (i * Flat.sz α + j) (by omega), flat_get xs i j hi hj]
  exact hv
theorem made_flat (z : Array Value) (x : α) (n : Nat) (hz : Flat.cells x = z.toList) (hs : 0 < Flat.sz α) : (madeCells z (n * Flat.sz α)).toList = (List.replicate n x).flatMap Flat.cells := by
  have hsz : z.size = Flat.sz α := by
    have := Flat.len x
    rw [hz] at this
    simpa using this
  apply List.ext_getElem?
  intro p
  rcases Nat.lt_or_ge p (n * Flat.sz α) with h | h
  · have hd := Nat.div_add_mod p (Flat.sz α)
    have hm := Nat.mod_lt p hs
    have hq : p / Flat.sz α < n := by
      rw [Nat.div_lt_iff_lt_mul hs]
      exact h
    have hp : p = p / Flat.sz α * Flat.sz α + p % Flat.sz α := by
      rw [Nat.mul_comm]
      exact hd.symm
    have hrep : it (List.replicate n x) (p / Flat.sz α) = x := by
      unfold it
      rw [List.getD_eq_getElem?_getD, List.getElem?_replicate, if_pos hq]
      rfl
    rw [show (List.flatMap Flat.cells (List.replicate n x))[p]? = (List.flatMap Flat.cells (List.replicate n x))[p / Flat.sz α * Flat.sz α + p % Flat.sz α]? by rw [← hp], flat_get _ _ _ (by simpa using hq) hm, hrep, hz]
    have hm' : p % Flat.sz α < z.size := by omega
    simp only [madeCells, Array.getElem?_toList, Array.getElem?_map, Array.getElem?_range, if_pos h, Option.map_some, hsz]
    rw [Array.getElem?_eq_getElem hm', getElem!_pos z _ hm']
  · rw [List.getElem?_eq_none (by rw [Array.length_toList, size_madeCells]; exact h), List.getElem?_eq_none (by rw [flat_len, List.length_replicate]; exact h)]
end
end Go.Proofs.Ytnambmpnolkfjaa
