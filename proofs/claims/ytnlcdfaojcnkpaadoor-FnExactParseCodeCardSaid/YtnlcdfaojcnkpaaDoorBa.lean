/- Slices of values that lie flat in memory, each in the same number of cells: what such a slice holds, what a call owns of it, what a store turns. What an argument's reading says of its cells: numbers, strings, structs of one-cell fields, slices of what lies flat. The laws' text of a mark. Slices of ints: copied, compared, marked, held. Slices of strings: measured, copied, compared, marked, held. -/
import Derived.Test.YtnlcdfaojcnkpaaDoorRows
import Derived.WalkKit
import Derived.ProofKit
import Derived.OpenShut
import Derived.Handy
import Derived.Lib.Hide
import Derived.LoopTactic
import Derived.Below
import Derived.OwnWalk
import Derived.Deep.QuietTactic
import Derived.BigQuiet
import Derived.Outline
import Derived.Deep.Slices
import Derived.Deep.Fields
import Derived.ChangeSame
import Derived.ChangeArms
import Derived.WideShapes
import Derived.Laws.IdiomStrings
import Derived.RegionTactic
import Derived.Deep.RegionHeld3
namespace Go.Proofs.YtnlcdfaojcnkpaaDoor
open Go.ChangeShapes Go.WideShapes Go.ChangeAt Go.RowKit
set_option linter.unusedVariables false

/-- A kind of value that lies in sz cells. -/
class Flat (α : Type) extends Inhabited α where
  sz : Nat
  cells : α → List Value
  len : ∀ x, (cells x).length = sz

/-- The element at an index. -/
def it {α : Type} [Inhabited α] (xs : List α) (i : Nat) : α := xs.getD i default
theorem it_set {α : Type} [Inhabited α] (xs : List α) (k i : Nat) (x : α) (hk : k < xs.length) : it (xs.set k x) i = if i = k then x else it xs i := by
  unfold it
  rw [List.getD_eq_getElem?_getD, List.getD_eq_getElem?_getD, List.getElem?_set]
  by_cases e : i = k
  · subst e
    simp [hk]
  · simp [e, Ne.symm e]
theorem it_get {α : Type} [Inhabited α] (xs : List α) (i : Nat) (h : i < xs.length) : xs[i]? = some (it xs i) := by
  unfold it
  rw [List.getD_eq_getElem?_getD, List.getElem?_eq_getElem h]
  rfl
theorem it_ext {α : Type} [Inhabited α] (xs ys : List α) (hl : xs.length = ys.length) (h : ∀ i, i < xs.length → it xs i = it ys i) : xs = ys := by
  apply List.ext_getElem?
  intro i
  rcases Nat.lt_or_ge i xs.length with hi | hi
  · rw [it_get xs i hi, it_get ys i (by omega), h i hi]
  · rw [List.getElem?_eq_none hi, List.getElem?_eq_none (by omega)]

/-- The cells from an offset on. -/
def CellsAt (w : World) (b o : Nat) (vs : List Value) : Prop := ∀ j v, vs[j]? = some v → w.cell? ⟨b, o + j, none⟩ = some v
theorem CellsAt.below {w w' : World} {B b o : Nat} {vs : List Value} (h : CellsAt w b o vs) (hb : Below B w w') (hB : b < B) : CellsAt w' b o vs :=
  fun j v hj => (hb.cell (p := ⟨b, o + j, none⟩) hB).trans (h j v hj)

section
variable {α : Type} [Flat α]
/-- The slice at A holds xs, in a block below B. -/
def Lst (w : World) (B : Nat) (A : Option Addr) (xs : List α) : Prop :=
  0 < xs.length → ∃ b o, A = some ⟨b, o, none⟩ ∧ b < B ∧ ∀ i, i < xs.length → CellsAt w b (o + i * Flat.sz α) (Flat.cells (it xs i))
theorem Lst.below {w w' : World} {B B' : Nat} {A : Option Addr} {xs : List α} (h : Lst w B A xs) (hb : Below B' w w') (hB : B ≤ B') : Lst w' B A xs := fun hp => by
  obtain ⟨b, o, rfl, hlt, hc⟩ := h hp
  exact ⟨b, o, rfl, hlt, fun i hi => (hc i hi).below hb (by omega)⟩
theorem Lst.up {w : World} {B B' : Nat} {A : Option Addr} {xs : List α} (h : Lst w B A xs) (hB : B ≤ B') : Lst w B' A xs := fun hp => by
  obtain ⟨b, o, rfl, hlt, hc⟩ := h hp
  exact ⟨b, o, rfl, by omega, hc⟩
theorem Lst.nil (w : World) (B : Nat) (A : Option Addr) : Lst w B A ([] : List α) := fun hp => absurd hp (by simp)
theorem Lst.drewN {w : World} {B : Nat} {A : Option Addr} {xs : List α} (h : Lst w B A xs) (n : Nat) : Lst (w.drewN n) B A xs := h
end

/-- A place where a walk stands still, ahead of a region. -/
structure Stop (p : Prop) : Prop where
  of : p
theorem stop_at (k : Nat) {P : Program} {ops : Array Oper} {dr : Bool} {c : Code} {Q : Exit → Act → World → Prop} {a : Act} {w : World} (h : Stop (∀ w', w' = w → Code.wp P ((Code.region k ops dr).seq c) Q a w')) : Code.wp P ((Code.region k ops dr).seq c) Q a w := h.of w rfl
theorem stop_end (k : Nat) {P : Program} {ops : Array Oper} {dr : Bool} {Q : Exit → Act → World → Prop} {a : Act} {w : World} (h : Stop (∀ w', w' = w → Code.wp P (Code.region k ops dr) Q a w')) : Code.wp P (Code.region k ops dr) Q a w := h.of w rfl

theorem stop_ret {P : Program} {Q : Exit → Act → World → Prop} {a : Act} {w : World} (h : Stop (∀ w', w' = w → Code.wp P Code.ret Q a w')) : Code.wp P Code.ret Q a w := h.of w rfl

/-- At most the blocks of S, and new ones, differ. -/
structure Only (S : Nat → Prop) (w w' : World) : Prop where
  os : w'.os = w.os
  tape : w'.tape = w.tape
  output : w'.output = w.output
  size : w.heap.size ≤ w'.heap.size
  block : ∀ k, k < w.heap.size → ¬ S k → w'.heap[k]? = w.heap[k]?
theorem Only.refl (S : Nat → Prop) (w : World) : Only S w w := ⟨rfl, rfl, rfl, Nat.le_refl _, fun _ _ _ => rfl⟩
theorem Only.trans {S : Nat → Prop} {a b c : World} (h : Only S a b) (k : Only S b c) : Only S a c :=
  ⟨k.os.trans h.os, k.tape.trans h.tape, k.output.trans h.output, Nat.le_trans h.size k.size, fun i hi hr => (k.block i (Nat.lt_of_lt_of_le hi h.size) hr).trans (h.block i hi hr)⟩
theorem Only.of_below {S : Nat → Prop} {B : Nat} {w w' : World} (h : Below B w w') (hB : w.heap.size ≤ B) : Only S w w' :=
  ⟨h.os, h.tape, h.output, h.size, fun k hk _ => h.block k (by omega)⟩
theorem Only.below {S : Nat → Prop} {B : Nat} {w w' : World} (h : Only S w w') (hB : B ≤ w.heap.size) (hS : ∀ k, S k → B ≤ k) : Below B w w' :=
  ⟨h.os, h.tape, h.output, h.size, fun k hk => h.block k (by omega) (fun hs => by have := hS k hs; omega)⟩
theorem Only.mono {S T : Nat → Prop} {w w' : World} (h : Only S w w') (hT : ∀ k, S k → T k) : Only T w w' :=
  ⟨h.os, h.tape, h.output, h.size, fun k hk hr => h.block k hk (fun hs => hr (hT k hs))⟩
theorem Only.put {S : Nat → Prop} {a w : World} (h : Only S a w) (b o : Nat) (hp : S b) (u : Value) : Only S a (w.setCell ⟨b, o, none⟩ u) :=
  h.trans ⟨rfl, rfl, rfl, by simp [World.setCell], fun k hk hr => Below.heap_setCell _ _ _ _ (fun e => hr (e ▸ hp))⟩
theorem Only.setCell {S : Nat → Prop} {a w : World} (h : Only S a w) {p : Addr} (hp : S p.block) (u : Value) : Only S a (w.setCell p u) :=
  h.trans ⟨rfl, rfl, rfl, by simp [World.setCell], fun k hk hr => Below.heap_setCell _ _ _ _ (fun e => hr (e ▸ hp))⟩

/-- The world with the cells of vs stored from o + j on. -/
def putAt (g o : Nat) : World → Nat → List Value → World
  | w, _, [] => w
  | w, j, v :: r => putAt g o (w.setCell ⟨g, o + j, none⟩ v) (j + 1) r
theorem putAt_only {S : Nat → Prop} {g : Nat} (hg : S g) (o : Nat) : ∀ (vs : List Value) (a w : World) (j : Nat), Only S a w → Only S a (putAt g o w j vs)
  | [], _, _, _, h => h
  | v :: r, a, w, j, h => putAt_only hg o r a _ (j + 1) (h.setCell hg v)
theorem putAt_frozen (g o : Nat) (p : Addr) : ∀ (vs : List Value) (w : World) (j : Nat), (putAt g o w j vs).frozen? p = w.frozen? p
  | [], _, _ => rfl
  | v :: r, w, j => by
    rw [putAt, putAt_frozen g o p r]
    exact World.frozen?_setCell w _ p v
theorem putAt_size (g o : Nat) : ∀ (vs : List Value) (w : World) (j : Nat), (putAt g o w j vs).heap.size = w.heap.size
  | [], _, _ => rfl
  | v :: r, w, j => by
    rw [putAt, putAt_size g o r]
    simp [World.setCell]
theorem putAt_other (g o : Nat) (p : Addr) : ∀ (vs : List Value) (w : World) (j : Nat), (∀ i, i < vs.length → p ≠ ⟨g, o + (j + i), none⟩) → (putAt g o w j vs).cell? p = w.cell? p
  | [], _, _, _ => rfl
  | v :: r, w, j, h => by
    rw [putAt, putAt_other g o p r _ (j + 1) (fun i hi e => h (i + 1) (by simp; omega) (by rw [e]; congr 1; omega))]
    exact World.cell?_setCell_other w _ _ _ (fun e => h 0 (by simp) (by first | exact e | exact e.symm))
theorem putAt_cell (g o : Nat) : ∀ (vs : List Value) (w : World) (j : Nat), (∀ i, i < vs.length → ∃ u, w.cell? ⟨g, o + (j + i), none⟩ = some u) → ∀ i v, vs[i]? = some v → (putAt g o w j vs).cell? ⟨g, o + (j + i), none⟩ = some v
  | [], _, _, _, i, v, hv => by simp at hv
  | x :: r, w, j, h, 0, v, hv => by
    obtain ⟨u, hu⟩ := h 0 (by simp)
    rw [putAt, putAt_other g o _ r _ (j + 1) (fun i hi e => by
      have : o + (j + 0) = o + (j + 1 + i) := by injection e
      omega)]
    simp at hv
    subst hv
    exact World.cell?_setCell_same w ⟨g, o + j, none⟩ _ hu
  | x :: r, w, j, h, i + 1, v, hv => by
    rw [putAt]
    have := putAt_cell g o r (w.setCell ⟨g, o + j, none⟩ x) (j + 1) (fun i hi => by
      obtain ⟨u, hu⟩ := h (i + 1) (by simp; omega)
      refine ⟨u, ?_⟩
      rw [World.cell?_setCell_other w _ _ _ (fun e => by
        have : (⟨g, o + j, none⟩ : Addr).off = (⟨g, o + (j + 1 + i), none⟩ : Addr).off := by rw [e]
        simp at this
        omega)]
      rw [← hu]
      congr 2
      omega) i v (by simpa using hv)
    rw [← this]
    congr 2
    omega

section
variable {α : Type} [Flat α]
/-- xs lies from an offset of block g on, and may be written there. -/
structure OwnAt (w : World) (g o : Nat) (xs : List α) : Prop where
  cell : ∀ i, i < xs.length → CellsAt w g (o + i * Flat.sz α) (Flat.cells (it xs i))
  free : ∀ i j, i < xs.length → j < Flat.sz α → w.frozen? ⟨g, o + i * Flat.sz α + j, none⟩ = false
theorem OwnAt.put {w : World} {g o : Nat} {xs : List α} (h : OwnAt w g o xs) (k : Nat) (x : α) (hk : k < xs.length) : OwnAt (putAt g (o + k * Flat.sz α) w 0 (Flat.cells x)) g o (xs.set k x) := by
  have hex : ∀ i, i < (Flat.cells x).length → ∃ u, w.cell? ⟨g, o + k * Flat.sz α + (0 + i), none⟩ = some u := fun i hi => by
    rw [Flat.len] at hi
    have hl : i < (Flat.cells (it xs k)).length := by rw [Flat.len]; exact hi
    refine ⟨(Flat.cells (it xs k))[i], ?_⟩
    rw [Nat.zero_add]
    exact h.cell k hk i _ (List.getElem?_eq_getElem hl)
  refine ⟨fun i hi => ?_, fun i j hi hj => ?_⟩
  · rw [List.length_set] at hi
    rw [it_set xs k i x hk]
    by_cases e : i = k
    · subst e
      rw [if_pos rfl]
      intro j v hv
      have := putAt_cell g _ _ w 0 hex j v hv
      rwa [Nat.zero_add] at this
    · rw [if_neg e]
      intro j v hv
      have hj : j < Flat.sz α := by
        have := (List.getElem?_eq_some_iff.1 hv).1
        rwa [Flat.len] at this
      rw [putAt_other g _ _ _ w 0 (fun i' hi' he => by
        rw [Flat.len] at hi'
        have h1 : o + i * Flat.sz α + j = o + k * Flat.sz α + (0 + i') := by injection he
        rcases Nat.lt_or_gt_of_ne e with hlt | hgt
        · have := Nat.mul_le_mul_right (Flat.sz α) (show i + 1 ≤ k from hlt)
          rw [Nat.succ_mul] at this
          omega
        · have := Nat.mul_le_mul_right (Flat.sz α) (show k + 1 ≤ i from hgt)
          rw [Nat.succ_mul] at this
          omega)]
      exact h.cell i hi j v hv
  · rw [List.length_set] at hi
    rw [putAt_frozen]
    exact h.free i j hi hj
theorem OwnAt.block {w w' : World} {g o : Nat} {xs : List α} (h : OwnAt w g o xs) (hb : w'.heap[g]? = w.heap[g]?) : OwnAt w' g o xs :=
  ⟨fun i hi j v hv => (World.cell?_of_block (w := w) (a := ⟨g, _, none⟩) hb).trans (h.cell i hi j v hv), fun i j hi hj => (World.frozen?_of_block (w := w) (a := ⟨g, _, none⟩) hb).trans (h.free i j hi hj)⟩

/-- The slice at A holds xs, in a block of S, and may be written. -/
def Owned (S : Nat → Prop) (w : World) (A : Option Addr) (xs : List α) : Prop :=
  0 < xs.length → ∃ g o, A = some ⟨g, o, none⟩ ∧ S g ∧ g < w.heap.size ∧ OwnAt w g o xs
theorem Owned.nil (S : Nat → Prop) (w : World) (A : Option Addr) : Owned S w A ([] : List α) := fun hp => absurd hp (by simp)
theorem Owned.keep {S T : Nat → Prop} {w w' : World} {A : Option Addr} {xs : List α} (h : Owned S w A xs) (k : Only T w w') (hd : ∀ i, S i → ¬ T i) : Owned S w' A xs := fun hp => by
  obtain ⟨g, o, rfl, hs, hg, hc⟩ := h hp
  exact ⟨g, o, rfl, hs, Nat.lt_of_lt_of_le hg k.size, hc.block (k.block g hg (hd g hs))⟩
theorem Owned.keepB {S : Nat → Prop} {w w' : World} {A : Option Addr} {xs : List α} (h : Owned S w A xs) (k : Below w.heap.size w w') : Owned S w' A xs :=
  h.keep (T := fun _ => False) (Only.of_below k (Nat.le_refl _)) (fun _ _ h => h)
theorem Owned.mono {S T : Nat → Prop} {w : World} {A : Option Addr} {xs : List α} (h : Owned S w A xs) (hS : ∀ i, S i → T i) : Owned T w A xs := fun hp => by
  obtain ⟨g, o, rfl, hs, hg, hc⟩ := h hp
  exact ⟨g, o, rfl, hS g hs, hg, hc⟩
theorem Owned.lst {S : Nat → Prop} {w : World} {A : Option Addr} {xs : List α} (h : Owned S w A xs) : Lst w w.heap.size A xs := fun hp => by
  obtain ⟨g, o, rfl, hs, hg, hc⟩ := h hp
  exact ⟨g, o, rfl, hg, hc.cell⟩

theorem flat_get (xs : List α) (i j : Nat) (hi : i < xs.length) (hj : j < Flat.sz α) : (xs.flatMap Flat.cells)[i * Flat.sz α + j]? = (Flat.cells (it xs i))[j]? := by
  induction xs generalizing i with
  | nil => simp at hi
  | cons x r ih =>
    rw [List.flatMap_cons]
    cases i with
    | zero =>
      rw [Nat.zero_mul, Nat.zero_add, List.getElem?_append_left (by rw [Flat.len]; exact hj)]
      rfl
    | succ i =>
      rw [List.getElem?_append_right (by rw [Flat.len, Nat.succ_mul]; omega), Flat.len, show (i + 1) * Flat.sz α + j - Flat.sz α = i * Flat.sz α + j by rw [Nat.succ_mul]; omega, ih i (by simpa using hi)]
      rfl
theorem flat_len (xs : List α) : (xs.flatMap Flat.cells).length = xs.length * Flat.sz α := by
  induction xs with
  | nil => simp
  | cons x r ih => rw [List.flatMap_cons, List.length_append, Flat.len, ih, List.length_cons, Nat.succ_mul, Nat.add_comm]
theorem own_of_row {w : World} {base g cap : Nat} {e : TypeId} (xs : List α) (h : w.ownsRow base e (Flat.sz α) (.slice (some ⟨g, 0, none⟩) xs.length cap) xs.length (xs.flatMap Flat.cells)) : OwnAt w g 0 xs := by
  refine ⟨fun i hi j v hv => ?_, fun i j hi hj => h.frozenAt _⟩
  have hj : j < Flat.sz α := by
    have := (List.getElem?_eq_some_iff.1 hv).1
    rwa [Flat.len] at this
  have hm := Nat.mul_le_mul_right (Flat.sz α) (show i + 1 ≤ xs.length from hi)
  rw [Nat.succ_mul] at hm
  rw [Nat.zero_add, h.cellAt (i * Flat.sz α + j) (by omega), flat_get xs i j hi hj]
  exact hv
theorem made_flat (z : Array Value) (x : α) (n : Nat) (hz : Flat.cells x = z.toList) (hs : 0 < Flat.sz α) : (madeCells z (n * Flat.sz α)).toList = (List.replicate n x).flatMap Flat.cells := by
  have hsz : z.size = Flat.sz α := by
    have := Flat.len x
    rw [hz] at this
    simpa using this
  apply List.ext_getElem?
  intro p
  rcases Nat.lt_or_ge p (n * Flat.sz α) with h | h
  · have hd := Nat.div_add_mod p (Flat.sz α)
    have hm := Nat.mod_lt p hs
    have hq : p / Flat.sz α < n := by
      rw [Nat.div_lt_iff_lt_mul hs]
      exact h
    have hp : p = p / Flat.sz α * Flat.sz α + p % Flat.sz α := by
      rw [Nat.mul_comm]
      exact hd.symm
    have hrep : it (List.replicate n x) (p / Flat.sz α) = x := by
      unfold it
      rw [List.getD_eq_getElem?_getD, List.getElem?_replicate, if_pos hq]
      rfl
    rw [show (List.flatMap Flat.cells (List.replicate n x))[p]? = (List.flatMap Flat.cells (List.replicate n x))[p / Flat.sz α * Flat.sz α + p % Flat.sz α]? by rw [← hp], flat_get _ _ _ (by simpa using hq) hm, hrep, hz]
    have hm' : p % Flat.sz α < z.size := by omega
    simp only [madeCells, Array.getElem?_toList, Array.getElem?_map, Array.getElem?_range, if_pos h, Option.map_some, hsz]
    rw [Array.getElem?_eq_getElem hm', getElem!_pos z _ hm']
  · rw [List.getElem?_eq_none (by rw [Array.length_toList, size_madeCells]; exact h), List.getElem?_eq_none (by rw [flat_len, List.length_replicate]; exact h)]
end
end Go.Proofs.YtnlcdfaojcnkpaaDoor

namespace Go.Proofs.YtnlcdfaojcnkpaaDoor
open Go.ChangeShapes Go.WideShapes Go.ChangeAt Go.RowKit Go.Deep
set_option linter.unusedVariables false

section
variable {H : Type} {enc : TypeId × Value → H} {P : Program} {w : World}
/-- The cells cs can be read as a value of type t. -/
def Rd (enc : TypeId × Value → H) (P : Program) (w : World) (t : TypeId) (cs : List Value) : Prop := ∃ fuel x, DataW.trod enc P w 0 (fun _ => true) true fuel t cs = some x

theorem rd_int {t : TypeId} {k : IntKind} {v : Value} (ht : P.underlying t = some (.int k)) (h : Rd enc P w t [v]) : ∃ n, v = .int k n ∧ (Lit.int k n).wf = true := by
  obtain ⟨fuel, x, hf⟩ := h
  obtain ⟨n, hc, _, hw⟩ := DataW.trod_int ht hf
  exact ⟨n, by simpa using hc, hw⟩
theorem rd_string {t : TypeId} {v : Value} (ht : P.underlying t = some .string) (h : Rd enc P w t [v]) : ∃ s : ByteArray, v = .string s ∧ s.size ≤ maxLen := by
  obtain ⟨fuel, x, hf⟩ := h
  obtain ⟨s, hc, _, hs⟩ := DataW.trod_string ht hf
  exact ⟨s, by simpa using hc, hs⟩
theorem rd_struct {t : TypeId} {fs : Array Field} {cs : List Value} (ht : P.underlying t = some (.struct fs)) (hone : oneCellFields P fs = true) (hC : P.cellsOf t = fs.size) (h : Rd enc P w t cs) :
    cs.length = fs.size ∧ ∀ (j : Nat) (f : Field), fs[j]? = some f → ∃ v, cs[j]? = some v ∧ Rd enc P w f.type [v] := by
  obtain ⟨fuel, x, hf⟩ := h
  obtain ⟨ys, n, _, _, hlen, hyl, hg⟩ := DataW.trod_struct ht hf
  rw [hC] at hlen
  refine ⟨hlen, fun j f hj => ?_⟩
  obtain ⟨ho, hk⟩ := hone_of hone j f hj
  have hjl : j < fs.size := (Array.getElem?_eq_some_iff.1 hj).1
  have h1 := hg j f hj
  rw [ho, hk, List.drop_eq_getElem_cons (by omega), List.take_succ_cons, List.take_zero, List.getElem?_eq_getElem (by omega)] at h1
  exact ⟨_, List.getElem?_eq_getElem (by omega), n, _, h1⟩
theorem rd_of {r : Reach} {b0 : Nat} {t : TypeId} {v : Value} {d : DataW H} {p : List MemPlace} (h : DataW.Trod enc P w 0 (fun _ => true) true t v d p) : Rd enc P w t v.cells.toList := by
  obtain ⟨fuel, hf⟩ := h
  exact ⟨fuel, _, hf⟩
theorem choose_list {α : Type} [Inhabited α] (n : Nat) (Q : Nat → α → Prop) (h : ∀ i, i < n → ∃ x, Q i x) : ∃ xs : List α, xs.length = n ∧ ∀ i, i < n → Q i (it xs i) := by
  induction n with
  | zero => exact ⟨[], rfl, fun i hi => absurd hi (by omega)⟩
  | succ n ih =>
    obtain ⟨xs, hl, hx⟩ := ih (fun i hi => h i (by omega))
    obtain ⟨x, hq⟩ := h n (by omega)
    refine ⟨xs ++ [x], by simp [hl], fun i hi => ?_⟩
    unfold it
    rw [List.getD_eq_getElem?_getD]
    rcases Nat.lt_or_ge i n with hlt | hge
    · rw [List.getElem?_append_left (by omega), ← List.getD_eq_getElem?_getD]
      exact hx i hlt
    · obtain rfl : i = n := by omega
      rw [List.getElem?_append_right (by omega), hl]
      simpa using hq
theorem rd_list {α : Type} [Flat α] {t e : TypeId} {v : Value} (Q : α → Prop) (ht : P.underlying t = some (.slice e)) (hC : P.cellsOf e = Flat.sz α) (hs : 0 < Flat.sz α)
    (hel : ∀ cs, Rd enc P w e cs → ∃ x : α, cs = Flat.cells x ∧ Q x) (h : Rd enc P w t [v]) :
    ∃ (A : Option Addr) (cap : Nat) (xs : List α), v = .slice A xs.length cap ∧ xs.length ≤ maxLen ∧ Lst w w.heap.size A xs ∧ ∀ i, i < xs.length → Q (it xs i) := by
  obtain ⟨fuel, x, hf⟩ := h
  rcases open_slice ht hf with ⟨hc, _⟩ | ⟨a, len, cap, m, n, D, Pl, hcs, hb, hl, hm, hmm, hx, hi⟩
  · exact ⟨none, 0, [], by simpa using hc, by unfold maxLen; simp, Lst.nil _ _ _, fun i hi => absurd hi (by simp)⟩
  · have hlm : len ≤ m := by
      rw [hmm]
      simpa using hl
    obtain ⟨xs, hxl, hxs⟩ := choose_list len (fun i (x : α) => (∃ cs', w.cells? 0 (a.add (i * P.cellsOf e)) (P.cellsOf e) = some cs' ∧ cs' = Flat.cells x) ∧ Q x) (fun i hil => by
      obtain ⟨cs', hc, ht'⟩ := hi i (by omega)
      obtain ⟨x, hx, hq⟩ := hel cs' ⟨n, _, ht'⟩
      exact ⟨x, ⟨cs', hc, hx⟩, hq⟩)
    refine ⟨some a, cap, xs, by simpa [hxl] using hcs, by rw [hxl]; omega, fun hp => ?_, fun i hil => (hxs i (by omega)).2⟩
    have hcell : ∀ i, i < len → ∀ j v, (Flat.cells (it xs i))[j]? = some v → w.cell? ((a.add (i * Flat.sz α)).add j) = some v := fun i hil j v hv => by
      obtain ⟨⟨cs', hc, rfl⟩, _⟩ := hxs i hil
      obtain ⟨_, hcl, hat⟩ := World.cells?_some hc
      have hj : j < P.cellsOf e := by
        have := (List.getElem?_eq_some_iff.1 hv).1
        rw [Flat.len] at this
        omega
      have := hat j hj
      rw [hC] at this
      rw [this]
      exact hv
    have h0 := hcell 0 (by omega) 0 _ (List.getElem?_eq_getElem (by rw [Flat.len]; exact hs))
    obtain ⟨b, o, s⟩ := a
    have hs0 : s = none := by
      have := World.cell?_spot h0
      rw [Nat.zero_mul] at this
      simpa [Addr.add] using this
    subst hs0
    have hadd : ∀ i j : Nat, ((⟨b, o, none⟩ : Addr).add i).add j = ⟨b, o + i + j, none⟩ := fun i j => by
      unfold Addr.add
      by_cases e1 : i = 0 <;> by_cases e2 : j = 0 <;> simp [e1, e2]
    refine ⟨b, o, rfl, ?_, fun i hil j v hv => ?_⟩
    · rw [hadd] at h0
      rcases Nat.lt_or_ge b w.heap.size with hlt | hge
      · exact hlt
      · unfold World.cell? at h0
        rw [Array.getElem?_eq_none (by exact hge)] at h0
        simp at h0
    · rw [← hadd]
      exact hcell i (by omega) j v hv
end
end Go.Proofs.YtnlcdfaojcnkpaaDoor

namespace Go.Proofs.YtnlcdfaojcnkpaaDoor
open Go.ChangeShapes Go.WideShapes Go.ChangeAt Go.RowKit
set_option linter.unusedVariables false

/-- A number's low byte. -/
def lowByte (v : Int) : UInt8 := UInt8.ofNat v.toNat
/-- string([]byte{x}). -/
theorem conv_byte (W : World) (g : Nat) (v : Int) (h0 : 0 ≤ v) (h1 : v ≤ 255) (hc : W.cell? ⟨g, 0, none⟩ = some (.int .u8 v)) :
    (convert 133 9 (.slice (some ⟨g, 0, none⟩) 1 1)).run Tryd.prog W = .ok (.string ⟨#[lowByte v]⟩) W := by
  have := run_convert_bytes_back (P := Tryd.prog) W 133 9 5 ⟨g, 0, none⟩ 1 [UInt8.ofNat v.toNat] Tryd.underlying133 Tryd.underlying5 Tryd.underlying9 (fun j hj => by
    obtain rfl : j = 0 := by simp at hj; omega
    have e : ((UInt8.ofNat v.toNat).toNat : Int) = v := by
      rw [UInt8.toNat_ofNat']
      omega
    show W.cell? ((⟨g, 0, none⟩ : Addr).add 0) = some (.int .u8 ((UInt8.ofNat v.toNat).toNat : Int))
    rw [e]
    exact hc)
  exact this

/-- The digits that are put ahead of out, f rounds at most. -/
def mkF : Nat → Nat → ByteArray → ByteArray
  | 0, _, out => out
  | f + 1, k, out => if k = 0 then out else mkF f (k / 10) (⟨#[lowByte (48 + (k : Int) % 10)]⟩ ++ out)
theorem mkF_zero (f : Nat) (out : ByteArray) : mkF f 0 out = out := by
  cases f <;> rfl
theorem mkF_step (f k : Nat) (out : ByteArray) (h : 0 < k) : mkF (f + 1) k out = mkF f (k / 10) (⟨#[lowByte (48 + (k : Int) % 10)]⟩ ++ out) := by
  simp only [mkF, if_neg (show ¬ k = 0 by omega)]
def mkText (k : Nat) : ByteArray := ⟨#[109]⟩ ++ mkF k k ⟨#[]⟩

theorem markText_any (k : Nat) (w : World) (h0 : 0 < k) (h1 : k ≤ 10000000000000000) :
    Calls Tryd.prog 75 #[.int .i64 k] w fun e w' => e = .returned (.string (mkText k)) ∧ Below w.heap.size w w' := by
  have hc := fun (W : World) (g : Nat) (m : Nat) => conv_byte W g (48 + (m : Int) % 10) (by omega) (by omega)
  go_enter Tryd.func75, Tryd.ntmps75
  go_wp2
  go_loopw [0, 3] (fun q s wr => ∃ (m f : Nat) (out : ByteArray), m ≤ f ∧ q = .int .i64 m ∧ s = .string out ∧ out.size + m ≤ k ∧ Hid (mkF f m out = mkF k k ⟨#[]⟩) ∧ Below w.heap.size w wr) (fun q _ _ => (intOf q).toNat)
  case atStart => exact ⟨k, k, ⟨#[]⟩, Nat.le_refl _, rfl, rfl, Nat.le_of_eq (Nat.zero_add k), Lib.hid rfl, Below.refl _ _⟩
  case round =>
    obtain ⟨m, f, out, hf, rfl, rfl, hs, HE, hb⟩ := hrel
    have HB := Lib.hid hb
    have hsz := hb.size
    clear hb
    by_cases hm : 0 < m
    · have hcm := fun (W : World) (g : Nat) => hc W g m
      have e2 : ((m : Int)).tmod 10 = (m : Int) % 10 := Int.tmod_eq_emod_of_nonneg (by omega)
      have e3 : IntKind.i64.wrap (48 + (m : Int) % 10) = 48 + (m : Int) % 10 := IntWalk.i64_in _ (by omega)
      have e4 : IntKind.u8.wrap (48 + (m : Int) % 10) = 48 + (m : Int) % 10 := IntWalk.u8_in _ (by omega)
      go_wp2
      go_roundw
      case rel =>
        obtain ⟨f, rfl⟩ : ∃ f', f = f' + 1 := ⟨f - 1, by omega⟩
        exact ⟨m / 10, f, _, by omega, by go_num, rfl, by rw [ByteArray.size_append]; show 1 + out.size + m / 10 ≤ k; omega, Lib.hid (by rw [← mkF_step f m out hm]; exact HE.out), HB.out.alloc hsz _⟩
      case measure => simp [intOf]; omega
    · obtain rfl : m = 0 := by omega
      have HX : Hid (out = mkF k k ⟨#[]⟩) := Lib.hid (by rw [← HE.out, mkF_zero])
      go_wp2
      go_ret
      exact ⟨by rw [HX.out]; rfl, HB.out⟩

theorem markText_i (m : Int) (k : Nat) (w : World) (hm : m = (k : Int)) (h0 : 0 < k) (h1 : k ≤ 10000000000000000) :
    Calls Tryd.prog 75 #[.int .i64 m] w fun e w' => e = .returned (.string (mkText k)) ∧ Below w.heap.size w w' := hm ▸ markText_any k w h0 h1
end Go.Proofs.YtnlcdfaojcnkpaaDoor

namespace Go.Proofs.YtnlcdfaojcnkpaaDoor
open Go.ChangeShapes Go.WideShapes Go.ChangeAt Go.RowKit
set_option linter.unusedVariables false

def intCells (x : Int) : List Value := [.int .i64 x]
instance : Flat Int where
  sz := 1
  cells := intCells
  len := fun _ => rfl
structure IntOwn (w : World) (b o : Nat) (x : Int) : Prop where
  c0 : w.cell? ⟨b, o, none⟩ = some (.int .i64 x)
  f0 : w.frozen? ⟨b, o, none⟩ = false
theorem Lst.int {w : World} {B : Nat} {A : Option Addr} {xs : List Int} (h : Lst w B A xs) (hp : 0 < xs.length) : ∃ b o, A = some ⟨b, o, none⟩ ∧ b < B ∧ ∀ i, i < xs.length → w.cell? ⟨b, o + i, none⟩ = some (.int .i64 (it xs i)) := by
  obtain ⟨b, o, h1, h2, h3⟩ := h hp
  refine ⟨b, o, h1, h2, fun i hi => ?_⟩
  have := h3 i hi 0 _ rfl
  rwa [show o + i * Flat.sz Int + 0 = o + i by show o + i * 1 + 0 = _; omega] at this
theorem Lst.of_int {w : World} {B : Nat} {A : Option Addr} {xs : List Int} (h : 0 < xs.length → ∃ b o, A = some ⟨b, o, none⟩ ∧ b < B ∧ ∀ i, i < xs.length → w.cell? ⟨b, o + i, none⟩ = some (.int .i64 (it xs i))) : Lst w B A xs := fun hp => by
  obtain ⟨b, o, h1, h2, h3⟩ := h hp
  refine ⟨b, o, h1, h2, fun i hi j v hv => ?_⟩
  match j, hv with
  | 0, hv =>
    obtain rfl : Value.int .i64 (it xs i) = v := by injection hv
    rw [show o + i * Flat.sz Int + 0 = o + i by show o + i * 1 + 0 = _; omega]
    exact h3 i hi
theorem OwnAt.int {w : World} {g o : Nat} {xs : List Int} (h : OwnAt w g o xs) (i : Nat) (hi : i < xs.length) : IntOwn w g (o + i) (it xs i) := by
  have h1 := h.cell i hi 0 _ rfl
  have h2 := h.free i 0 hi (by decide)
  rw [show o + i * Flat.sz Int + 0 = o + i by show o + i * 1 + 0 = _; omega] at h1 h2
  exact ⟨h1, h2⟩
theorem OwnAt.int0 {w : World} {g : Nat} {xs : List Int} (h : OwnAt w g 0 xs) (i : Nat) (hi : i < xs.length) : IntOwn w g i (it xs i) := by
  have := h.int i hi
  rwa [Nat.zero_add] at this
theorem OwnAt.putInt {w : World} {g o : Nat} {xs : List Int} (h : OwnAt w g o xs) (i : Nat) (x : Int) (hi : i < xs.length) : OwnAt (w.setCell ⟨g, o + i, none⟩ (.int .i64 x)) g o (xs.set i x) := by
  have := h.put i x hi
  rw [show putAt g (o + i * Flat.sz Int) w 0 (Flat.cells x) = w.setCell ⟨g, o + i, none⟩ (.int .i64 x) by
    show w.setCell ⟨g, o + i * 1 + 0, none⟩ (.int .i64 x) = _
    rw [Nat.mul_one, Nat.add_zero]] at this
  exact this
theorem OwnAt.putInt0 {w : World} {g : Nat} {xs : List Int} (h : OwnAt w g 0 xs) (i : Nat) (x : Int) (hi : i < xs.length) : OwnAt (w.setCell ⟨g, i, none⟩ (.int .i64 x)) g 0 (xs.set i x) := by
  have := h.putInt i x hi
  rwa [Nat.zero_add] at this
theorem Tryd.infoInt : (Tryd.prog.info? 3).map (fun i => (i.zero, i.size, i.bytes)) = some (some (.int .i64 0), 1, 8) := by kernel_rfl

theorem szIntS_any (A : Option Addr) (c : Nat) (xs : List Int) (left : Int) (w : World) (hl : xs.length ≤ 9223372036854775807) (h0 : 0 ≤ left) (h1 : left ≤ 1048576) :
    Calls Tryd.prog 31 #[.slice A xs.length c, .int .i64 left] w fun e w' => (∃ q : Int, e = .returned (.int .i64 q) ∧ (q < 0 ∨ 0 ≤ q ∧ q ≤ left ∧ xs.length ≤ 1048576)) ∧ w' = w := by
  go_enter Tryd.func31, Tryd.ntmps31
  by_cases h : left - (xs.length : Int) < 0
  · go_wp2
    go_ret
    exact ⟨⟨_, rfl, by omega⟩, rfl⟩
  · go_wp2
    go_ret
    exact ⟨⟨_, rfl, by omega⟩, rfl⟩

theorem toIntS_any (A : Option Addr) (c : Nat) (xs : List Int) (w : World) (hr : Lst w w.heap.size A xs) (hl : xs.length ≤ 1048576) :
    Calls Tryd.prog 35 #[.slice A xs.length c] w fun e w' => e = .returned (.slice (some ⟨w.heap.size, 0, none⟩) xs.length xs.length) ∧ OwnAt w' w.heap.size 0 xs ∧ w.heap.size < w'.heap.size ∧ Below w.heap.size w w' := by
  have HR := Lib.hid hr
  clear hr
  obtain ⟨i0, hi, hz0, hz1, hz2⟩ := info_parts Tryd.infoInt
  have HZ := Lib.hid (made_flat (α := Int) #[.int .i64 0] 0 xs.length rfl (by decide))
  go_enter Tryd.func35, Tryd.ntmps35
  go_wp2_with (at_make; refine wpList_make_full _ rfl (.tmp 6) (.tmp 6) 23 rfl w.heap.size 3 i0 (.int .i64 0) 1 Tryd.underlying23 hi hz0 hz1 .i64 .i64 _ _ xs.length rfl rfl rfl rfl (by rw [hz2]; omega) (by unfold maxLen; omega) (Nat.le_refl _) ?_; intro w1 hown hgrow)
  have HW := Lib.hid (show OwnAt w1 w.heap.size 0 (List.replicate xs.length (0 : Int)) from own_of_row (α := Int) (cap := xs.length) (e := 3) (base := w.heap.size) _ (by rw [← HZ.out, List.length_replicate]; exact hown))
  have hb1 : Below w.heap.size w w1 := (Below.refl _ _).grown hgrow (Nat.le_refl _) (fun k e => by cases e)
  have hs1 := (hown.lt w.heap.size rfl).2
  have HB1 := Lib.hid hb1
  clear hown hgrow hb1
  go_wp2
  go_loopw [4] (fun i wr => ∃ (k : Nat) (ys : List Int), k ≤ xs.length ∧ i = .int .i64 k ∧ ys.length = xs.length ∧ Hid (∀ i, i < k → it ys i = it xs i) ∧ Hid (OwnAt wr w.heap.size 0 ys) ∧ w.heap.size < wr.heap.size ∧ Below w.heap.size w wr) (fun i _ => xs.length - (intOf i).toNat)
  case atStart => exact ⟨0, _, Nat.zero_le _, rfl, by rw [List.length_replicate], Lib.hid (fun i hi => absurd hi (by omega)), HW, hs1, HB1.out⟩
  case round =>
    obtain ⟨k, ys, hk, rfl, hy, HI, HO, hs, hb⟩ := hrel
    by_cases hlt : k < xs.length
    · obtain ⟨b, o, rfl, hbl, hc⟩ := HR.out.int (by omega)
      have c0 := (hb.cell (p := ⟨b, o + k, none⟩) hbl).trans (hc k hlt)
      obtain ⟨d0, f0⟩ := HO.out.int0 k (by omega)
      have HP := Lib.hid (HO.out.putInt0 k (it xs k) (by omega))
      have HB := Lib.hid hb
      clear hc hb
      go_wp2
      go_roundw
      case rel => exact ⟨k + 1, _, by omega, by go_num, by rw [List.length_set]; exact hy, Lib.hid (fun i hi => by
        rw [it_set _ _ _ _ (by omega)]
        by_cases e : i = k
        · rw [if_pos e, e]
        · rw [if_neg e]; exact HI.out i (by omega)), HP, by simpa [World.setCell] using hs, HB.out.setCell (Nat.le_refl _) _⟩
      case measure => simp [intOf]; omega
    · obtain rfl : k = xs.length := by omega
      obtain rfl : ys = xs := it_ext _ _ hy (fun i hi => HI.out i (by omega))
      go_wp2
      go_ret
      exact ⟨rfl, HO.out, hs, hb⟩

theorem eqIntS_yes (A A' : Option Addr) (c c' : Nat) (xs : List Int) (w : World) (hr : Lst w w.heap.size A xs) (hr' : Lst w w.heap.size A' xs) (hl : xs.length ≤ 1048576) :
    Calls Tryd.prog 20 #[.slice A xs.length c, .slice A' xs.length c'] w fun e w' => e = .returned (.bool true) ∧ ∃ n, w' = w.drewN n := by
  have HR := Lib.hid hr
  have HR' := Lib.hid hr'
  clear hr hr'
  go_enter Tryd.func20, Tryd.ntmps20
  go_wp2
  go_loopw [5] (fun i wr => ∃ k n : Nat, k ≤ xs.length ∧ i = .int .i64 k ∧ wr = w.drewN n) (fun i _ => xs.length - (intOf i).toNat)
  case atStart => exact ⟨0, 0, Nat.zero_le _, rfl, rfl⟩
  case round =>
    obtain ⟨k, n, hk, rfl, rfl⟩ := hrel
    by_cases hlt : k < xs.length
    · obtain ⟨b, o, rfl, hbl, hc⟩ := HR.out.int (by omega)
      obtain ⟨b', o', rfl, hbl', hc'⟩ := HR'.out.int (by omega)
      have hck := hc k hlt
      have hck' := hc' k hlt
      have hi1 : (0 : Int) ≤ (k : Int) := by omega
      have hi2 : (k : Int) < (xs.length : Int) := by omega
      clear hc hc'
      go_wp2
      go_quiet (fail)
      go_wp2
      go_roundw
      case rel => exact ⟨k + 1, _, by omega, by go_num, rfl⟩
      case measure => simp [intOf]; omega
    · go_wp2
      go_ret
      exact ⟨rfl, _, rfl⟩

/-- The marks from k on. -/
def seqF (k : Int) (n : Nat) : List Int := (List.range n).map fun (i : Nat) => k + (i : Int)
theorem seqF_len (k : Int) (n : Nat) : (seqF k n).length = n := by simp [seqF]
theorem seqF_it (k : Int) (n i : Nat) (h : i < n) : it (seqF k n) i = k + (i : Int) := by
  unfold it seqF
  simp [h]

theorem markIntS_any (S : Nat → Prop) (A : Option Addr) (c : Nat) (xs : List Int) (k : Int) (w : World) (hr : Owned S w A xs) (hl : xs.length ≤ 1048576) (hk : 0 ≤ k) (hk2 : k ≤ 10000000000000000) :
    Calls Tryd.prog 23 #[.slice A xs.length c, .int .i64 k] w fun e w' => e = .returned (.int .i64 (k + (xs.length : Int))) ∧ Owned S w' A (seqF k xs.length) ∧ Only S w w' := by
  rcases Nat.eq_zero_or_pos xs.length with h0 | h0
  · obtain rfl : xs = [] := List.eq_nil_of_length_eq_zero h0
    clear hr h0
    go_enter Tryd.func23, Tryd.ntmps23
    go_wp2
    go_loop [1, 5] (fun q i => i = .int .i64 0 ∧ q = .int .i64 k) (fun _ _ => 0)
    case atStart => exact ⟨rfl, rfl⟩
    case round =>
      obtain ⟨rfl, rfl⟩ := hrel
      go_wp2
      go_ret
      exact ⟨by simp, Owned.nil _ _ _, Only.refl _ _⟩
  · obtain ⟨g, o, rfl, hg1, hg2, hc⟩ := hr h0
    have HG := Lib.hid hg1
    have HC := Lib.hid hc
    clear hr hc hg1
    go_enter Tryd.func23, Tryd.ntmps23
    go_wp2
    go_loopw [1, 5] (fun q i wr => ∃ (j : Nat) (ys : List Int), j ≤ xs.length ∧ i = .int .i64 j ∧ q = .int .i64 (k + (j : Int)) ∧ ys.length = xs.length ∧ Hid (∀ i : Nat, i < j → it ys i = k + (i : Int)) ∧ Hid (OwnAt wr g o ys) ∧ Only S w wr) (fun _ i _ => xs.length - (intOf i).toNat)
    case atStart => exact ⟨0, xs, Nat.zero_le _, rfl, by simp, rfl, Lib.hid (fun i hi => absurd hi (by omega)), HC, Only.refl _ _⟩
    case round =>
      obtain ⟨j, ys, hj, rfl, rfl, hy, HI, HO, ho⟩ := hrel
      have HN := Lib.hid ho
      clear ho
      by_cases hlt : j < xs.length
      · obtain ⟨d0, f0⟩ := HO.out.int j (by omega)
        have HP := Lib.hid (HO.out.putInt j (k + (j : Int)) (by omega))
        go_wp2
        go_roundw
        case rel => exact ⟨j + 1, _, by omega, by go_num, by go_num, by rw [List.length_set]; exact hy, Lib.hid (fun i hi => by
          rw [it_set _ _ _ _ (by omega)]
          by_cases e : i = j
          · rw [if_pos e, e]
          · rw [if_neg e]; exact HI.out i (by omega)), HP, HN.out.setCell HG.out _⟩
        case measure => simp [intOf]; omega
      · obtain rfl : j = xs.length := by omega
        obtain rfl : ys = seqF k xs.length := it_ext _ _ (by rw [seqF_len]; exact hy) (fun i hi => by rw [seqF_it _ _ _ (by omega)]; exact HI.out i (by omega))
        go_wp2
        go_ret
        exact ⟨rfl, fun _ => ⟨g, o, rfl, HG.out, Nat.lt_of_lt_of_le hg2 HN.out.size, HO.out⟩, HN.out⟩

theorem heldIntS_any (A : Option Addr) (c n : Nat) (k : Int) (w : World) (B : Nat) (hr : Lst w B A (seqF k n)) (hl : n ≤ 1048576) (hk : 0 ≤ k) (hk2 : k ≤ 10000000000000000) :
    Calls Tryd.prog 24 #[.slice A n c, .int .i64 k] w fun e w' => e = .returned (.int .i64 (k + (n : Int))) ∧ w' = w := by
  have HR := Lib.hid hr
  clear hr
  go_enter Tryd.func24, Tryd.ntmps24
  go_wp2
  go_loop [1, 5] (fun q i => ∃ j : Nat, j ≤ n ∧ i = .int .i64 j ∧ q = .int .i64 (k + (j : Int))) (fun _ i => n - (intOf i).toNat)
  case atStart => exact ⟨0, Nat.zero_le _, rfl, by simp⟩
  case round =>
    obtain ⟨j, hj, rfl, rfl⟩ := hrel
    by_cases hlt : j < n
    · obtain ⟨b, o, rfl, hb, hc⟩ := HR.out.int (by rw [seqF_len]; omega)
      have hck := hc j (by rw [seqF_len]; omega)
      rw [seqF_it _ _ _ hlt] at hck
      clear hc
      go_wp2
      go_round
      case rel => exact ⟨j + 1, by omega, by go_num, by go_num⟩
      case measure => simp [intOf]; omega
    · obtain rfl : j = n := by omega
      go_wp2
      go_ret
      exact ⟨rfl, rfl⟩
end Go.Proofs.YtnlcdfaojcnkpaaDoor

namespace Go.Proofs.YtnlcdfaojcnkpaaDoor
open Go.ChangeShapes Go.WideShapes Go.ChangeAt Go.RowKit
set_option linter.unusedVariables false

def strCells (x : ByteArray) : List Value := [.string x]
instance : Flat ByteArray where
  default := ⟨#[]⟩
  sz := 1
  cells := strCells
  len := fun _ => rfl
structure StrOwn (w : World) (b o : Nat) (x : ByteArray) : Prop where
  c0 : w.cell? ⟨b, o, none⟩ = some (.string x)
  f0 : w.frozen? ⟨b, o, none⟩ = false
theorem Lst.str {w : World} {B : Nat} {A : Option Addr} {xs : List ByteArray} (h : Lst w B A xs) (hp : 0 < xs.length) : ∃ b o, A = some ⟨b, o, none⟩ ∧ b < B ∧ ∀ i, i < xs.length → w.cell? ⟨b, o + i, none⟩ = some (.string (it xs i)) := by
  obtain ⟨b, o, h1, h2, h3⟩ := h hp
  refine ⟨b, o, h1, h2, fun i hi => ?_⟩
  have := h3 i hi 0 _ rfl
  rwa [show o + i * Flat.sz ByteArray + 0 = o + i by show o + i * 1 + 0 = _; omega] at this
theorem Lst.of_str {w : World} {B : Nat} {A : Option Addr} {xs : List ByteArray} (h : 0 < xs.length → ∃ b o, A = some ⟨b, o, none⟩ ∧ b < B ∧ ∀ i, i < xs.length → w.cell? ⟨b, o + i, none⟩ = some (.string (it xs i))) : Lst w B A xs := fun hp => by
  obtain ⟨b, o, h1, h2, h3⟩ := h hp
  refine ⟨b, o, h1, h2, fun i hi j v hv => ?_⟩
  match j, hv with
  | 0, hv =>
    obtain rfl : Value.string (it xs i) = v := by injection hv
    rw [show o + i * Flat.sz ByteArray + 0 = o + i by show o + i * 1 + 0 = _; omega]
    exact h3 i hi
theorem OwnAt.str {w : World} {g o : Nat} {xs : List ByteArray} (h : OwnAt w g o xs) (i : Nat) (hi : i < xs.length) : StrOwn w g (o + i) (it xs i) := by
  have h1 := h.cell i hi 0 _ rfl
  have h2 := h.free i 0 hi (by decide)
  rw [show o + i * Flat.sz ByteArray + 0 = o + i by show o + i * 1 + 0 = _; omega] at h1 h2
  exact ⟨h1, h2⟩
theorem OwnAt.str0 {w : World} {g : Nat} {xs : List ByteArray} (h : OwnAt w g 0 xs) (i : Nat) (hi : i < xs.length) : StrOwn w g i (it xs i) := by
  have := h.str i hi
  rwa [Nat.zero_add] at this
theorem OwnAt.putStr {w : World} {g o : Nat} {xs : List ByteArray} (h : OwnAt w g o xs) (i : Nat) (x : ByteArray) (hi : i < xs.length) : OwnAt (w.setCell ⟨g, o + i, none⟩ (.string x)) g o (xs.set i x) := by
  have := h.put i x hi
  rw [show putAt g (o + i * Flat.sz ByteArray) w 0 (Flat.cells x) = w.setCell ⟨g, o + i, none⟩ (.string x) by
    show w.setCell ⟨g, o + i * 1 + 0, none⟩ (.string x) = _
    rw [Nat.mul_one, Nat.add_zero]] at this
  exact this
theorem OwnAt.putStr0 {w : World} {g : Nat} {xs : List ByteArray} (h : OwnAt w g 0 xs) (i : Nat) (x : ByteArray) (hi : i < xs.length) : OwnAt (w.setCell ⟨g, i, none⟩ (.string x)) g 0 (xs.set i x) := by
  have := h.putStr i x hi
  rwa [Nat.zero_add] at this
theorem Tryd.infoStr : (Tryd.prog.info? 9).map (fun i => (i.zero, i.size, i.bytes)) = some (some (.string ⟨#[]⟩), 1, 16) := by kernel_rfl

/-- At most a million strings of at most a million bytes. -/
def SFits (xs : List ByteArray) : Prop := xs.length ≤ 1048576 ∧ ∀ i, i < xs.length → (it xs i).size ≤ 1048576
/-- What the memory can hold. -/
def SLen (xs : List ByteArray) : Prop := xs.length ≤ 9223372036854775807 ∧ ∀ i, i < xs.length → (it xs i).size ≤ 9223372036854775807

theorem szStringS_any (A : Option Addr) (c : Nat) (xs : List ByteArray) (left : Int) (w : World) (hr : Lst w w.heap.size A xs) (hl : SLen xs) (h0 : 0 ≤ left) (h1 : left ≤ 1048576) :
    Calls Tryd.prog 76 #[.slice A xs.length c, .int .i64 left] w fun e w' => (∃ q : Int, e = .returned (.int .i64 q) ∧ (q < 0 ∨ 0 ≤ q ∧ q ≤ left ∧ Hid (SFits xs))) ∧ w' = w := by
  have HR := Lib.hid hr
  have HN := Lib.hid hl.2
  have hl' := hl.1
  clear hr hl
  go_enter Tryd.func76, Tryd.ntmps76
  by_cases h : left - (xs.length : Int) < 0
  · go_wp2
    go_ret
    exact ⟨⟨_, rfl, by omega⟩, rfl⟩
  · go_wp2
    go_loop [1, 5] (fun q i => ∃ (k : Nat) (p : Int), k ≤ xs.length ∧ i = .int .i64 k ∧ q = .int .i64 p ∧ 0 ≤ p ∧ p ≤ left ∧ Hid (∀ i, i < k → (it xs i).size ≤ 1048576)) (fun _ i => xs.length - (intOf i).toNat)
    case atStart => exact ⟨0, left - (xs.length : Int), by omega, rfl, rfl, by omega, by omega, Lib.hid (fun i hi => absurd hi (by omega))⟩
    case round =>
      obtain ⟨k, p, hk, rfl, rfl, hp0, hp1, HA⟩ := hrel
      by_cases hlt : k < xs.length
      · obtain ⟨b, o, rfl, hbl, hc⟩ := HR.out.str (by omega)
        have c0 := hc k hlt
        have hs := HN.out k hlt
        clear hc
        by_cases hq : p - ((it xs k).size : Int) < 0
        · go_wp2
          go_ret
          exact ⟨⟨_, rfl, by omega⟩, rfl⟩
        · go_wp2
          go_round
          case rel => exact ⟨k + 1, p - ((it xs k).size : Int), by omega, by go_num, rfl, by omega, by omega, Lib.hid (fun i hi => by
            rcases Nat.lt_or_ge i k with h | h
            · exact HA.out i h
            · obtain rfl : i = k := by omega
              omega)⟩
          case measure => simp [intOf]; omega
      · obtain rfl : k = xs.length := by omega
        go_wp2
        go_ret
        exact ⟨⟨_, rfl, .inr ⟨hp0, hp1, Lib.hid ⟨by omega, HA.out⟩⟩⟩, rfl⟩

theorem toStringS_any (A : Option Addr) (c : Nat) (xs : List ByteArray) (w : World) (hr : Lst w w.heap.size A xs) (hl : xs.length ≤ 1048576) :
    Calls Tryd.prog 81 #[.slice A xs.length c] w fun e w' => e = .returned (.slice (some ⟨w.heap.size, 0, none⟩) xs.length xs.length) ∧ OwnAt w' w.heap.size 0 xs ∧ w.heap.size < w'.heap.size ∧ Below w.heap.size w w' := by
  have HR := Lib.hid hr
  clear hr
  obtain ⟨i0, hi, hz0, hz1, hz2⟩ := info_parts Tryd.infoStr
  have HZ := Lib.hid (made_flat (α := ByteArray) #[.string ⟨#[]⟩] default xs.length rfl (by decide))
  go_enter Tryd.func81, Tryd.ntmps81
  go_wp2_with (at_make; refine wpList_make_full _ rfl (.tmp 6) (.tmp 6) 66 rfl w.heap.size 9 i0 (.string ⟨#[]⟩) 1 Tryd.underlying66 hi hz0 hz1 .i64 .i64 _ _ xs.length rfl rfl rfl rfl (by rw [hz2]; omega) (by unfold maxLen; omega) (Nat.le_refl _) ?_; intro w1 hown hgrow)
  have HW := Lib.hid (show OwnAt w1 w.heap.size 0 (List.replicate xs.length (default : ByteArray)) from own_of_row (α := ByteArray) (cap := xs.length) (e := 9) (base := w.heap.size) _ (by rw [← HZ.out, List.length_replicate]; exact hown))
  have hb1 : Below w.heap.size w w1 := (Below.refl _ _).grown hgrow (Nat.le_refl _) (fun k e => by cases e)
  have hs1 := (hown.lt w.heap.size rfl).2
  have HB1 := Lib.hid hb1
  clear hown hgrow hb1
  go_wp2
  go_loopw [4] (fun i wr => ∃ (k : Nat) (ys : List ByteArray), k ≤ xs.length ∧ i = .int .i64 k ∧ ys.length = xs.length ∧ Hid (∀ i, i < k → it ys i = it xs i) ∧ Hid (OwnAt wr w.heap.size 0 ys) ∧ w.heap.size < wr.heap.size ∧ Below w.heap.size w wr) (fun i _ => xs.length - (intOf i).toNat)
  case atStart => exact ⟨0, _, Nat.zero_le _, rfl, by rw [List.length_replicate], Lib.hid (fun i hi => absurd hi (by omega)), HW, hs1, HB1.out⟩
  case round =>
    obtain ⟨k, ys, hk, rfl, hy, HI, HO, hs, hb⟩ := hrel
    by_cases hlt : k < xs.length
    · obtain ⟨b, o, rfl, hbl, hc⟩ := HR.out.str (by omega)
      have c0 := (hb.cell (p := ⟨b, o + k, none⟩) hbl).trans (hc k hlt)
      obtain ⟨d0, f0⟩ := HO.out.str0 k (by omega)
      have HP := Lib.hid (HO.out.putStr0 k (it xs k) (by omega))
      have HB := Lib.hid hb
      clear hc hb
      go_wp2
      go_roundw
      case rel => exact ⟨k + 1, _, by omega, by go_num, by rw [List.length_set]; exact hy, Lib.hid (fun i hi => by
        rw [it_set _ _ _ _ (by omega)]
        by_cases e : i = k
        · rw [if_pos e, e]
        · rw [if_neg e]; exact HI.out i (by omega)), HP, by simpa [World.setCell] using hs, HB.out.setCell (Nat.le_refl _) _⟩
      case measure => simp [intOf]; omega
    · obtain rfl : k = xs.length := by omega
      obtain rfl : ys = xs := it_ext _ _ hy (fun i hi => HI.out i (by omega))
      go_wp2
      go_ret
      exact ⟨rfl, HO.out, hs, hb⟩

theorem eqStringS_yes (A A' : Option Addr) (c c' : Nat) (xs : List ByteArray) (w : World) (hr : Lst w w.heap.size A xs) (hr' : Lst w w.heap.size A' xs) (hl : xs.length ≤ 1048576) :
    Calls Tryd.prog 87 #[.slice A xs.length c, .slice A' xs.length c'] w fun e w' => e = .returned (.bool true) ∧ ∃ n, w' = w.drewN n := by
  have HR := Lib.hid hr
  have HR' := Lib.hid hr'
  clear hr hr'
  go_enter Tryd.func87, Tryd.ntmps87
  go_wp2
  go_loopw [5] (fun i wr => ∃ k n : Nat, k ≤ xs.length ∧ i = .int .i64 k ∧ wr = w.drewN n) (fun i _ => xs.length - (intOf i).toNat)
  case atStart => exact ⟨0, 0, Nat.zero_le _, rfl, rfl⟩
  case round =>
    obtain ⟨k, n, hk, rfl, rfl⟩ := hrel
    by_cases hlt : k < xs.length
    · obtain ⟨b, o, rfl, hbl, hc⟩ := HR.out.str (by omega)
      obtain ⟨b', o', rfl, hbl', hc'⟩ := HR'.out.str (by omega)
      have hck := hc k hlt
      have hck' := hc' k hlt
      have hi1 : (0 : Int) ≤ (k : Int) := by omega
      have hi2 : (k : Int) < (xs.length : Int) := by omega
      clear hc hc'
      go_wp2
      go_quiet (fail)
      go_wp2
      go_roundw
      case rel => exact ⟨k + 1, _, by omega, by go_num, rfl⟩
      case measure => simp [intOf]; omega
    · go_wp2
      go_ret
      exact ⟨rfl, _, rfl⟩

/-- The texts of the marks from k on. -/
def seqS (k n : Nat) : List ByteArray := (List.range n).map fun i => mkText (k + i)
theorem seqS_len (k n : Nat) : (seqS k n).length = n := by simp [seqS]
theorem seqS_it (k n i : Nat) (h : i < n) : it (seqS k n) i = mkText (k + i) := by
  unfold it seqS
  simp [h]

theorem markStringS_any (S : Nat → Prop) (A : Option Addr) (c : Nat) (xs : List ByteArray) (k : Nat) (w : World) (hr : Owned S w A xs) (hl : xs.length ≤ 1048576) (hk : 0 < k) (hk2 : k ≤ 1000000000000000) :
    Calls Tryd.prog 54 #[.slice A xs.length c, .int .i64 k] w fun e w' => e = .returned (.int .i64 ((k + xs.length : Nat) : Int)) ∧ Owned S w' A (seqS k xs.length) ∧ Only S w w' := by
  rcases Nat.eq_zero_or_pos xs.length with h0 | h0
  · obtain rfl : xs = [] := List.eq_nil_of_length_eq_zero h0
    clear hr h0
    go_enter Tryd.func54, Tryd.ntmps54
    go_wp2
    go_loop [1, 5] (fun q i => i = .int .i64 0 ∧ q = .int .i64 k) (fun _ _ => 0)
    case atStart => exact ⟨rfl, rfl⟩
    case round =>
      obtain ⟨rfl, rfl⟩ := hrel
      go_wp2
      go_ret
      exact ⟨by simp, Owned.nil _ _ _, Only.refl _ _⟩
  · obtain ⟨g, o, rfl, hg1, hg2, hc⟩ := hr h0
    have HG := Lib.hid hg1
    have HC := Lib.hid hc
    clear hr hc hg1
    go_enter Tryd.func54, Tryd.ntmps54
    go_wp2
    go_loopw [1, 5] (fun q i wr => ∃ (j : Nat) (ys : List ByteArray), j ≤ xs.length ∧ i = .int .i64 j ∧ q = .int .i64 ((k + j : Nat) : Int) ∧ ys.length = xs.length ∧ Hid (∀ i : Nat, i < j → it ys i = mkText (k + i)) ∧ Hid (OwnAt wr g o ys) ∧ g < wr.heap.size ∧ Only S w wr) (fun _ i _ => xs.length - (intOf i).toNat)
    case atStart => exact ⟨0, xs, Nat.zero_le _, rfl, by simp, rfl, Lib.hid (fun i hi => absurd hi (by omega)), HC, hg2, Only.refl _ _⟩
    case round =>
      obtain ⟨j, ys, hj, rfl, rfl, hy, HI, HO, hgs, ho⟩ := hrel
      have HN := Lib.hid ho
      clear ho
      by_cases hlt : j < xs.length
      · go_wp2_with (go_at_call 75; refine (markText_any (k + j) _ (by omega) (by omega)).mono ?_; rintro e w2 ⟨rfl, hb2⟩; have HO2 := Lib.hid (HO.out.block (hb2.block _ hgs)); have HN2 := Lib.hid (HN.out.trans (Only.of_below hb2 (Nat.le_refl _))); have hs2 := Nat.lt_of_lt_of_le hgs hb2.size; obtain ⟨d0, f0⟩ := HO2.out.str j (by omega); clear hb2)
        have HP := Lib.hid (HO2.out.putStr j (mkText (k + j)) (by omega))
        go_roundw
        case rel => exact ⟨j + 1, _, by omega, by go_num, by go_num, by rw [List.length_set]; exact hy, Lib.hid (fun i hi => by
          rw [it_set _ _ _ _ (by omega)]
          by_cases e : i = j
          · rw [if_pos e, e]
          · rw [if_neg e]; exact HI.out i (by omega)), HP, by simpa [World.setCell] using hs2, HN2.out.setCell HG.out _⟩
        case measure => simp [intOf]; omega
      · obtain rfl : j = xs.length := by omega
        obtain rfl : ys = seqS k xs.length := it_ext _ _ (by rw [seqS_len]; exact hy) (fun i hi => by rw [seqS_it _ _ _ (by omega)]; exact HI.out i (by omega))
        go_wp2
        go_ret
        exact ⟨rfl, fun _ => ⟨g, o, rfl, HG.out, Nat.lt_of_lt_of_le hg2 HN.out.size, HO.out⟩, HN.out⟩

end Go.Proofs.YtnlcdfaojcnkpaaDoor
