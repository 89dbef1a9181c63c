/- Lists of lists of ints by what they hold; valid marks, in plain words. -/
import Derived.Test.YtfeffkjmjkddnaaDoorMrA
import Derived.Test.YtfeffkjmjkddnaaDoorNam
namespace Go.Proofs.YtfeffkjmjkddnaaDoor
open Go.ChangeShapes Go.WideShapes Go.ChangeAt Go.RowKit
set_option linter.unusedVariables false

theorem none_yet {Q : Nat → Prop} : ∀ i, i < 0 → Q i := fun i hi => absurd hi (Nat.not_lt_zero i)
theorem one_more {Q : Nat → Prop} {k : Nat} (h : ∀ i, i < k → Q i) (hk : Q k) : ∀ i, i < k + 1 → Q i := fun i hi => by
  rcases Nat.lt_or_ge i k with g | g
  · exact h i g
  · obtain rfl : i = k := by omega
    exact hk
/-- What a list of lists holds. -/
def ctt (q : Rw (Rw Int)) : List (List Int) := q.xs.map (·.xs)
theorem ctt_len (q : Rw (Rw Int)) : (ctt q).length = q.xs.length := by simp [ctt]
theorem ctt_it (q : Rw (Rw Int)) (i : Nat) : it (ctt q) i = (it q.xs i).xs := by
  unfold it ctt
  rw [List.getD_eq_getElem?_getD, List.getD_eq_getElem?_getD, List.getElem?_map]
  cases q.xs[i]? <;> rfl
theorem ctt_eqv {q r : Rw (Rw Int)} (h : ctt r = ctt q) : Nst.Eqv q r := by
  have hl : r.xs.length = q.xs.length := by rw [← ctt_len, h, ctt_len]
  refine ⟨hl, fun i hi => ?_⟩
  show (it r.xs i).xs = (it q.xs i).xs
  rw [← ctt_it, ← ctt_it, h]
theorem ctt_of {q r : Rw (Rw Int)} (h : Nst.Eqv q r) : ctt r = ctt q := by
  have h' : NEqv q.xs r.xs := h
  refine it_ext _ _ (by rw [ctt_len, ctt_len]; exact h'.len) (fun i hi => ?_)
  rw [ctt_len] at hi
  rw [ctt_it, ctt_it]
  exact h'.each i (by have := h'.len; omega)
theorem MrSame.cg {x y : Mr} (h : MrSame x y) : ctt y.G = ctt x.G := ctt_of h.g
theorem MrSame.cc {x y : Mr} (h : MrSame x y) : ctt y.C = ctt x.C := ctt_of h.c
/-- A grade; a mark of a component. -/
def GdOk (n : Int) : Prop := -5 ≤ n ∧ n ≤ 5
structure CpOk (n : Int) : Prop where
  lo : 0 ≤ n
  hi : n ≤ 1000
  st : n.tmod 25 = 0
/-- A list with something for each of J judges. -/
structure RowV (Q : Int → Prop) (J : Nat) (l : List Int) : Prop where
  len : l.length = J
  each : ∀ j, j < l.length → Q (it l j)
def RowsV (Q : Int → Prop) (J : Nat) (g : List (List Int)) : Prop := ∀ i, i < g.length → RowV Q J (it g i)
/-- The number of judges. -/
def jgs (c : List (List Int)) : Nat := (it c 0).length
/-- Valid marks. -/
structure MkL (g c : List (List Int)) : Prop where
  few : g.length ≤ 14
  three : c.length = 3
  j3 : 3 ≤ jgs c
  j9 : jgs c ≤ 9
  gs : RowsV GdOk (jgs c) g
  cs : RowsV CpOk (jgs c) c
structure MkHas (g c : List (List Int)) (j : Int) : Prop where
  ok : MkL g c
  lo : 0 ≤ j
  hi : j < (jgs c : Int)
theorem sumTo_le9 (f : Nat → Nat) (n : Nat) (h : ∀ i, i < n → f i ≤ 9) : sumTo f n ≤ 9 * n := by
  induction n with
  | zero => exact Nat.le_refl _
  | succ n ih =>
    have h1 := ih (fun i hi => h i (by omega))
    have h2 := h n (by omega)
    simp only [sumTo]
    omega
theorem rows_fit {Q : Int → Prop} {J : Nat} {q : Rw (Rw Int)} (h : RowsV Q J (ctt q)) (hJ : J ≤ 9) (hl : q.xs.length ≤ 1000) : NFit q := by
  have h1 := sumTo_le9 (fun i => Nst.wt (it q.xs i)) q.xs.length (fun i hi => by
    show (it q.xs i).xs.length ≤ 9
    have := (h i (by rw [ctt_len]; exact hi)).len
    rw [ctt_it] at this
    omega)
  show q.xs.length + sumTo (fun i => Nst.wt (it q.xs i)) q.xs.length ≤ 1048576
  omega
theorem mkL_fits {x : Mr} (h : MkL (ctt x.G) (ctt x.C)) : MrFits x :=
  ⟨rows_fit h.gs h.j9 (by have := h.few; rw [ctt_len] at this; omega), rows_fit h.cs h.j9 (by have := h.three; rw [ctt_len] at this; omega)⟩
theorem nil_fit {q : Rw (Rw Int)} (h : ctt q = []) : NFit q := by
  have hl : q.xs.length = 0 := by rw [← ctt_len, h]; rfl
  show q.xs.length + sumTo (fun i => Nst.wt (it q.xs i)) q.xs.length ≤ 1048576
  rw [hl]
  show 0 + 0 ≤ 1048576
  omega
/-- Marks as an answer. -/
structure MrAns (g c : List (List Int)) (w w' : World) (y : Mr) : Prop where
  own : MrOwn (iv w.heap.size w'.heap.size) w' y
  G : ctt y.G = g
  C : ctt y.C = c
theorem nOwn_nil {α : Type} [Flat α] [Nst α] (S : Nat → Prop) (w : World) (A : Option Addr) (c : Nat) : Nst.Own (α := Rw α) S w ⟨A, c, []⟩ :=
  ⟨0, fun _ _ => False, Owned.nil _ _ _, fun i hi => absurd hi (Nat.not_lt_zero i), fun i hi => absurd hi (Nat.not_lt_zero i), fun i j x _ hj => absurd hj (Nat.not_lt_zero j), fun hp => absurd hp (Nat.not_lt_zero 0), fun i x hi => absurd hi (Nat.not_lt_zero i)⟩
theorem mrAns_nil (w w' : World) : MrAns [] [] w w' ⟨⟨none, 0, []⟩, ⟨none, 0, []⟩⟩ :=
  ⟨⟨fun _ => False, fun _ => False, nOwn_nil _ _ _ _, nOwn_nil _ _ _ _, fun _ h => h.elim, fun _ h => h.elim, fun _ h => h.elim⟩, rfl, rfl⟩
/-- A value if something holds, else another one. -/
noncomputable def pIf {α : Type} (p : Prop) (a b : α) : α := @ite _ p (Classical.propDecidable p) a b
theorem pIf_yes {α : Type} {p : Prop} {a b : α} (h : p) : pIf p a b = a := by unfold pIf; rw [if_pos h]
theorem pIf_no {α : Type} {p : Prop} {a b : α} (h : ¬ p) : pIf p a b = b := by unfold pIf; rw [if_neg h]
/-- A judge's column. -/
def colL (g : List (List Int)) (j : Nat) : List Int := g.map (it · j)
theorem colL_len (g : List (List Int)) (j : Nat) : (colL g j).length = g.length := by simp [colL]
theorem colL_it (g : List (List Int)) (j i : Nat) (hi : i < g.length) : it (colL g j) i = it (it g i) j := by
  conv => lhs; unfold it colL
  rw [List.getD_eq_getElem?_getD, List.getElem?_map, it_get g i hi]
  rfl
/-- Lists mapped. -/
theorem mapL_it (f : List Int → List Int) (g : List (List Int)) (i : Nat) (hi : i < g.length) : it (g.map f) i = f (it g i) := by
  conv => lhs; unfold it
  rw [List.getD_eq_getElem?_getD, List.getElem?_map, it_get g i hi]
  rfl
end Go.Proofs.YtfeffkjmjkddnaaDoor
