/- Answers that are codes; a scaled code, in the model and in the program. -/
import Derived.Test.YtnlcdfaojcnkpaaDoorCdD
namespace Go.Proofs.YtnlcdfaojcnkpaaDoor
open Go.ChangeShapes Go.WideShapes Go.ChangeAt Go.RowKit Go.PlainAid Go.Sort
set_option linter.unusedVariables false

/-- A call's answer: a code in memory of its own, and a bool. -/
structure CodeAns (w : World) (R : Cd) (q : Prop) (e : Ending) (w' : World) : Prop where
  ans : ∃ A c L d g1 g2, e = .returned (.tuple #[R.val A c L d, .bool (pB q)]) ∧ CdOwn w' g1 g2 A L R ∧ g1 ≠ g2 ∧ (w.heap.size ≤ g1 ∧ g1 < w'.heap.size) ∧ (w.heap.size ≤ g2 ∧ g2 < w'.heap.size)
  below : Below w.heap.size w w'
theorem codeAns_no {w w' : World} {R : Cd} {q : Prop} {e : Ending} (hq : ¬ q) (hR : R = Cd.zero) (he : e = .returned (.tuple #[.agg #[.slice none 0 0, .slice none 0 0, .int .i64 0, .int .i64 0, .int .i64 0, .int .i64 0], .bool false])) (hs : w.heap.size + 2 ≤ w'.heap.size) (hb : Below w.heap.size w w') : CodeAns w R q e w' := by
  subst hR
  exact ⟨⟨none, 0, none, 0, w.heap.size, w.heap.size + 1, by rw [he, pB_no hq]; rfl, ⟨Owned.nil _ _ _, Owned.nil _ _ _⟩, by omega, by omega, by omega⟩, hb⟩
theorem OwnAt.put1 {α : Type} [Flat α] {w : World} {g o : Nat} {xs : List α} (h : OwnAt w g o xs) (k j : Nat) (x : α) (v : Value) (hk : k < xs.length) (hj : j < Flat.sz α) (hv : (Flat.cells x)[j]? = some v) (hx : ∀ i, i ≠ j → (Flat.cells x)[i]? = (Flat.cells (it xs k))[i]?) :
    OwnAt (w.setCell ⟨g, o + k * Flat.sz α + j, none⟩ v) g o (xs.set k x) := by
  refine ⟨fun i hi => ?_, fun i m hi hm => ?_⟩
  · rw [List.length_set] at hi
    rw [it_set xs k i x hk]
    by_cases e : i = k
    · subst e
      rw [if_pos rfl]
      intro m u hu
      by_cases em : m = j
      · subst em
        rw [hv] at hu
        rw [← Option.some.inj hu]
        have hl : m < (Flat.cells (it xs i)).length := by rw [Flat.len]; exact hj
        exact World.cell?_setCell_same w ⟨g, o + i * Flat.sz α + m, none⟩ _ (h.cell i hk m _ (List.getElem?_eq_getElem hl))
      · rw [World.cell?_setCell_other w _ _ _ (fun he => by
          have := congrArg Addr.off he
          simp only at this
          omega)]
        exact h.cell i hk m u (by rw [← hx m em]; exact hu)
    · rw [if_neg e]
      intro m u hu
      have hm : m < Flat.sz α := by
        have := (List.getElem?_eq_some_iff.1 hu).1
        rwa [Flat.len] at this
      rw [World.cell?_setCell_other w _ _ _ (fun he => by
        have h1 := congrArg Addr.off he
        simp only at h1
        rcases Nat.lt_or_gt_of_ne e with hlt | hgt
        · have := Nat.mul_le_mul_right (Flat.sz α) (show i + 1 ≤ k from hlt)
          rw [Nat.succ_mul] at this
          omega
        · have := Nat.mul_le_mul_right (Flat.sz α) (show k + 1 ≤ i from hgt)
          rw [Nat.succ_mul] at this
          omega)]
      exact h.cell i hi m u hu
  · rw [List.length_set] at hi
    rw [World.frozen?_setCell]
    exact h.free i m hi hm
theorem CellsAt.only {S : Nat → Prop} {w w' : World} {b o : Nat} {vs : List Value} (h : CellsAt w b o vs) (k : Only S w w') (hb : b < w.heap.size) (hs : ¬ S b) : CellsAt w' b o vs :=
  fun j v hj => (World.cell?_of_block (a := ⟨b, o + j, none⟩) (k.block b hb hs)).trans (h j v hj)
theorem BoxAt.only {S : Nat → Prop} {w w' : World} {b : Nat} {A L : Option Addr} {c d : Nat} {x : Cd} (h : BoxAt w b A c L d x) (k : Only S w w') (hs : ¬ S b) : BoxAt w' b A c L d x := by
  have hb := k.block b h.lt hs
  exact ⟨Nat.lt_of_lt_of_le h.lt k.size, (World.cell?_of_block (a := ⟨b, 0, none⟩) hb).trans h.box.c0, (World.cell?_of_block (a := ⟨b, 1, none⟩) hb).trans h.box.c1, (World.cell?_of_block (a := ⟨b, 2, none⟩) hb).trans h.box.c2, (World.cell?_of_block (a := ⟨b, 3, none⟩) hb).trans h.box.c3, (World.cell?_of_block (a := ⟨b, 4, none⟩) hb).trans h.box.c4, (World.cell?_of_block (a := ⟨b, 5, none⟩) hb).trans h.box.c5⟩
theorem CdMem.only {S : Nat → Prop} {w w' : World} {b : Nat} {v0 v1 v2 v3 v4 v5 : Value} (h : CdMem w b v0 v1 v2 v3 v4 v5) (k : Only S w w') (hl : b < w.heap.size) (hs : ¬ S b) : CdMem w' b v0 v1 v2 v3 v4 v5 := by
  have hb := k.block b hl hs
  exact ⟨(World.cell?_of_block (a := ⟨b, 0, none⟩) hb).trans h.c0, (World.cell?_of_block (a := ⟨b, 1, none⟩) hb).trans h.c1, (World.cell?_of_block (a := ⟨b, 2, none⟩) hb).trans h.c2, (World.cell?_of_block (a := ⟨b, 3, none⟩) hb).trans h.c3, (World.cell?_of_block (a := ⟨b, 4, none⟩) hb).trans h.c4, (World.cell?_of_block (a := ⟨b, 5, none⟩) hb).trans h.c5, fun j => (World.frozen?_of_block (a := ⟨b, j, none⟩) hb).trans (h.fr j)⟩
theorem CdNew.box {w : World} {B g1 g2 : Nat} {x : Cd} (h : CdNew w B g1 g2 x) (o : Obj) : CdNew (w.alloc o) B g1 g2 x :=
  ⟨h.els.next h.lt1 (below_alloc _ _), h.lims.next h.lt2 (below_alloc _ _), h.le1, h.le2, by have := h.lt1; simp; omega, by have := h.lt2; simp; omega, h.ne⟩

def scEl (p : Int) (x : El) : El := { x with base := max 1 (x.base * p / 100) }
def scTo (xs : List El) (p : Int) : Nat → List El
  | 0 => xs
  | k + 1 => (scTo xs p k).set k (scEl p (it xs k))
theorem scTo_len (xs : List El) (p : Int) : ∀ k, (scTo xs p k).length = xs.length
  | 0 => rfl
  | k + 1 => by
    show ((scTo xs p k).set k _).length = _
    rw [List.length_set]
    exact scTo_len xs p k
theorem scTo_ge (xs : List El) (p : Int) : ∀ k j, k ≤ xs.length → k ≤ j → it (scTo xs p k) j = it xs j
  | 0, _, _, _ => rfl
  | k + 1, j, hk, hj => by
    show it ((scTo xs p k).set k _) j = _
    rw [it_set _ _ _ _ (by rw [scTo_len]; omega), if_neg (by omega)]
    exact scTo_ge xs p k j (by omega) (by omega)
def scCd (x : Cd) (p : Int) : Cd := { x with els := scTo x.els p x.els.length }
theorem zero_fits : CdFits Cd.zero := ⟨⟨by decide, fun i hi => absurd hi (Nat.not_lt_zero _)⟩, by decide⟩
def ScOk (x : Cd) (p : Int) : Prop := CdOk x ∧ (1 ≤ p ∧ p ≤ 200) ∧ CdOk (scCd x p)
noncomputable def scR (x : Cd) (p : Int) : Cd := @ite _ (ScOk x p) (Classical.propDecidable _) (scCd x p) Cd.zero
theorem scR_yes {x : Cd} {p : Int} (h : ScOk x p) : scR x p = scCd x p := by unfold scR; exact @if_pos _ (Classical.propDecidable _) h _ _ _
theorem scR_no {x : Cd} {p : Int} (h : ¬ ScOk x p) : scR x p = Cd.zero := by unfold scR; exact @if_neg _ (Classical.propDecidable _) h _ _ _
theorem scCd_fits {x : Cd} {p : Int} (h : CdOk x) : CdFits (scCd x p) := by
  have main : ∀ k, k ≤ x.els.length → ∀ i, i < x.els.length → (it (scTo x.els p k) i).name.size ≤ 1048576 := by
    intro k
    induction k with
    | zero => exact fun _ i hi => El.fit (h.els.el i hi)
    | succ k ih =>
      intro hk i hi
      show (it ((scTo x.els p k).set k _) i).name.size ≤ _
      rw [it_set _ _ _ _ (by rw [scTo_len]; omega)]
      split
      · show (it x.els k).name.size ≤ _
        exact El.fit (h.els.el k (by omega))
      · exact ih (by omega) i hi
  refine ⟨⟨?_, fun i hi => ?_⟩, ?_⟩
  · show (scTo x.els p x.els.length).length ≤ _
    rw [scTo_len]
    have := h.els.hi
    omega
  · have hi' : i < x.els.length := by
      have : (scTo x.els p x.els.length).length = x.els.length := scTo_len _ _ _
      exact this ▸ hi
    exact main _ (Nat.le_refl _) i hi'
  · have := h.lims.len
    show x.lims.length ≤ _
    omega

theorem scR_fits (x : Cd) (p : Int) : CdFits (scR x p) := by
  by_cases h : ScOk x p
  · rw [scR_yes h]
    exact Cd.fit h.2.2
  · rw [scR_no h]
    exact zero_fits

theorem Lst.el' {w : World} {B : Nat} {A : Option Addr} {xs : List El} (h : Lst w B A xs) (hp : 0 < xs.length) : ∃ b o, A = some ⟨b, o, none⟩ ∧ b < B ∧ ∀ i, i < xs.length → CellsAt w b (o + i * 4) (Flat.cells (it xs i)) := h hp
theorem Tab.only {S : Nat → Prop} {w w' : World} (h : Tab w) (k : Only S w w') (hs : ¬ S 1) : Tab w' := by
  refine ⟨Nat.lt_of_lt_of_le h.lt k.size, ?_⟩
  have hb := k.block _ h.lt hs
  have hv := h.var
  unfold World.var? at hv ⊢
  simp only [gBound, Option.bind_some] at hv ⊢
  rw [hb]
  exact hv
end Go.Proofs.YtnlcdfaojcnkpaaDoor
