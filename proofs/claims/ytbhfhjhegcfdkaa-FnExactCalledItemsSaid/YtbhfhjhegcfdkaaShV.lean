/- OpenCalls of the model; IsFinal of the program. -/
import Derived.Test.YtbhfhjhegcfdkaaShU
namespace Go.Proofs.Ytbhfhjhegcfdkaa
open Go.ChangeShapes Go.WideShapes Go.ChangeAt Go.RowKit Go.Lib Go.Proofs
set_option linter.unusedVariables false

/-- Not final: an open name, or a vote that is missing. -/
def Unset (x : Sh) (i j : Nat) : Prop := caI x i j < 0 ∨ (-1 : Int) ∈ [vt x.V 0 i j, vt x.V 1 i j, vt x.V 2 i j]
instance (x : Sh) (i j : Nat) : Decidable (Unset x i j) := by unfold Unset; exact inferInstance
def fiD (x : Sh) (i j : Nat) : Bool := decide (Unset x i j)
def Fin1 (x : Sh) : Prop := ∀ i, i < x.l.length → ∀ j, j < nmN x.l i → ¬ Unset x i j
theorem plJ_nil {D : Nat → Nat → Bool} {i : Nat} : ∀ n, (plJ D i n = [] ↔ ∀ j, j < n → D i j = false)
  | 0 => ⟨fun _ => none_yet, fun _ => rfl⟩
  | n + 1 => by
    rw [plJ]
    cases hq : D i n
    · rw [if_neg (by simp), plJ_nil n]
      exact ⟨fun h => one_more h hq, fun h j hj => h j (by omega)⟩
    · rw [if_pos rfl]
      exact ⟨fun h => by simp at h, fun h => by have := h n (by omega); rw [hq] at this; cases this⟩
theorem plI_nil {n : Nat → Nat} {D : Nat → Nat → Bool} : ∀ m, (plI n D m = [] ↔ ∀ i, i < m → ∀ j, j < n i → D i j = false)
  | 0 => ⟨fun _ => none_yet, fun _ => rfl⟩
  | m + 1 => by
    rw [plI, List.append_eq_nil_iff, plI_nil m, plJ_nil]
    exact ⟨fun h => one_more h.1 h.2, fun h => ⟨fun i hi => h i (by omega), h m (by omega)⟩⟩
theorem fin_nil (x : Sh) : plI (nmN x.l) (fiD x) x.l.length = [] ↔ Fin1 x := by
  rw [plI_nil]
  exact ⟨fun h i hi j hj => of_decide_eq_false (h i hi j hj), fun h i hi j hj => decide_eq_false (h i hi j hj)⟩
noncomputable def fiV (x : Sh) : Value := .tuple #[.bool (pB (ShOk x ∧ Fin1 x)), .bool (pB (ShOk x))]
theorem fin_same {x y : Sh} (h : ShSame x y) (k : Fin1 x) : Fin1 y := fun i hi j hj => by
  have hl := h.its.len
  have := k i (by omega) j (by rw [← nmN_same h.its (by omega)]; exact hj)
  unfold Unset at this ⊢
  rw [caI_same h, vt_same h.vo, vt_same h.vo, vt_same h.vo]
  exact this
theorem fiV_same {x y : Sh} (h : ShSame x y) : fiV y = fiV x := by
  unfold fiV
  rw [pB_iff (p := ShOk y ∧ Fin1 y) (q := ShOk x ∧ Fin1 x) ⟨fun k => ⟨k.1.same h.symm, fin_same h.symm k.2⟩, fun k => ⟨k.1.same h, fin_same h k.2⟩⟩, shOk_same h]
theorem fiV_no {x : Sh} (h : ¬ ShOk x) : fiV x = .tuple #[.bool false, .bool false] := by
  unfold fiV
  rw [pB_no h, pB_no (fun k => h k.1)]
theorem fiV_ok {x : Sh} (h : ShOk x) : fiV x = .tuple #[.bool (pB (Fin1 x)), .bool true] := by
  unfold fiV
  rw [pB_yes h, pB_iff (p := ShOk x ∧ Fin1 x) (q := Fin1 x) ⟨fun k => k.2, fun k => ⟨h, k⟩⟩]
theorem fiV_form (x : Sh) : ∃ (a b : Bool), fiV x = .tuple #[.bool a, .bool b] := ⟨_, _, rfl⟩
theorem lst3 {w : World} {b : Nat} {a0 a1 a2 : Int} (h : ImMem w b (.int .i64 a0) (.int .i64 a1) (.int .i64 a2)) (hb : b < w.heap.size) : Lst w w.heap.size (some ⟨b, 0, none⟩) [a0, a1, a2] :=
  Lst.of_int fun _ => ⟨b, 0, rfl, hb, fun i hi => by
    have hi' : i < 3 := hi
    rcases (show i = 0 ∨ i = 1 ∨ i = 2 by omega) with rfl | rfl | rfl
    · exact h.c0
    · exact h.c1
    · exact h.c2⟩
end Go.Proofs.Ytbhfhjhegcfdkaa
