/- A list with its second half late, if it is a programme: in the model and in the program. -/
import Derived.Test.YtjmdaecjgiafoaaGreatDoorPgKa
import Derived.Test.YtjmdaecjgiafoaaGreatDoorPgE
import Derived.Test.YtjmdaecjgiafoaaGreatDoorBi
namespace Go.Proofs.YtjmdaecjgiafoaaGreatDoor
open Go.ChangeShapes Go.WideShapes Go.ChangeAt Go.RowKit Go.PlainAid
set_option linter.unusedVariables false

noncomputable def ifF (x : Cd) (zs : List Im) : List Im := @ite _ (PgOk x (lateS zs)) (Classical.propDecidable _) (lateS zs) []
theorem ifF_yes {x : Cd} {zs : List Im} (h : PgOk x (lateS zs)) : ifF x zs = lateS zs := by unfold ifF; exact @if_pos _ (Classical.propDecidable _) h _ _ _
theorem ifF_no {x : Cd} {zs : List Im} (h : ¬ PgOk x (lateS zs)) : ifF x zs = [] := by unfold ifF; exact @if_neg _ (Classical.propDecidable _) h _ _ _
theorem pgOk_same {x : Cd} {xs ys : List Im} (h : SameS xs ys) : pB (PgOk x ys) = pB (PgOk x xs) := pB_iff ⟨fun k => k.same h.symm, fun k => k.same h⟩
theorem ims_nothing (S : Nat → Prop) (w : World) : ImsOwn S w none 0 (fun _ => 0) [] := ⟨Owned.nil _ _ _, fun i hi => absurd hi (by simp), fun i hi => absurd hi (by simp), fun i hi => absurd hi (by simp), fun i j _ hi => absurd hi (by simp), fun hi => absurd hi (by simp), fun i hi => absurd hi (by simp)⟩

/-- An answer: a list of its own and whether there is one. -/
def ItAns (w : World) (V : List Im) (q : Prop) (e : Ending) (w' : World) : Prop := (∃ R d ys g G, e = .returned (.tuple #[.slice R ys.length d, .bool (pB q)]) ∧ SameS V ys ∧ ImsOwn (fun i => w.heap.size ≤ i ∧ i < w'.heap.size) w' R g G ys) ∧ Below w.heap.size w w'

end Go.Proofs.YtjmdaecjgiafoaaGreatDoor
