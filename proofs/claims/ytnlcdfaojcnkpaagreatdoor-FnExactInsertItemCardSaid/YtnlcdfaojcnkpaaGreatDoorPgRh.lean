/- RuleHolds, in the model and in the program. -/
import Derived.Test.YtnlcdfaojcnkpaaGreatDoorBh
namespace Go.Proofs.YtnlcdfaojcnkpaaGreatDoor
open Go.ChangeShapes Go.WideShapes Go.ChangeAt Go.RowKit Go.PlainAid
set_option linter.unusedVariables false

/-- What RuleHolds answers. -/
structure RhAsk (x : Cd) (xs : List Im) (r : Int) : Prop where
  ask : PgAsk x xs
  lo : 1 ≤ r
  hi : r ≤ 8
noncomputable def rhV (x : Cd) (xs : List Im) (r : Int) : Value := @ite _ (RhAsk x xs r) (Classical.propDecidable _) (.tuple #[.bool (pB (RuleP x xs r.toNat)), .bool true]) (.tuple #[.bool false, .bool false])
theorem rhV_yes {x : Cd} {xs : List Im} {r : Int} (h : RhAsk x xs r) : rhV x xs r = .tuple #[.bool (pB (RuleP x xs r.toNat)), .bool true] := by unfold rhV; exact @if_pos _ (Classical.propDecidable _) h _ _ _
theorem rhV_no {x : Cd} {xs : List Im} {r : Int} (h : ¬ RhAsk x xs r) : rhV x xs r = .tuple #[.bool false, .bool false] := by unfold rhV; exact @if_neg _ (Classical.propDecidable _) h _ _ _
theorem rhV_form (x : Cd) (xs : List Im) (r : Int) : ∃ p q : Bool, rhV x xs r = .tuple #[.bool p, .bool q] := by
  by_cases h : RhAsk x xs r
  · exact ⟨_, true, rhV_yes h⟩
  · exact ⟨false, false, rhV_no h⟩
theorem rhV_same {x : Cd} {xs ys : List Im} (h : SameS xs ys) (r : Int) : rhV x ys r = rhV x xs r := by
  by_cases k : RhAsk x xs r
  · rw [rhV_yes k, rhV_yes ⟨k.ask.same h, k.lo, k.hi⟩, pB_iff (ruleP_same h r.toNat)]
  · rw [rhV_no k, rhV_no (fun q => k ⟨q.ask.same h.symm, q.lo, q.hi⟩)]

theorem box1 {w : World} {b : Nat} {A L : Option Addr} {c d : Nat} {x : Cd} (h : BoxAt w b A c L d x) :
    w.cell? ⟨b, 0, none⟩ = some (.slice A x.els.length c) ∧ w.cell? ⟨b, 1, none⟩ = some (.slice L x.lims.length d) ∧ w.cell? ⟨b, 2, none⟩ = some (.int .i64 x.rep) ∧ w.cell? ⟨b, 3, none⟩ = some (.int .i64 x.bon) ∧ w.cell? ⟨b, 4, none⟩ = some (.int .i64 x.kee) ∧ w.cell? ⟨b, 5, none⟩ = some (.int .i64 x.fal) :=
  ⟨h.box.c0, h.box.c1, h.box.c2, h.box.c3, h.box.c4, h.box.c5⟩
end Go.Proofs.YtnlcdfaojcnkpaaGreatDoor
