/- Records of the program: a change with what was so of its name just before it. -/
import Derived.Test.YthbkfekbpjkhnaaHiC
import Derived.Test.YthbkfekbpjkhnaaAppN
import Derived.RegionTactic
import Derived.BigQuiet
namespace Go.Proofs.Ythbkfekbpjkhnaa
open Go.ChangeShapes Go.WideShapes Go.ChangeAt Go.RowKit Go.Lib Go.Proofs
set_option linter.unusedVariables false

structure Rc where
  x : Cg
  before : Int
  under : Bool
def Rc.cs (r : Rc) : List Value := [.int .i64 r.x.tick, .int .i64 r.x.caller, .int .i64 r.x.item, .int .i64 r.x.name, .int .i64 r.x.mark, .bool r.x.review, .int .i64 r.before, .bool r.under]
instance : Flat Rc where
  default := ⟨default, 0, false⟩
  sz := 8
  cells := Rc.cs
  len := fun _ => rfl
@[reducible] def Rc.val (r : Rc) : Value := .agg #[.int .i64 r.x.tick, .int .i64 r.x.caller, .int .i64 r.x.item, .int .i64 r.x.name, .int .i64 r.x.mark, .bool r.x.review, .int .i64 r.before, .bool r.under]
structure RcAt (w : World) (b o : Nat) (r : Rc) : Prop where
  c0 : w.cell? ⟨b, o, none⟩ = some (.int .i64 r.x.tick)
  c1 : w.cell? ⟨b, o + 1, none⟩ = some (.int .i64 r.x.caller)
  c2 : w.cell? ⟨b, o + 2, none⟩ = some (.int .i64 r.x.item)
  c3 : w.cell? ⟨b, o + 3, none⟩ = some (.int .i64 r.x.name)
  c4 : w.cell? ⟨b, o + 4, none⟩ = some (.int .i64 r.x.mark)
  c5 : w.cell? ⟨b, o + 5, none⟩ = some (.bool r.x.review)
  c6 : w.cell? ⟨b, o + 6, none⟩ = some (.int .i64 r.before)
  c7 : w.cell? ⟨b, o + 7, none⟩ = some (.bool r.under)
theorem rcAt {w : World} {b o : Nat} {r : Rc} (h : CellsAt w b o (Flat.cells r)) : RcAt w b o r := ⟨h 0 _ rfl, h 1 _ rfl, h 2 _ rfl, h 3 _ rfl, h 4 _ rfl, h 5 _ rfl, h 6 _ rfl, h 7 _ rfl⟩
theorem Lst.rc {w : World} {B : Nat} {A : Option Addr} {xs : List Rc} (h : Lst w B A xs) (hp : 0 < xs.length) : ∃ b o, A = some ⟨b, o, none⟩ ∧ b < B ∧ ∀ i, i < xs.length → RcAt w b (o + i * 8) (it xs i) := by
  obtain ⟨b, o, h1, h2, h3⟩ := h hp
  exact ⟨b, o, h1, h2, fun i hi => rcAt (h3 i hi)⟩
theorem RcAt.below {w w' : World} {B b o : Nat} {r : Rc} (h : RcAt w b o r) (hb : Below B w w') (hB : b < B) : RcAt w' b o r :=
  ⟨(hb.cell (p := ⟨b, o, none⟩) hB).trans h.c0, (hb.cell (p := ⟨b, o + 1, none⟩) hB).trans h.c1, (hb.cell (p := ⟨b, o + 2, none⟩) hB).trans h.c2, (hb.cell (p := ⟨b, o + 3, none⟩) hB).trans h.c3, (hb.cell (p := ⟨b, o + 4, none⟩) hB).trans h.c4, (hb.cell (p := ⟨b, o + 5, none⟩) hB).trans h.c5, (hb.cell (p := ⟨b, o + 6, none⟩) hB).trans h.c6, (hb.cell (p := ⟨b, o + 7, none⟩) hB).trans h.c7⟩
/-- A record in a box of its own. -/
structure RcBx (w : World) (b : Nat) (r : Rc) : Prop where
  c0 : w.cell? ⟨b, 0, none⟩ = some (.int .i64 r.x.tick)
  c1 : w.cell? ⟨b, 1, none⟩ = some (.int .i64 r.x.caller)
  c2 : w.cell? ⟨b, 2, none⟩ = some (.int .i64 r.x.item)
  c3 : w.cell? ⟨b, 3, none⟩ = some (.int .i64 r.x.name)
  c4 : w.cell? ⟨b, 4, none⟩ = some (.int .i64 r.x.mark)
  c5 : w.cell? ⟨b, 5, none⟩ = some (.bool r.x.review)
  c6 : w.cell? ⟨b, 6, none⟩ = some (.int .i64 r.before)
  c7 : w.cell? ⟨b, 7, none⟩ = some (.bool r.under)
theorem RcBx.below {w w' : World} {b B : Nat} {r : Rc} (h : RcBx w b r) (hb : Below B w w') (hB : b < B) : RcBx w' b r :=
  ⟨(hb.cell (p := ⟨b, 0, none⟩) hB).trans h.c0, (hb.cell (p := ⟨b, 1, none⟩) hB).trans h.c1, (hb.cell (p := ⟨b, 2, none⟩) hB).trans h.c2, (hb.cell (p := ⟨b, 3, none⟩) hB).trans h.c3, (hb.cell (p := ⟨b, 4, none⟩) hB).trans h.c4, (hb.cell (p := ⟨b, 5, none⟩) hB).trans h.c5, (hb.cell (p := ⟨b, 6, none⟩) hB).trans h.c6, (hb.cell (p := ⟨b, 7, none⟩) hB).trans h.c7⟩
theorem rcBx_at {w : World} {b : Nat} {r : Rc} (h : OwnAt w b 0 [r]) : RcBx w b r := by
  have h1 := rcAt (h.cell 0 (by simp))
  rw [Nat.zero_mul, Nat.add_zero] at h1
  exact ⟨h1.c0, h1.c1, h1.c2, h1.c3, h1.c4, h1.c5, h1.c6, h1.c7⟩
theorem rcBx_new (w : World) (r : Rc) (t : TypeId) : OwnAt (w.alloc (.cells #[.int .i64 r.x.tick, .int .i64 r.x.caller, .int .i64 r.x.item, .int .i64 r.x.name, .int .i64 r.x.mark, .bool r.x.review, .int .i64 r.before, .bool r.under] t)) w.heap.size 0 [r] := by
  refine ⟨fun i hi j v hv => ?_, fun i j hi hj => by simp⟩
  obtain rfl : i = 0 := by simpa using hi
  have hj : j < 8 := (List.getElem?_eq_some_iff.1 hv).1
  rcases (show j = 0 ∨ j = 1 ∨ j = 2 ∨ j = 3 ∨ j = 4 ∨ j = 5 ∨ j = 6 ∨ j = 7 by omega) with rfl | rfl | rfl | rfl | rfl | rfl | rfl | rfl <;> (obtain rfl := Option.some.inj hv; simp [Flat.sz]; rfl)
theorem Try.infoRc : (Try.prog.info? 98).map (fun i => (i.zero, i.size, i.bytes)) = some (some (.agg #[.int .i64 0, .int .i64 0, .int .i64 0, .int .i64 0, .int .i64 0, .bool false, .int .i64 0, .bool false]), 8, 64) := by kernel_rfl
/-- A record says that its change is allowed. -/
def rcAl (r : Rc) : Bool := !r.x.review || (r.x.mark == r.before && !r.under)
set_option maxHeartbeats 1000000 in
theorem isAllowed_any (r : Rc) (w : World) :
    Calls Try.prog 77 #[r.val] w fun e w' => e = .returned (.bool (rcAl r)) ∧ Below w.heap.size w w' := by
  obtain ⟨⟨a, b, c, d, m, rv⟩, bf, un⟩ := r
  unfold Rc.val rcAl
  cases rv
  · go_enter Try.func77, Try.ntmps77
    go_wp2
    go_ret
    exact ⟨rfl, by go_grown⟩
  · by_cases h : m = bf
    · have hb : (m == bf) = true := by simpa using h
      subst h
      simp only [hb]
      clear hb
      go_enter Try.func77, Try.ntmps77
      go_wp2
      go_ret
      exact ⟨by first | rfl | (cases un <;> rfl), by go_grown⟩
    · have hb : (m == bf) = false := by simpa using h
      simp only [hb]
      clear h
      go_enter Try.func77, Try.ntmps77
      go_wp2
      go_ret
      exact ⟨by first | rfl | (cases un <;> rfl), by go_grown⟩
end Go.Proofs.Ythbkfekbpjkhnaa
