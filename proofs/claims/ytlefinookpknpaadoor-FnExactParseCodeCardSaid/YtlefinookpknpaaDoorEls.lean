/- Elements: a string and three ints; slices of them, as the laws' helpers read and copy them. -/
import Derived.Test.YtlefinookpknpaaDoorFlat
namespace Go.Proofs.YtlefinookpknpaaDoor
open Go.ChangeShapes Go.WideShapes Go.ChangeAt Go.RowKit
set_option linter.unusedVariables false

structure El where
  name : ByteArray
  fam : Int
  lev : Int
  base : Int
def El.cs (x : El) : List Value := [.string x.name, .int .i64 x.fam, .int .i64 x.lev, .int .i64 x.base]
instance : Flat El where
  default := ⟨⟨#[]⟩, 0, 0, 0⟩
  sz := 4
  cells := El.cs
  len := fun _ => rfl
@[reducible] def El.val (x : El) : Value := .agg #[.string x.name, .int .i64 x.fam, .int .i64 x.lev, .int .i64 x.base]
/-- The four cells of an element. -/
structure ElAt (w : World) (b o : Nat) (x : El) : Prop where
  c0 : w.cell? ⟨b, o, none⟩ = some (.string x.name)
  c1 : w.cell? ⟨b, o + 1, none⟩ = some (.int .i64 x.fam)
  c2 : w.cell? ⟨b, o + 2, none⟩ = some (.int .i64 x.lev)
  c3 : w.cell? ⟨b, o + 3, none⟩ = some (.int .i64 x.base)
theorem elAt {w : World} {b o : Nat} {x : El} (h : CellsAt w b o (Flat.cells x)) : ElAt w b o x :=
  ⟨h 0 _ rfl, h 1 _ rfl, h 2 _ rfl, h 3 _ rfl⟩

theorem Lst.el {w : World} {B : Nat} {A : Option Addr} {xs : List El} (h : Lst w B A xs) (hp : 0 < xs.length) : ∃ b o, A = some ⟨b, o, none⟩ ∧ b < B ∧ ∀ i, i < xs.length → ElAt w b (o + i * 4) (it xs i) := by
  obtain ⟨b, o, h1, h2, h3⟩ := h hp
  exact ⟨b, o, h1, h2, fun i hi => elAt (h3 i hi)⟩
theorem ElAt.below {w w' : World} {B b o : Nat} {x : El} (h : ElAt w b o x) (hb : Below B w w') (hB : b < B) : ElAt w' b o x :=
  ⟨(hb.cell (p := ⟨b, o, none⟩) hB).trans h.c0, (hb.cell (p := ⟨b, o + 1, none⟩) hB).trans h.c1, (hb.cell (p := ⟨b, o + 2, none⟩) hB).trans h.c2, (hb.cell (p := ⟨b, o + 3, none⟩) hB).trans h.c3⟩

/-- The four cells of an element that may be written. -/
structure ElOwn (w : World) (b o : Nat) (x : El) : Prop extends ElAt w b o x where
  f0 : w.frozen? ⟨b, o, none⟩ = false
  f1 : w.frozen? ⟨b, o + 1, none⟩ = false
  f2 : w.frozen? ⟨b, o + 2, none⟩ = false
  f3 : w.frozen? ⟨b, o + 3, none⟩ = false
theorem OwnAt.el0 {w : World} {g : Nat} {xs : List El} (h : OwnAt w g 0 xs) (i : Nat) (hi : i < xs.length) : ElOwn w g (i * 4) (it xs i) := by
  have h1 := h.cell i hi
  have h2 := fun j => h.free i j hi
  rw [Nat.zero_add] at h1 h2
  exact ⟨elAt h1, h2 0 (by decide), h2 1 (by decide), h2 2 (by decide), h2 3 (by decide)⟩
theorem OwnAt.el {w : World} {g o : Nat} {xs : List El} (h : OwnAt w g o xs) (i : Nat) (hi : i < xs.length) : ElOwn w g (o + i * 4) (it xs i) := by
  have h1 := h.cell i hi
  have h2 := fun j => h.free i j hi
  exact ⟨elAt h1, h2 0 (by decide), h2 1 (by decide), h2 2 (by decide), h2 3 (by decide)⟩

def Fits (xs : List El) : Prop := xs.length ≤ 1048576 ∧ ∀ i, i < xs.length → (it xs i).name.size ≤ 1048576
theorem Tryd.infoEl : (Tryd.prog.info? 35).map (fun i => (i.zero, i.size, i.bytes)) = some (some (.agg #[.string ⟨#[]⟩, .int .i64 0, .int .i64 0, .int .i64 0]), 4, 40) := by kernel_rfl
end Go.Proofs.YtlefinookpknpaaDoor
