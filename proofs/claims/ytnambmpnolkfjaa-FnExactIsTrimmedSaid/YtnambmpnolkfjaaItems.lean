/- Items: names, marks and a bool; slices of them, as the laws' helpers measure and copy them. -/
import Derived.Test.YtnambmpnolkfjaaStrF
import Derived.Test.YtnambmpnolkfjaaIntF
namespace Go.Proofs.Ytnambmpnolkfjaa
open Go.ChangeShapes Go.WideShapes Go.ChangeAt Go.RowKit
set_option linter.unusedVariables false

/-- An item, and where its slices lie. -/
structure Im where
  A : Option Addr
  c : Nat
  L : Option Addr
  d : Nat
  ns : List ByteArray
  ms : List Int
  late : Bool
def Im.cs (x : Im) : List Value := [.slice x.A x.ns.length x.c, .slice x.L x.ms.length x.d, .bool x.late]
instance : Flat Im where
  default := ⟨none, 0, none, 0, [], [], false⟩
  sz := 3
  cells := Im.cs
  len := fun _ => rfl
@[reducible] def Im.val (x : Im) : Value := .agg #[.slice x.A x.ns.length x.c, .slice x.L x.ms.length x.d, .bool x.late]
/-- The three cells of an item. -/
structure ImAt (w : World) (b o : Nat) (x : Im) : Prop where
  c0 : w.cell? ⟨b, o, none⟩ = some (.slice x.A x.ns.length x.c)
  c1 : w.cell? ⟨b, o + 1, none⟩ = some (.slice x.L x.ms.length x.d)
  c2 : w.cell? ⟨b, o + 2, none⟩ = some (.bool x.late)
theorem imAt {w : World} {b o : Nat} {x : Im} (h : CellsAt w b o (Flat.cells x)) : ImAt w b o x := ⟨h 0 _ rfl, h 1 _ rfl, h 2 _ rfl⟩
theorem Lst.im {w : World} {B : Nat} {A : Option Addr} {xs : List Im} (h : Lst w B A xs) (hp : 0 < xs.length) : ∃ b o, A = some ⟨b, o, none⟩ ∧ b < B ∧ ∀ i, i < xs.length → ImAt w b (o + i * 3) (it xs i) := by
  obtain ⟨b, o, h1, h2, h3⟩ := h hp
  exact ⟨b, o, h1, h2, fun i hi => imAt (h3 i hi)⟩
theorem ImAt.below {w w' : World} {B b o : Nat} {x : Im} (h : ImAt w b o x) (hb : Below B w w') (hB : b < B) : ImAt w' b o x :=
  ⟨(hb.cell (p := ⟨b, o, none⟩) hB).trans h.c0, (hb.cell (p := ⟨b, o + 1, none⟩) hB).trans h.c1, (hb.cell (p := ⟨b, o + 2, none⟩) hB).trans h.c2⟩
/-- The slices of an item lie below B. -/
structure ImIn (w : World) (B : Nat) (x : Im) : Prop where
  ns : Lst w B x.A x.ns
  ms : Lst w B x.L x.ms
theorem ImIn.below {w w' : World} {B B' : Nat} {x : Im} (h : ImIn w B x) (hb : Below B' w w') (hB : B ≤ B') : ImIn w' B x := ⟨h.ns.below hb hB, h.ms.below hb hB⟩
theorem ImIn.up {w : World} {B B' : Nat} {x : Im} (h : ImIn w B x) (hB : B ≤ B') : ImIn w B' x := ⟨h.ns.up hB, h.ms.up hB⟩
theorem ImIn.next {w w' : World} {x : Im} (h : ImIn w w.heap.size x) (hb : Below w.heap.size w w') : ImIn w' w'.heap.size x := (h.below hb (Nat.le_refl _)).up hb.size
/-- A slice of items below B, with their slices. -/
structure Ims (w : World) (B : Nat) (P : Option Addr) (xs : List Im) : Prop where
  out : Lst w B P xs
  each : ∀ i, i < xs.length → ImIn w B (it xs i)
theorem Ims.below {w w' : World} {B B' : Nat} {P : Option Addr} {xs : List Im} (h : Ims w B P xs) (hb : Below B' w w') (hB : B ≤ B') : Ims w' B P xs := ⟨h.out.below hb hB, fun i hi => (h.each i hi).below hb hB⟩
theorem Ims.up {w : World} {B B' : Nat} {P : Option Addr} {xs : List Im} (h : Ims w B P xs) (hB : B ≤ B') : Ims w B' P xs := ⟨h.out.up hB, fun i hi => (h.each i hi).up hB⟩
theorem Ims.next {w w' : World} {P : Option Addr} {xs : List Im} (h : Ims w w.heap.size P xs) (hb : Below w.heap.size w w') : Ims w' w'.heap.size P xs := (h.below hb (Nat.le_refl _)).up hb.size
theorem Ims.nil (w : World) (B : Nat) (P : Option Addr) : Ims w B P [] := ⟨Lst.nil _ _ _, fun i hi => absurd hi (by simp)⟩
/-- What the memory can hold. -/
structure ItLen (x : Im) : Prop where
  ns : SLen x.ns
  ms : x.ms.length ≤ 9223372036854775807
structure ItFits (x : Im) : Prop where
  ns : SFits x.ns
  ms : x.ms.length ≤ 1048576
structure ImsLen (xs : List Im) : Prop where
  len : xs.length ≤ 9223372036854775807
  each : ∀ i, i < xs.length → ItLen (it xs i)
structure ImsFits (xs : List Im) : Prop where
  len : xs.length ≤ 1048576
  each : ∀ i, i < xs.length → ItFits (it xs i)

theorem below_alloc (w : World) (o : Obj) : Below w.heap.size w (w.alloc o) := (Below.refl _ _).alloc (Nat.le_refl _) _
theorem below_next {w w1 w2 : World} (h : Below w.heap.size w w1) (k : Below w1.heap.size w1 w2) : Below w.heap.size w w2 := h.trans (k.mono h.size)
/-- An item in a block of its own. -/
theorem imBox (w : World) (t : TypeId) (x : Im) : ImAt (w.alloc (.cells #[.slice x.A x.ns.length x.c, .slice x.L x.ms.length x.d, .bool x.late] t)) w.heap.size 0 x := by
  constructor <;> simp

/-- An item with its slices in the blocks g1 and g2. -/
def Im.cpy (x : Im) (g1 g2 : Nat) : Im := ⟨some ⟨g1, 0, none⟩, x.ns.length, some ⟨g2, 0, none⟩, x.ms.length, x.ns, x.ms, x.late⟩
/-- Three cells that may be written. -/
structure ImMem (w : World) (b : Nat) (v0 v1 v2 : Value) : Prop where
  c0 : w.cell? ⟨b, 0, none⟩ = some v0
  c1 : w.cell? ⟨b, 1, none⟩ = some v1
  c2 : w.cell? ⟨b, 2, none⟩ = some v2
  fr : ∀ j, w.frozen? ⟨b, j, none⟩ = false
theorem ImMem.below {w w' : World} {B b : Nat} {v0 v1 v2 : Value} (h : ImMem w b v0 v1 v2) (hb : Below B w w') (hB : b < B) : ImMem w' b v0 v1 v2 :=
  ⟨(hb.cell (p := ⟨b, 0, none⟩) hB).trans h.c0, (hb.cell (p := ⟨b, 1, none⟩) hB).trans h.c1, (hb.cell (p := ⟨b, 2, none⟩) hB).trans h.c2, fun j => (World.frozen?_of_block (w := w) (a := ⟨b, j, none⟩) (hb.block b hB)).trans (h.fr j)⟩
theorem imMem_new (w : World) (b : Nat) (t : TypeId) (hb : w.heap.size = b) (v0 v1 v2 : Value) : ImMem (w.alloc (.cells #[v0, v1, v2] t)) b v0 v1 v2 := by
  subst hb
  constructor <;> first | simp | (intro j; simp)
theorem ImMem.set0 {w : World} {b : Nat} {v0 v1 v2 : Value} (h : ImMem w b v0 v1 v2) (u : Value) : ImMem (w.setCell ⟨b, 0, none⟩ u) b u v1 v2 :=
  ⟨World.cell?_setCell_same w ⟨b, 0, none⟩ _ h.c0, (World.cell?_setCell_other w _ _ _ (by simp)).trans h.c1, (World.cell?_setCell_other w _ _ _ (by simp)).trans h.c2, fun j => (World.frozen?_setCell w _ _ _).trans (h.fr j)⟩
theorem ImMem.set1 {w : World} {b : Nat} {v0 v1 v2 : Value} (h : ImMem w b v0 v1 v2) (u : Value) : ImMem (w.setCell ⟨b, 1, none⟩ u) b v0 u v2 :=
  ⟨(World.cell?_setCell_other w _ _ _ (by simp)).trans h.c0, World.cell?_setCell_same w ⟨b, 1, none⟩ _ h.c1, (World.cell?_setCell_other w _ _ _ (by simp)).trans h.c2, fun j => (World.frozen?_setCell w _ _ _).trans (h.fr j)⟩
theorem ImMem.set2 {w : World} {b : Nat} {v0 v1 v2 : Value} (h : ImMem w b v0 v1 v2) (u : Value) : ImMem (w.setCell ⟨b, 2, none⟩ u) b v0 v1 u :=
  ⟨(World.cell?_setCell_other w _ _ _ (by simp)).trans h.c0, (World.cell?_setCell_other w _ _ _ (by simp)).trans h.c1, World.cell?_setCell_same w ⟨b, 2, none⟩ _ h.c2, fun j => (World.frozen?_setCell w _ _ _).trans (h.fr j)⟩
theorem ImMem.other {w : World} {b : Nat} {v0 v1 v2 : Value} (h : ImMem w b v0 v1 v2) (p : Addr) (hp : p.block ≠ b) (u : Value) : ImMem (w.setCell p u) b v0 v1 v2 := by
  have hn : ∀ j, p ≠ ⟨b, j, none⟩ := fun j e => hp (by rw [e])
  have hn' : ∀ j, (⟨b, j, none⟩ : Addr) ≠ p := fun j e => hp (by rw [← e])
  exact ⟨(World.cell?_setCell_other w _ _ _ (by first | exact hn _ | exact hn' _)).trans h.c0, (World.cell?_setCell_other w _ _ _ (by first | exact hn _ | exact hn' _)).trans h.c1, (World.cell?_setCell_other w _ _ _ (by first | exact hn _ | exact hn' _)).trans h.c2, fun j => (World.frozen?_setCell w _ _ _).trans (h.fr j)⟩
end Go.Proofs.Ytnambmpnolkfjaa
