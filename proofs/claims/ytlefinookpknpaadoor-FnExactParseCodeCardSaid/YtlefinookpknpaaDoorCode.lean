/- Codes: elements, limits and four ints; as the laws' helpers measure, copy, compare and mark them. -/
import Derived.Test.YtlefinookpknpaaDoorElq
import Derived.Test.YtlefinookpknpaaDoorIntF
import Derived.Test.YtlefinookpknpaaDoorHeld
namespace Go.Proofs.YtlefinookpknpaaDoor
open Go.ChangeShapes Go.WideShapes Go.ChangeAt Go.RowKit
set_option linter.unusedVariables false

structure Cd where
  els : List El
  lims : List Int
  rep : Int
  bon : Int
  kee : Int
  fal : Int
@[reducible] def Cd.val (x : Cd) (A : Option Addr) (c : Nat) (L : Option Addr) (d : Nat) : Value :=
  .agg #[.slice A x.els.length c, .slice L x.lims.length d, .int .i64 x.rep, .int .i64 x.bon, .int .i64 x.kee, .int .i64 x.fal]
structure CdAt (w : World) (A L : Option Addr) (x : Cd) : Prop where
  els : Lst w w.heap.size A x.els
  lims : Lst w w.heap.size L x.lims
theorem CdAt.below {w w' : World} {A L : Option Addr} {x : Cd} (h : CdAt w A L x) (hb : Below w.heap.size w w') : CdAt w' A L x :=
  ⟨(h.els.below hb (Nat.le_refl _)).up hb.size, (h.lims.below hb (Nat.le_refl _)).up hb.size⟩
def CdFits (x : Cd) : Prop := Fits x.els ∧ x.lims.length ≤ 1048576
/-- No slice and no string is longer than the memory can hold. -/
structure CdLen (x : Cd) : Prop where
  els : x.els.length ≤ 9223372036854775807
  names : ∀ i, i < x.els.length → (it x.els i).name.size ≤ 9223372036854775807
  lims : x.lims.length ≤ 9223372036854775807

/-- The cells of a code that lies in block b. -/
structure CdBox (w : World) (b : Nat) (A : Option Addr) (c : Nat) (L : Option Addr) (d : Nat) (x : Cd) : Prop where
  c0 : w.cell? ⟨b, 0, none⟩ = some (.slice A x.els.length c)
  c1 : w.cell? ⟨b, 1, none⟩ = some (.slice L x.lims.length d)
  c2 : w.cell? ⟨b, 2, none⟩ = some (.int .i64 x.rep)
  c3 : w.cell? ⟨b, 3, none⟩ = some (.int .i64 x.bon)
  c4 : w.cell? ⟨b, 4, none⟩ = some (.int .i64 x.kee)
  c5 : w.cell? ⟨b, 5, none⟩ = some (.int .i64 x.fal)
theorem CdBox.below {w w' : World} {B b : Nat} {A : Option Addr} {c : Nat} {L : Option Addr} {d : Nat} {x : Cd} (h : CdBox w b A c L d x) (hb : Below B w w') (hB : b < B) : CdBox w' b A c L d x :=
  ⟨(hb.cell (p := ⟨b, 0, none⟩) hB).trans h.c0, (hb.cell (p := ⟨b, 1, none⟩) hB).trans h.c1, (hb.cell (p := ⟨b, 2, none⟩) hB).trans h.c2, (hb.cell (p := ⟨b, 3, none⟩) hB).trans h.c3, (hb.cell (p := ⟨b, 4, none⟩) hB).trans h.c4, (hb.cell (p := ⟨b, 5, none⟩) hB).trans h.c5⟩
theorem cdBox_new (w : World) (b : Nat) (t : TypeId) (hb : w.heap.size = b) (A : Option Addr) (c : Nat) (L : Option Addr) (d : Nat) (x : Cd) :
    CdBox (w.alloc (.cells #[.slice A x.els.length c, .slice L x.lims.length d, .int .i64 x.rep, .int .i64 x.bon, .int .i64 x.kee, .int .i64 x.fal] t)) b A c L d x := by
  subst hb
  constructor <;> simp

/-- A code in memory of its own: two blocks from B on. -/
structure CdNew (w : World) (B g1 g2 : Nat) (x : Cd) : Prop where
  els : OwnAt w g1 0 x.els
  lims : OwnAt w g2 0 x.lims
  le1 : B ≤ g1
  le2 : B ≤ g2
  lt1 : g1 < w.heap.size
  lt2 : g2 < w.heap.size
  ne : g1 ≠ g2
theorem CdNew.at_ {w : World} {B g1 g2 : Nat} {x : Cd} (h : CdNew w B g1 g2 x) : CdAt w (some ⟨g1, 0, none⟩) (some ⟨g2, 0, none⟩) x :=
  ⟨fun _ => ⟨g1, 0, rfl, h.lt1, h.els.cell⟩, fun _ => ⟨g2, 0, rfl, h.lt2, h.lims.cell⟩⟩

/-- Six cells that may be written. -/
structure CdMem (w : World) (b : Nat) (v0 v1 v2 v3 v4 v5 : Value) : Prop where
  c0 : w.cell? ⟨b, 0, none⟩ = some v0
  c1 : w.cell? ⟨b, 1, none⟩ = some v1
  c2 : w.cell? ⟨b, 2, none⟩ = some v2
  c3 : w.cell? ⟨b, 3, none⟩ = some v3
  c4 : w.cell? ⟨b, 4, none⟩ = some v4
  c5 : w.cell? ⟨b, 5, none⟩ = some v5
  fr : ∀ j, w.frozen? ⟨b, j, none⟩ = false
theorem CdMem.below {w w' : World} {B b : Nat} {v0 v1 v2 v3 v4 v5 : Value} (h : CdMem w b v0 v1 v2 v3 v4 v5) (hb : Below B w w') (hB : b < B) : CdMem w' b v0 v1 v2 v3 v4 v5 :=
  ⟨(hb.cell (p := ⟨b, 0, none⟩) hB).trans h.c0, (hb.cell (p := ⟨b, 1, none⟩) hB).trans h.c1, (hb.cell (p := ⟨b, 2, none⟩) hB).trans h.c2, (hb.cell (p := ⟨b, 3, none⟩) hB).trans h.c3, (hb.cell (p := ⟨b, 4, none⟩) hB).trans h.c4, (hb.cell (p := ⟨b, 5, none⟩) hB).trans h.c5, fun j => (hb.frozen (p := ⟨b, j, none⟩) hB).trans (h.fr j)⟩
theorem cdMem_new (w : World) (b : Nat) (t : TypeId) (hb : w.heap.size = b) (v0 v1 v2 v3 v4 v5 : Value) : CdMem (w.alloc (.cells #[v0, v1, v2, v3, v4, v5] t)) b v0 v1 v2 v3 v4 v5 := by
  subst hb
  constructor <;> first | simp | (intro j; simp)
theorem CdMem.set0 {w : World} {b : Nat} {v0 v1 v2 v3 v4 v5 : Value} (h : CdMem w b v0 v1 v2 v3 v4 v5) (u : Value) : CdMem (w.setCell ⟨b, 0, none⟩ u) b u v1 v2 v3 v4 v5 :=
  ⟨World.cell?_setCell_same w ⟨b, 0, none⟩ _ h.c0, (World.cell?_setCell_other w _ _ _ (by simp)).trans h.c1, (World.cell?_setCell_other w _ _ _ (by simp)).trans h.c2, (World.cell?_setCell_other w _ _ _ (by simp)).trans h.c3, (World.cell?_setCell_other w _ _ _ (by simp)).trans h.c4, (World.cell?_setCell_other w _ _ _ (by simp)).trans h.c5, fun j => (World.frozen?_setCell w _ _ u).trans (h.fr j)⟩
theorem CdMem.set1 {w : World} {b : Nat} {v0 v1 v2 v3 v4 v5 : Value} (h : CdMem w b v0 v1 v2 v3 v4 v5) (u : Value) : CdMem (w.setCell ⟨b, 1, none⟩ u) b v0 u v2 v3 v4 v5 :=
  ⟨(World.cell?_setCell_other w _ _ _ (by simp)).trans h.c0, World.cell?_setCell_same w ⟨b, 1, none⟩ _ h.c1, (World.cell?_setCell_other w _ _ _ (by simp)).trans h.c2, (World.cell?_setCell_other w _ _ _ (by simp)).trans h.c3, (World.cell?_setCell_other w _ _ _ (by simp)).trans h.c4, (World.cell?_setCell_other w _ _ _ (by simp)).trans h.c5, fun j => (World.frozen?_setCell w _ _ u).trans (h.fr j)⟩
theorem CdMem.set2 {w : World} {b : Nat} {v0 v1 v2 v3 v4 v5 : Value} (h : CdMem w b v0 v1 v2 v3 v4 v5) (u : Value) : CdMem (w.setCell ⟨b, 2, none⟩ u) b v0 v1 u v3 v4 v5 :=
  ⟨(World.cell?_setCell_other w _ _ _ (by simp)).trans h.c0, (World.cell?_setCell_other w _ _ _ (by simp)).trans h.c1, World.cell?_setCell_same w ⟨b, 2, none⟩ _ h.c2, (World.cell?_setCell_other w _ _ _ (by simp)).trans h.c3, (World.cell?_setCell_other w _ _ _ (by simp)).trans h.c4, (World.cell?_setCell_other w _ _ _ (by simp)).trans h.c5, fun j => (World.frozen?_setCell w _ _ u).trans (h.fr j)⟩
theorem CdMem.set3 {w : World} {b : Nat} {v0 v1 v2 v3 v4 v5 : Value} (h : CdMem w b v0 v1 v2 v3 v4 v5) (u : Value) : CdMem (w.setCell ⟨b, 3, none⟩ u) b v0 v1 v2 u v4 v5 :=
  ⟨(World.cell?_setCell_other w _ _ _ (by simp)).trans h.c0, (World.cell?_setCell_other w _ _ _ (by simp)).trans h.c1, (World.cell?_setCell_other w _ _ _ (by simp)).trans h.c2, World.cell?_setCell_same w ⟨b, 3, none⟩ _ h.c3, (World.cell?_setCell_other w _ _ _ (by simp)).trans h.c4, (World.cell?_setCell_other w _ _ _ (by simp)).trans h.c5, fun j => (World.frozen?_setCell w _ _ u).trans (h.fr j)⟩
theorem CdMem.set4 {w : World} {b : Nat} {v0 v1 v2 v3 v4 v5 : Value} (h : CdMem w b v0 v1 v2 v3 v4 v5) (u : Value) : CdMem (w.setCell ⟨b, 4, none⟩ u) b v0 v1 v2 v3 u v5 :=
  ⟨(World.cell?_setCell_other w _ _ _ (by simp)).trans h.c0, (World.cell?_setCell_other w _ _ _ (by simp)).trans h.c1, (World.cell?_setCell_other w _ _ _ (by simp)).trans h.c2, (World.cell?_setCell_other w _ _ _ (by simp)).trans h.c3, World.cell?_setCell_same w ⟨b, 4, none⟩ _ h.c4, (World.cell?_setCell_other w _ _ _ (by simp)).trans h.c5, fun j => (World.frozen?_setCell w _ _ u).trans (h.fr j)⟩
theorem CdMem.set5 {w : World} {b : Nat} {v0 v1 v2 v3 v4 v5 : Value} (h : CdMem w b v0 v1 v2 v3 v4 v5) (u : Value) : CdMem (w.setCell ⟨b, 5, none⟩ u) b v0 v1 v2 v3 v4 u :=
  ⟨(World.cell?_setCell_other w _ _ _ (by simp)).trans h.c0, (World.cell?_setCell_other w _ _ _ (by simp)).trans h.c1, (World.cell?_setCell_other w _ _ _ (by simp)).trans h.c2, (World.cell?_setCell_other w _ _ _ (by simp)).trans h.c3, (World.cell?_setCell_other w _ _ _ (by simp)).trans h.c4, World.cell?_setCell_same w ⟨b, 5, none⟩ _ h.c5, fun j => (World.frozen?_setCell w _ _ u).trans (h.fr j)⟩
theorem CdMem.other {w : World} {b : Nat} {v0 v1 v2 v3 v4 v5 : Value} (h : CdMem w b v0 v1 v2 v3 v4 v5) (p : Addr) (hp : p.block ≠ b) (u : Value) : CdMem (w.setCell p u) b v0 v1 v2 v3 v4 v5 := by
  have hn : ∀ j, p ≠ ⟨b, j, none⟩ := fun j e => hp (by rw [e])
  have hn' : ∀ j, (⟨b, j, none⟩ : Addr) ≠ p := fun j e => hp (by rw [← e])
  exact ⟨(World.cell?_setCell_other w _ _ _ (by first | exact hn _ | exact hn' _)).trans h.c0, (World.cell?_setCell_other w _ _ _ (by first | exact hn _ | exact hn' _)).trans h.c1, (World.cell?_setCell_other w _ _ _ (by first | exact hn _ | exact hn' _)).trans h.c2, (World.cell?_setCell_other w _ _ _ (by first | exact hn _ | exact hn' _)).trans h.c3, (World.cell?_setCell_other w _ _ _ (by first | exact hn _ | exact hn' _)).trans h.c4, (World.cell?_setCell_other w _ _ _ (by first | exact hn _ | exact hn' _)).trans h.c5, fun j => (World.frozen?_setCell w _ _ u).trans (h.fr j)⟩

end Go.Proofs.YtlefinookpknpaaDoor
