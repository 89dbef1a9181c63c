/- Items: names, marks and a bool; slices of them, as the laws' helpers measure and copy them. Items copied. Items compared, marked, held. Names, in the program and in the model. Valid items and lists, in the model and in the program. Valid lists, in the model and in the program. What the readings of items say of their cells; items that a call owns. The walks of the laws AreItems and IsItem. The walk of the law IsItem. Lists of items marked and held. Lists of items held. How often each mark occurs, in the model and in the program. -/
import Derived.Test.YtnlcdfaojcnkpaaDoorBc
import Derived.Test.YtnlcdfaojcnkpaaDoorBa
import Derived.Test.YtnlcdfaojcnkpaaDoorBb
import Derived.Test.YtnlcdfaojcnkpaaDoorRows
import Derived.WalkKit
import Derived.ProofKit
import Derived.OpenShut
import Derived.Handy
import Derived.Lib.Hide
import Derived.LoopTactic
import Derived.Below
import Derived.PlainAid
import Derived.WalkLawsBesides
import Derived.Deep.RegionHeld3
namespace Go.Proofs.YtnlcdfaojcnkpaaDoor
open Go.ChangeShapes Go.WideShapes Go.ChangeAt Go.RowKit
set_option linter.unusedVariables false

/-- An item, and where its slices lie. -/
structure Im where
  A : Option Addr
  c : Nat
  L : Option Addr
  d : Nat
  ns : List ByteArray
  ms : List Int
  late : Bool
def Im.cs (x : Im) : List Value := [.slice x.A x.ns.length x.c, .slice x.L x.ms.length x.d, .bool x.late]
instance : Flat Im where
  default := ⟨none, 0, none, 0, [], [], false⟩
  sz := 3
  cells := Im.cs
  len := fun _ => rfl
@[reducible] def Im.val (x : Im) : Value := .agg #[.slice x.A x.ns.length x.c, .slice x.L x.ms.length x.d, .bool x.late]
/-- The three cells of an item. -/
structure ImAt (w : World) (b o : Nat) (x : Im) : Prop where
  c0 : w.cell? ⟨b, o, none⟩ = some (.slice x.A x.ns.length x.c)
  c1 : w.cell? ⟨b, o + 1, none⟩ = some (.slice x.L x.ms.length x.d)
  c2 : w.cell? ⟨b, o + 2, none⟩ = some (.bool x.late)
theorem imAt {w : World} {b o : Nat} {x : Im} (h : CellsAt w b o (Flat.cells x)) : ImAt w b o x := ⟨h 0 _ rfl, h 1 _ rfl, h 2 _ rfl⟩
theorem Lst.im {w : World} {B : Nat} {A : Option Addr} {xs : List Im} (h : Lst w B A xs) (hp : 0 < xs.length) : ∃ b o, A = some ⟨b, o, none⟩ ∧ b < B ∧ ∀ i, i < xs.length → ImAt w b (o + i * 3) (it xs i) := by
  obtain ⟨b, o, h1, h2, h3⟩ := h hp
  exact ⟨b, o, h1, h2, fun i hi => imAt (h3 i hi)⟩
theorem ImAt.below {w w' : World} {B b o : Nat} {x : Im} (h : ImAt w b o x) (hb : Below B w w') (hB : b < B) : ImAt w' b o x :=
  ⟨(hb.cell (p := ⟨b, o, none⟩) hB).trans h.c0, (hb.cell (p := ⟨b, o + 1, none⟩) hB).trans h.c1, (hb.cell (p := ⟨b, o + 2, none⟩) hB).trans h.c2⟩
/-- The slices of an item lie below B. -/
structure ImIn (w : World) (B : Nat) (x : Im) : Prop where
  ns : Lst w B x.A x.ns
  ms : Lst w B x.L x.ms
theorem ImIn.below {w w' : World} {B B' : Nat} {x : Im} (h : ImIn w B x) (hb : Below B' w w') (hB : B ≤ B') : ImIn w' B x := ⟨h.ns.below hb hB, h.ms.below hb hB⟩
theorem ImIn.up {w : World} {B B' : Nat} {x : Im} (h : ImIn w B x) (hB : B ≤ B') : ImIn w B' x := ⟨h.ns.up hB, h.ms.up hB⟩
theorem ImIn.next {w w' : World} {x : Im} (h : ImIn w w.heap.size x) (hb : Below w.heap.size w w') : ImIn w' w'.heap.size x := (h.below hb (Nat.le_refl _)).up hb.size
/-- A slice of items below B, with their slices. -/
structure Ims (w : World) (B : Nat) (P : Option Addr) (xs : List Im) : Prop where
  out : Lst w B P xs
  each : ∀ i, i < xs.length → ImIn w B (it xs i)
theorem Ims.below {w w' : World} {B B' : Nat} {P : Option Addr} {xs : List Im} (h : Ims w B P xs) (hb : Below B' w w') (hB : B ≤ B') : Ims w' B P xs := ⟨h.out.below hb hB, fun i hi => (h.each i hi).below hb hB⟩
theorem Ims.up {w : World} {B B' : Nat} {P : Option Addr} {xs : List Im} (h : Ims w B P xs) (hB : B ≤ B') : Ims w B' P xs := ⟨h.out.up hB, fun i hi => (h.each i hi).up hB⟩
theorem Ims.next {w w' : World} {P : Option Addr} {xs : List Im} (h : Ims w w.heap.size P xs) (hb : Below w.heap.size w w') : Ims w' w'.heap.size P xs := (h.below hb (Nat.le_refl _)).up hb.size
theorem Ims.nil (w : World) (B : Nat) (P : Option Addr) : Ims w B P [] := ⟨Lst.nil _ _ _, fun i hi => absurd hi (by simp)⟩
/-- What the memory can hold. -/
structure ItLen (x : Im) : Prop where
  ns : SLen x.ns
  ms : x.ms.length ≤ 9223372036854775807
structure ItFits (x : Im) : Prop where
  ns : SFits x.ns
  ms : x.ms.length ≤ 1048576
structure ImsLen (xs : List Im) : Prop where
  len : xs.length ≤ 9223372036854775807
  each : ∀ i, i < xs.length → ItLen (it xs i)
structure ImsFits (xs : List Im) : Prop where
  len : xs.length ≤ 1048576
  each : ∀ i, i < xs.length → ItFits (it xs i)

theorem below_next {w w1 w2 : World} (h : Below w.heap.size w w1) (k : Below w1.heap.size w1 w2) : Below w.heap.size w w2 := h.trans (k.mono h.size)
/-- An item in a block of its own. -/
theorem imBox (w : World) (t : TypeId) (x : Im) : ImAt (w.alloc (.cells #[.slice x.A x.ns.length x.c, .slice x.L x.ms.length x.d, .bool x.late] t)) w.heap.size 0 x := by
  constructor <;> simp

theorem szItem_any (x : Im) (left : Int) (w : World) (hr : ImIn w w.heap.size x) (hl : ItLen x) (h0 : 0 ≤ left) (h1 : left ≤ 1048576) :
    Calls Tryd.prog 45 #[x.val, .int .i64 left] w fun e w' => (∃ q : Int, e = .returned (.int .i64 q) ∧ (q < 0 ∨ 0 ≤ q ∧ q ≤ left ∧ Hid (ItFits x))) ∧ Below w.heap.size w w' := by
  have hb0 := below_alloc w (.cells #[.slice x.A x.ns.length x.c, .slice x.L x.ms.length x.d, .bool x.late] 74)
  have HR := Lib.hid (hr.next hb0)
  have hX := imBox w 74 x
  have x1 := hX.c1
  have HB0 := Lib.hid hb0
  have HL := Lib.hid hl
  clear hr hl hb0 hX
  unfold Im.val
  go_enter Tryd.func45, Tryd.ntmps45
  go_wp2_with (go_at_call 76; refine (szStringS_any x.A x.c x.ns left _ HR.out.ns HL.out.ns h0 h1).mono ?_; rintro e w2 ⟨⟨q, rfl, hq⟩, rfl⟩; have HQ := Lib.hid hq; clear hq)
  · go_ret
    exact ⟨⟨_, rfl, .inl (by omega)⟩, HB0.out⟩
  · obtain ⟨h2, h3, h4⟩ : 0 ≤ q ∧ q ≤ left ∧ Hid (SFits x.ns) := by
      rcases HQ.out with h | h
      · omega
      · exact h
    go_wp2_with (go_at_call 31; refine (szIntS_any x.L x.d x.ms _ _ HL.out.ms h2 (by omega)).mono ?_; rintro e w3 ⟨⟨p, rfl, hp⟩, rfl⟩; have HP := Lib.hid hp; clear hp)
    · go_ret
      exact ⟨⟨_, rfl, .inl (by omega)⟩, HB0.out⟩
    · go_ret
      refine ⟨⟨_, rfl, .inr ?_⟩, HB0.out⟩
      rcases HP.out with h | h
      · omega
      · exact ⟨h.1, by omega, Lib.hid ⟨h4.out, h.2.2⟩⟩

theorem szItemS_any (P : Option Addr) (c : Nat) (xs : List Im) (left : Int) (w : World) (hr : Ims w w.heap.size P xs) (hl : ImsLen xs) (h0 : 0 ≤ left) (h1 : left ≤ 1048576) :
    Calls Tryd.prog 16 #[.slice P xs.length c, .int .i64 left] w fun e w' => (∃ q : Int, e = .returned (.int .i64 q) ∧ (q < 0 ∨ 0 ≤ q ∧ q ≤ left ∧ Hid (ImsFits xs))) ∧ Below w.heap.size w w' := by
  have HR := Lib.hid hr
  have HN := Lib.hid hl.each
  have hl' := hl.len
  clear hr hl
  go_enter Tryd.func16, Tryd.ntmps16
  by_cases h : left - (xs.length : Int) < 0
  · go_wp2
    go_ret
    exact ⟨⟨_, rfl, by omega⟩, Below.refl _ _⟩
  · go_wp2
    go_loopw [1, 5] (fun q i wr => ∃ (k : Nat) (p : Int), k ≤ xs.length ∧ i = .int .i64 k ∧ q = .int .i64 p ∧ 0 ≤ p ∧ p ≤ left ∧ Hid (∀ i, i < k → ItFits (it xs i)) ∧ Below w.heap.size w wr) (fun _ i _ => xs.length - (intOf i).toNat)
    case atStart => exact ⟨0, left - (xs.length : Int), by omega, rfl, rfl, by omega, by omega, Lib.hid (fun i hi => absurd hi (by omega)), Below.refl _ _⟩
    case round =>
      obtain ⟨k, p, hk, rfl, rfl, hp0, hp1, HA, hb⟩ := hrel
      by_cases hlt : k < xs.length
      · obtain ⟨b, o, rfl, hbl, hc⟩ := HR.out.out.im (by omega)
        obtain ⟨c0, c1, c2⟩ := (hc k hlt).below hb hbl
        have HE := Lib.hid (((HR.out.each k hlt).next hb))
        have HS := Lib.hid (HN.out k hlt)
        have HB := Lib.hid hb
        clear hc hb
        go_wp2_with (go_at_call 45; refine (szItem_any (it xs k) _ _ HE.out HS.out hp0 (by omega)).mono ?_; rintro e w2 ⟨⟨q, rfl, hq⟩, hb2⟩; have HQ := Lib.hid hq; have HB2 := Lib.hid (below_next HB.out hb2); clear hq hb2)
        · go_ret
          exact ⟨⟨_, rfl, by omega⟩, HB2.out⟩
        · obtain ⟨hq0, hq1, HF⟩ : 0 ≤ q ∧ q ≤ p ∧ Hid (ItFits (it xs k)) := by
            rcases HQ.out with h | h
            · omega
            · exact h
          go_roundw
          case rel => exact ⟨k + 1, q, by omega, by go_num, rfl, hq0, by omega, Lib.hid (fun i hi => by
            rcases Nat.lt_or_ge i k with h | h
            · exact HA.out i h
            · obtain rfl : i = k := by omega
              exact HF.out), HB2.out⟩
          case measure => simp [intOf]; omega
      · obtain rfl : k = xs.length := by omega
        go_wp2
        go_ret
        exact ⟨⟨_, rfl, .inr ⟨hp0, hp1, Lib.hid ⟨by omega, HA.out⟩⟩⟩, hb⟩

/-- An item with its slices in the blocks g1 and g2. -/
def Im.cpy (x : Im) (g1 g2 : Nat) : Im := ⟨some ⟨g1, 0, none⟩, x.ns.length, some ⟨g2, 0, none⟩, x.ms.length, x.ns, x.ms, x.late⟩
/-- Three cells that may be written. -/
structure ImMem (w : World) (b : Nat) (v0 v1 v2 : Value) : Prop where
  c0 : w.cell? ⟨b, 0, none⟩ = some v0
  c1 : w.cell? ⟨b, 1, none⟩ = some v1
  c2 : w.cell? ⟨b, 2, none⟩ = some v2
  fr : ∀ j, w.frozen? ⟨b, j, none⟩ = false
theorem ImMem.below {w w' : World} {B b : Nat} {v0 v1 v2 : Value} (h : ImMem w b v0 v1 v2) (hb : Below B w w') (hB : b < B) : ImMem w' b v0 v1 v2 :=
  ⟨(hb.cell (p := ⟨b, 0, none⟩) hB).trans h.c0, (hb.cell (p := ⟨b, 1, none⟩) hB).trans h.c1, (hb.cell (p := ⟨b, 2, none⟩) hB).trans h.c2, fun j => (World.frozen?_of_block (w := w) (a := ⟨b, j, none⟩) (hb.block b hB)).trans (h.fr j)⟩
theorem imMem_new (w : World) (b : Nat) (t : TypeId) (hb : w.heap.size = b) (v0 v1 v2 : Value) : ImMem (w.alloc (.cells #[v0, v1, v2] t)) b v0 v1 v2 := by
  subst hb
  constructor <;> first | simp | (intro j; simp)
theorem ImMem.set0 {w : World} {b : Nat} {v0 v1 v2 : Value} (h : ImMem w b v0 v1 v2) (u : Value) : ImMem (w.setCell ⟨b, 0, none⟩ u) b u v1 v2 :=
  ⟨World.cell?_setCell_same w ⟨b, 0, none⟩ _ h.c0, (World.cell?_setCell_other w _ _ _ (by simp)).trans h.c1, (World.cell?_setCell_other w _ _ _ (by simp)).trans h.c2, fun j => (World.frozen?_setCell w _ _ _).trans (h.fr j)⟩
theorem ImMem.set1 {w : World} {b : Nat} {v0 v1 v2 : Value} (h : ImMem w b v0 v1 v2) (u : Value) : ImMem (w.setCell ⟨b, 1, none⟩ u) b v0 u v2 :=
  ⟨(World.cell?_setCell_other w _ _ _ (by simp)).trans h.c0, World.cell?_setCell_same w ⟨b, 1, none⟩ _ h.c1, (World.cell?_setCell_other w _ _ _ (by simp)).trans h.c2, fun j => (World.frozen?_setCell w _ _ _).trans (h.fr j)⟩
theorem ImMem.set2 {w : World} {b : Nat} {v0 v1 v2 : Value} (h : ImMem w b v0 v1 v2) (u : Value) : ImMem (w.setCell ⟨b, 2, none⟩ u) b v0 v1 u :=
  ⟨(World.cell?_setCell_other w _ _ _ (by simp)).trans h.c0, (World.cell?_setCell_other w _ _ _ (by simp)).trans h.c1, World.cell?_setCell_same w ⟨b, 2, none⟩ _ h.c2, fun j => (World.frozen?_setCell w _ _ _).trans (h.fr j)⟩
theorem ImMem.other {w : World} {b : Nat} {v0 v1 v2 : Value} (h : ImMem w b v0 v1 v2) (p : Addr) (hp : p.block ≠ b) (u : Value) : ImMem (w.setCell p u) b v0 v1 v2 := by
  have hn : ∀ j, p ≠ ⟨b, j, none⟩ := fun j e => hp (by rw [e])
  have hn' : ∀ j, (⟨b, j, none⟩ : Addr) ≠ p := fun j e => hp (by rw [← e])
  exact ⟨(World.cell?_setCell_other w _ _ _ (by first | exact hn _ | exact hn' _)).trans h.c0, (World.cell?_setCell_other w _ _ _ (by first | exact hn _ | exact hn' _)).trans h.c1, (World.cell?_setCell_other w _ _ _ (by first | exact hn _ | exact hn' _)).trans h.c2, fun j => (World.frozen?_setCell w _ _ _).trans (h.fr j)⟩
end Go.Proofs.YtnlcdfaojcnkpaaDoor

namespace Go.Proofs.YtnlcdfaojcnkpaaDoor
open Go.ChangeShapes Go.WideShapes Go.ChangeAt Go.RowKit
set_option linter.unusedVariables false

set_option maxHeartbeats 1000000 in
theorem toItem_any (x : Im) (w : World) (hr : ImIn w w.heap.size x) (hl : ItFits x) :
    Calls Tryd.prog 49 #[x.val] w fun e w' => (∃ g1 g2, e = .returned (x.cpy g1 g2).val ∧ OwnAt w' g1 0 x.ns ∧ OwnAt w' g2 0 x.ms ∧ w.heap.size ≤ g1 ∧ g1 < g2 ∧ g2 < w'.heap.size) ∧ Below w.heap.size w w' := by
  have HL := Lib.hid hl
  have HR := Lib.hid hr
  clear hr hl
  unfold Im.val
  go_enter Tryd.func49, Tryd.ntmps49
  go_wp2_with fail
  generalize hW : World.alloc (World.alloc (World.alloc w _) _) _ = W
  have hB : Below w.heap.size w W := by
    rw [← hW]
    go_grown
  have hS : W.heap.size = w.heap.size + 3 := by rw [← hW]; simp
  have hX : ImMem W w.heap.size (.slice x.A x.ns.length x.c) (.slice x.L x.ms.length x.d) (.bool x.late) := by
    rw [← hW]
    exact ((imMem_new w _ _ rfl _ _ _).below ((Below.refl _ _).alloc (Nat.le_refl _) _) (by simp)).below ((Below.refl _ _).alloc (Nat.le_refl _) _) (by simp; omega)
  have hN : ImMem W (w.heap.size + 1 + 1) (.slice none 0 0) (.slice none 0 0) (.bool false) := by
    rw [← hW]
    exact imMem_new _ _ _ (by simp) _ _ _
  have hM : ImMem W (w.heap.size + 1) (.slice none 0 0) (.slice none 0 0) (.bool false) := by
    rw [← hW]
    exact (imMem_new _ _ _ (by simp) _ _ _).below ((Below.refl _ _).alloc (Nat.le_refl _) _) (by simp)
  clear hW
  have h1 := toStringS_any x.A x.c x.ns W ((HR.out.ns.below hB (Nat.le_refl _)).up hB.size) HL.out.ns.1
  rw [hS] at h1
  refine h1.mono ?_
  rintro e w4 ⟨rfl, ho4, hs4, hb4⟩
  have hM4 := hM.below hb4 (by omega)
  have hX4 := hX.below hb4 (by omega)
  have hN4 := hN.below hb4 (by omega)
  have HN5 := Lib.hid (hN4.set0 (.slice (some ⟨w.heap.size + 3, 0, none⟩) x.ns.length x.ns.length))
  have HM5 := Lib.hid (hM4.other ⟨w.heap.size + 1 + 1, 0, none⟩ (by simp) (.slice (some ⟨w.heap.size + 3, 0, none⟩) x.ns.length x.ns.length))
  have HX5 := Lib.hid (hX4.other ⟨w.heap.size + 1 + 1, 0, none⟩ (by simp; omega) (.slice (some ⟨w.heap.size + 3, 0, none⟩) x.ns.length x.ns.length))
  obtain ⟨n0, n1, n2, nf⟩ := hN4
  have m1 := hX4.c1
  have HB5 := Lib.hid (show Below w.heap.size w (w4.setCell ⟨w.heap.size + 1 + 1, 0, none⟩ (.slice (some ⟨w.heap.size + 3, 0, none⟩) x.ns.length x.ns.length)) from (hB.trans (hb4.mono (by omega))).setCell (by simp; omega) _)
  have HO5 := Lib.hid (show OwnAt (w4.setCell ⟨w.heap.size + 1 + 1, 0, none⟩ (.slice (some ⟨w.heap.size + 3, 0, none⟩) x.ns.length x.ns.length)) (w.heap.size + 3) 0 x.ns from ho4.block (Below.heap_setCell _ _ _ _ (by simp)))
  clear hM4 hX4 hM hX hN hb4 ho4 h1 hB
  go_wp2_with fail
  have hs5 : (w4.setCell ⟨w.heap.size + 1 + 1, 0, none⟩ (.slice (some ⟨w.heap.size + 3, 0, none⟩) x.ns.length x.ns.length)).heap.size = w4.heap.size := by simp [World.setCell]
  revert HN5 HM5 HX5 HB5 HO5
  generalize World.setCell w4 _ _ = w5 at hs5 ⊢
  intro HN5 HM5 HX5 HB5 HO5
  clear n0 n1 n2 nf m1
  refine (toIntS_any x.L x.d x.ms w5 ((HR.out.ms.below HB5.out (Nat.le_refl _)).up HB5.out.size) HL.out.ms).mono ?_
  rintro e w6 ⟨rfl, ho6, hs6, hb6⟩
  have HN6 := Lib.hid (HN5.out.below hb6 (by omega))
  have HM6 := Lib.hid (HM5.out.below hb6 (by omega))
  have HX6 := Lib.hid (HX5.out.below hb6 (by omega))
  have HO6 := Lib.hid ho6
  have HE6 := Lib.hid (HO5.out.block (hb6.block _ (by omega)))
  have HB6 := Lib.hid (HB5.out.trans (hb6.mono (by omega)))
  have q3 : Hid (w.heap.size + 1 + 1 < w6.heap.size ∧ w.heap.size + 3 < w5.heap.size ∧ w5.heap.size < w6.heap.size) := Lib.hid (by omega)
  clear hb6 ho6 HN5 HM5 HX5 HB5 HO5 hs4 hS HR HL hs5
  generalize hg2 : w5.heap.size = g2 at HO6 q3 hs6 ⊢
  generalize hg1 : w.heap.size + 3 = g1 at HN6 HE6 q3 ⊢
  generalize hq2 : w.heap.size + 1 + 1 = b2 at HN6 q3 ⊢
  generalize hq1 : w.heap.size + 1 = b1 at HM6 ⊢
  generalize hq0 : w.heap.size = b0 at HX6 ⊢
  have q0 := Lib.hid hq0
  have q1 : Hid (b0 + 1 = b1) := Lib.hid (by omega)
  have q2 : Hid (b0 + 1 + 1 = b2) := Lib.hid (by omega)
  have q4 : Hid (b0 + 3 = g1) := Lib.hid (by omega)
  have e1 : (b0 = b2) = False := by simp; omega
  have e2 : (b1 = b2) = False := by simp; omega
  have e3 : (b2 = b1) = False := by simp; omega
  have e4 : (b2 = b0) = False := by simp; omega
  clear hq0 hq1 hq2 hg1 hg2 hs6
  obtain ⟨n0, n1, n2, nf⟩ := HN6.out
  obtain ⟨m0, m1, m2, mf⟩ := HM6.out
  have x2 := HX6.out.c2
  go_wp2_with fail
  generalize hw8 : (World.setCell (World.setCell (World.setCell (World.setCell (World.setCell w6 _ _) _ _) _ _) _ _) _ _) = w8
  have hn8 : ImMem w8 b1 (.slice (some ⟨g1, 0, none⟩) x.ns.length x.ns.length) (.slice (some ⟨g2, 0, none⟩) x.ms.length x.ms.length) (.bool x.late) := by
    have hq : b2 ≠ b1 := by rw [Ne, e3]; simp
    rw [← hw8]
    exact ((((HM6.out.other _ hq _).other _ hq _).set0 _).set1 _).set2 _
  have ht : Only (fun i => i = b1 ∨ i = b2) w6 w8 := by
    rw [← hw8]
    exact (((((Only.refl _ w6).put b2 1 (.inr rfl) _).put b2 2 (.inr rfl) _).put b1 0 (.inl rfl) _).put b1 1 (.inl rfl) _).put b1 2 (.inl rfl) _
  clear hw8 n0 n1 n2 nf m0 m1 m2 mf x2
  obtain ⟨m0, m1, m2, mf⟩ := hn8
  have hq := q0.out
  have h1 := q1.out
  have h2 := q2.out
  have h4 := q4.out
  obtain ⟨h3, h5, h6⟩ := q3.out
  refine bodyPost_ret (v := .agg #[.slice (some ⟨g1, 0, none⟩) x.ns.length x.ns.length, .slice (some ⟨g2, 0, none⟩) x.ms.length x.ms.length, .bool x.late]) (by simp [results, Tryd.results49, go_sem, m0, m1, m2]) rfl ?_
  refine ⟨⟨g1, g2, rfl, HE6.out.block (ht.block _ (by omega) (by omega)), HO6.out.block (ht.block _ (by omega) (by omega)), by omega, by omega, ?_⟩, HB6.out.trans (ht.below (by have := HB6.out.size; omega) (by omega))⟩
  exact Nat.lt_of_lt_of_le h6 ht.size

/-- The three cells of an item that may be written. -/
structure ImOwn (w : World) (b o : Nat) (x : Im) : Prop extends ImAt w b o x where
  f0 : w.frozen? ⟨b, o, none⟩ = false
  f1 : w.frozen? ⟨b, o + 1, none⟩ = false
  f2 : w.frozen? ⟨b, o + 2, none⟩ = false
theorem OwnAt.im0 {w : World} {g : Nat} {xs : List Im} (h : OwnAt w g 0 xs) (i : Nat) (hi : i < xs.length) : ImOwn w g (i * 3) (it xs i) := by
  have h1 := h.cell i hi
  have h2 := fun j => h.free i j hi
  rw [Nat.zero_add] at h1 h2
  exact ⟨imAt h1, h2 0 (by decide), h2 1 (by decide), h2 2 (by decide)⟩
theorem OwnAt.im {w : World} {g o : Nat} {xs : List Im} (h : OwnAt w g o xs) (i : Nat) (hi : i < xs.length) : ImOwn w g (o + i * 3) (it xs i) := by
  have h1 := h.cell i hi
  have h2 := fun j => h.free i j hi
  exact ⟨imAt h1, h2 0 (by decide), h2 1 (by decide), h2 2 (by decide)⟩

/-- The items xs, with their slices in blocks of their own. -/
def Cpy (xs : List Im) (G : Nat → Nat) (k : Nat) (ys : List Im) : Prop := ∀ i, i < k → it ys i = (it xs i).cpy (G (2 * i)) (G (2 * i + 1))
/-- Different blocks from B on, below T. -/
structure Apart (G : Nat → Nat) (B T n : Nat) : Prop where
  lo : ∀ i, i < n → B ≤ G i
  hi : ∀ i, i < n → G i < T
  ne : ∀ i j, i < j → j < n → G i ≠ G j
/-- The slices of the first k items. -/
structure OwnTo (w : World) (xs : List Im) (G : Nat → Nat) (k : Nat) : Prop where
  ns : ∀ i, i < k → OwnAt w (G (2 * i)) 0 (it xs i).ns
  ms : ∀ i, i < k → OwnAt w (G (2 * i + 1)) 0 (it xs i).ms
theorem OwnTo.keep {w w' : World} {xs : List Im} {G : Nat → Nat} {k : Nat} {S : Nat → Prop} (h : OwnTo w xs G k) (ho : Only S w w') (hlt : ∀ i, i < 2 * k → G i < w.heap.size) (hs : ∀ i, i < 2 * k → ¬ S (G i)) : OwnTo w' xs G k :=
  ⟨fun i hi => (h.ns i hi).block (ho.block _ (hlt _ (by omega)) (hs _ (by omega))), fun i hi => (h.ms i hi).block (ho.block _ (hlt _ (by omega)) (hs _ (by omega)))⟩
/-- Two more blocks. -/
def grow2 (G : Nat → Nat) (k g1 g2 : Nat) : Nat → Nat := fun i => if i < 2 * k then G i else if i = 2 * k then g1 else g2
theorem grow2_lt {G : Nat → Nat} {k g1 g2 i : Nat} (h : i < 2 * k) : grow2 G k g1 g2 i = G i := by simp [grow2, h]
theorem grow2_0 (G : Nat → Nat) (k g1 g2 : Nat) : grow2 G k g1 g2 (2 * k) = g1 := by simp [grow2]
theorem grow2_1 (G : Nat → Nat) (k g1 g2 : Nat) : grow2 G k g1 g2 (2 * k + 1) = g2 := by
  unfold grow2
  rw [if_neg (by omega), if_neg (by omega)]
theorem Apart.grow {G : Nat → Nat} {B T T' k g1 g2 : Nat} (h : Apart G B T (2 * k)) (hB : B ≤ T) (h1 : T ≤ g1) (h2 : g1 < g2) (h3 : g2 < T') : Apart (grow2 G k g1 g2) B T' (2 * (k + 1)) := by
  have hv : ∀ i, i < 2 * (k + 1) → (i < 2 * k ∧ grow2 G k g1 g2 i = G i) ∨ (i = 2 * k ∧ grow2 G k g1 g2 i = g1) ∨ (i = 2 * k + 1 ∧ grow2 G k g1 g2 i = g2) := fun i hi => by
    rcases Nat.lt_trichotomy i (2 * k) with h | h | h
    · exact .inl ⟨h, grow2_lt h⟩
    · exact .inr (.inl ⟨h, h ▸ grow2_0 G k g1 g2⟩)
    · obtain rfl : i = 2 * k + 1 := by omega
      exact .inr (.inr ⟨rfl, grow2_1 G k g1 g2⟩)
  refine ⟨fun i hi => ?_, fun i hi => ?_, fun i j hij hj => ?_⟩
  · rcases hv i hi with ⟨a, e⟩ | ⟨a, e⟩ | ⟨a, e⟩ <;> rw [e]
    · exact h.lo i a
    · omega
    · omega
  · rcases hv i hi with ⟨a, e⟩ | ⟨a, e⟩ | ⟨a, e⟩ <;> rw [e]
    · have := h.hi i a
      omega
    · omega
    · omega
  · rcases hv j hj with ⟨a, e⟩ | ⟨a, e⟩ | ⟨a, e⟩ <;> rcases hv i (by omega) with ⟨a', e'⟩ | ⟨a', e'⟩ | ⟨a', e'⟩ <;> rw [e, e']
    · exact h.ne i j hij a
    · omega
    · omega
    · have := h.hi i a'
      omega
    · omega
    · omega
    · have := h.hi i a'
      omega
    · omega
    · omega
theorem Apart.up {G : Nat → Nat} {B T T' n : Nat} (h : Apart G B T n) (hT : T ≤ T') : Apart G B T' n := ⟨h.lo, fun i hi => Nat.lt_of_lt_of_le (h.hi i hi) hT, h.ne⟩
theorem OwnTo.grow {w : World} {xs : List Im} {G : Nat → Nat} {k g1 g2 : Nat} (h : OwnTo w xs G k) (h1 : OwnAt w g1 0 (it xs k).ns) (h2 : OwnAt w g2 0 (it xs k).ms) : OwnTo w xs (grow2 G k g1 g2) (k + 1) := by
  refine ⟨fun i hi => ?_, fun i hi => ?_⟩
  · rcases Nat.lt_or_ge i k with h' | h'
    · rw [grow2_lt (by omega)]
      exact h.ns i h'
    · obtain rfl : i = k := by omega
      rw [grow2_0]
      exact h1
  · rcases Nat.lt_or_ge i k with h' | h'
    · rw [grow2_lt (by omega)]
      exact h.ms i h'
    · obtain rfl : i = k := by omega
      rw [grow2_1]
      exact h2
theorem Cpy.grow {xs ys : List Im} {G : Nat → Nat} {k g1 g2 : Nat} (h : Cpy xs G k ys) (hk : k < ys.length) : Cpy xs (grow2 G k g1 g2) (k + 1) (ys.set k ((it xs k).cpy g1 g2)) := fun i hi => by
  rw [it_set _ _ _ _ hk]
  by_cases e : i = k
  · subst e
    rw [if_pos rfl, grow2_0, grow2_1]
  · rw [if_neg e, grow2_lt (by omega), grow2_lt (by omega)]
    exact h i (by omega)

theorem Tryd.infoIm : (Tryd.prog.info? 76).map (fun i => (i.zero, i.size, i.bytes)) = some (some (.agg #[.slice none 0 0, .slice none 0 0, .bool false]), 3, 56) := by kernel_rfl
set_option maxHeartbeats 1000000 in
theorem toItemS_any (P : Option Addr) (c : Nat) (xs : List Im) (w : World) (hr : Ims w w.heap.size P xs) (hl : ImsFits xs) :
    Calls Tryd.prog 18 #[.slice P xs.length c] w fun e w' => e = .returned (.slice (some ⟨w.heap.size, 0, none⟩) xs.length xs.length) ∧ (∃ ys G, ys.length = xs.length ∧ OwnAt w' w.heap.size 0 ys ∧ Cpy xs G xs.length ys ∧ OwnTo w' xs G xs.length ∧ Apart G (w.heap.size + 1) w'.heap.size (2 * xs.length)) ∧ w.heap.size < w'.heap.size ∧ Below w.heap.size w w' := by
  have HR := Lib.hid hr
  have HF := Lib.hid hl.each
  have hl' := hl.len
  clear hr hl
  obtain ⟨i0, hi, hz0, hz1, hz2⟩ := info_parts Tryd.infoIm
  have HZ := Lib.hid (made_flat (α := Im) #[.slice none 0 0, .slice none 0 0, .bool false] default xs.length rfl (by decide))
  go_enter Tryd.func18, Tryd.ntmps18
  go_wp2_with (at_make; refine wpList_make_full _ rfl (.tmp 6) (.tmp 6) 43 rfl w.heap.size 76 i0 (.agg #[.slice none 0 0, .slice none 0 0, .bool false]) 3 Tryd.underlying43 hi hz0 hz1 .i64 .i64 _ _ xs.length rfl rfl rfl rfl (by rw [hz2]; omega) (by unfold maxLen; omega) (Nat.le_refl _) ?_; intro w1 hown hgrow)
  have HW := Lib.hid (show OwnAt w1 w.heap.size 0 (List.replicate xs.length (default : Im)) from own_of_row (α := Im) (cap := xs.length) (e := 76) (base := w.heap.size) _ (by rw [← HZ.out, List.length_replicate]; exact hown))
  have hb1 : Below w.heap.size w w1 := (Below.refl _ _).grown hgrow (Nat.le_refl _) (fun k e => by cases e)
  have hs1 := (hown.lt w.heap.size rfl).2
  have HB1 := Lib.hid hb1
  clear hown hgrow hb1
  go_loopw [4] (fun i wr => ∃ (k : Nat) (ys : List Im) (G : Nat → Nat), k ≤ xs.length ∧ i = .int .i64 k ∧ ys.length = xs.length ∧ Hid (Cpy xs G k ys) ∧ Hid (OwnAt wr w.heap.size 0 ys) ∧ Hid (OwnTo wr xs G k) ∧ Hid (Apart G (w.heap.size + 1) wr.heap.size (2 * k)) ∧ w.heap.size < wr.heap.size ∧ Below w.heap.size w wr) (fun i _ => xs.length - (intOf i).toNat)
  case atStart => exact ⟨0, _, fun _ => 0, Nat.zero_le _, rfl, by rw [List.length_replicate], Lib.hid (fun i hi => absurd hi (by omega)), HW, Lib.hid ⟨fun i hi => absurd hi (by omega), fun i hi => absurd hi (by omega)⟩, Lib.hid ⟨fun i hi => absurd hi (by omega), fun i hi => absurd hi (by omega), fun i j h hi => absurd hi (by omega)⟩, hs1, HB1.out⟩
  case round =>
    obtain ⟨k, ys, G, hk, rfl, hy, HC, HO, HT, HA, hs, hb⟩ := hrel
    by_cases hlt : k < xs.length
    · obtain ⟨b, o, rfl, hbl, hc⟩ := HR.out.out.im (by omega)
      obtain ⟨c0, c1, c2⟩ := (hc k hlt).below hb hbl
      have HE := Lib.hid ((HR.out.each k hlt).next hb)
      have HB := Lib.hid hb
      clear hc hb
      go_wp2_with (go_at_call 49; refine (toItem_any (it xs k) _ HE.out (HF.out k hlt)).mono ?_; rintro e w2 ⟨⟨g1, g2, rfl, ho1, ho2, l1, l2, l3⟩, hb2⟩; have HO2 := Lib.hid (HO.out.block (hb2.block _ hs)); have HT2 := Lib.hid ((HT.out.keep (S := fun _ => False) (Only.of_below hb2 (Nat.le_refl _)) (fun i hi => HA.out.hi i hi) (fun _ _ h => h)).grow ho1 ho2); have HA2 := Lib.hid (HA.out.grow (by omega) l1 l2 l3); have HC2 := Lib.hid (HC.out.grow (g1 := g1) (g2 := g2) (by omega)); have hs2 := Nat.lt_of_lt_of_le hs hb2.size; have HB2 := Lib.hid (below_next HB.out hb2); obtain ⟨⟨d0, d1, d2⟩, f0, f1, f2⟩ := HO2.out.im0 k (by omega); clear hb2 ho1 ho2; unfold Im.val Im.cpy)
      have HP := Lib.hid (HO2.out.put k ((it xs k).cpy g1 g2) (by omega))
      have HN := Lib.hid (putAt_only (S := fun i => i = w.heap.size) rfl (0 + k * 3) (Flat.cells ((it xs k).cpy g1 g2)) w2 w2 0 (Only.refl _ _))
      rw [Nat.zero_add] at HP HN
      go_roundw
      case rel => exact ⟨k + 1, _, grow2 G k g1 g2, by omega, by go_num, by rw [List.length_set]; exact hy, HC2, HP, Lib.hid (HT2.out.keep HN.out (fun i hi => HA2.out.hi i hi) (fun i hi e => by have := HA2.out.lo i hi; omega)), Lib.hid (HA2.out.up HN.out.size), by simpa [World.setCell] using hs2, HB2.out.trans (HN.out.below (by omega) (fun k e => Nat.le_of_eq e.symm))⟩
      case measure => simp [intOf]; omega
    · obtain rfl : k = xs.length := by omega
      go_wp2
      go_ret
      exact ⟨rfl, ⟨ys, G, hy, HO.out, HC.out, HT.out, HA.out⟩, hs, hb⟩
end Go.Proofs.YtnlcdfaojcnkpaaDoor

namespace Go.Proofs.YtnlcdfaojcnkpaaDoor
open Go.ChangeShapes Go.WideShapes Go.ChangeAt Go.RowKit
set_option linter.unusedVariables false

theorem below_drewN (w : World) (n : Nat) : Below w.heap.size w (w.drewN n) := ⟨rfl, rfl, rfl, Nat.le_refl _, fun _ _ => rfl⟩
theorem below_drew (w : World) : Below w.heap.size w w.drew := (Below.refl _ _).drew
theorem eqStringS_b (A A' : Option Addr) (c c' : Nat) (xs : List ByteArray) (w : World) (hr : Lst w w.heap.size A xs) (hr' : Lst w w.heap.size A' xs) (hl : xs.length ≤ 1048576) :
    Calls Tryd.prog 87 #[.slice A xs.length c, .slice A' xs.length c'] w fun e w' => e = .returned (.bool true) ∧ Below w.heap.size w w' :=
  (eqStringS_yes A A' c c' xs w hr hr' hl).mono (by rintro e w' ⟨rfl, n, rfl⟩; exact ⟨rfl, below_drewN _ _⟩)
/-- The same item, wherever it lies. -/
structure Same (x y : Im) : Prop where
  ns : y.ns = x.ns
  ms : y.ms = x.ms
  late : y.late = x.late
theorem Same.refl (x : Im) : Same x x := ⟨rfl, rfl, rfl⟩
theorem Same.symm {x y : Im} (h : Same x y) : Same y x := ⟨h.ns.symm, h.ms.symm, h.late.symm⟩
theorem Same.trans {x y z : Im} (h : Same x y) (k : Same y z) : Same x z := ⟨k.ns.trans h.ns, k.ms.trans h.ms, k.late.trans h.late⟩
theorem Same.fits {x y : Im} (h : Same x y) (k : ItFits x) : ItFits y := ⟨h.ns ▸ k.ns, h.ms ▸ k.ms⟩
theorem same_cpy (x : Im) (g1 g2 : Nat) : Same x (x.cpy g1 g2) := ⟨rfl, rfl, rfl⟩
/-- The same list, wherever it lies. -/
structure SameS (xs ys : List Im) : Prop where
  len : ys.length = xs.length
  each : ∀ i, i < xs.length → Same (it xs i) (it ys i)
theorem SameS.refl (xs : List Im) : SameS xs xs := ⟨rfl, fun _ _ => Same.refl _⟩
theorem SameS.symm {xs ys : List Im} (h : SameS xs ys) : SameS ys xs := ⟨h.len.symm, fun i hi => (h.each i (by have := h.len; omega)).symm⟩
theorem SameS.trans {xs ys zs : List Im} (h : SameS xs ys) (k : SameS ys zs) : SameS xs zs := ⟨k.len.trans h.len, fun i hi => (h.each i hi).trans (k.each i (by have := h.len; omega))⟩
theorem SameS.fits {xs ys : List Im} (h : SameS xs ys) (k : ImsFits xs) : ImsFits ys := ⟨by have := h.len; have := k.len; omega, fun i hi => (h.each i (by have := h.len; omega)).fits (k.each i (by have := h.len; omega))⟩

theorem eqItem_yes (x y : Im) (w : World) (hs : Same x y) (hx : ImIn w w.heap.size x) (hy : ImIn w w.heap.size y) (hl : ItFits x) :
    Calls Tryd.prog 53 #[x.val, y.val] w fun e w' => e = .returned (.bool true) ∧ Below w.heap.size w w' := by
  obtain ⟨A, c, L, d, ns, ms, lt⟩ := x
  obtain ⟨A', c', L', d', ns', ms', lt'⟩ := y
  obtain ⟨h1, h2, h3⟩ := hs
  simp only at h1 h2 h3
  subst h1 h2 h3
  have HR := Lib.hid hx
  have HR' := Lib.hid hy
  have HL := Lib.hid hl
  clear hx hy hl
  unfold Im.val
  go_enter Tryd.func53, Tryd.ntmps53
  go_wp2_with fail
  generalize hW : World.alloc (World.alloc w _) _ = W
  have hB : Below w.heap.size w W := by
    rw [← hW]
    go_grown
  have hS : W.heap.size = w.heap.size + 2 := by rw [← hW]; simp
  have hX : ImMem W w.heap.size (.slice A ns'.length c) (.slice L ms'.length d) (.bool lt') := by
    rw [← hW]
    exact (imMem_new w _ _ rfl _ _ _).below ((Below.refl _ _).alloc (Nat.le_refl _) _) (by simp)
  have hY : ImMem W (w.heap.size + 1) (.slice A' ns'.length c') (.slice L' ms'.length d') (.bool lt') := by
    rw [← hW]
    exact imMem_new _ _ _ (by simp) _ _ _
  clear hW
  refine (eqStringS_b A A' c c' ns' W (HR.out.next hB).ns (HR'.out.next hB).ns HL.out.ns.1).mono ?_
  rintro e w2 ⟨rfl, hb2⟩
  have HB2 := Lib.hid (below_next hB hb2)
  have hX2 := hX.below hb2 (by omega)
  have hY2 := hY.below hb2 (by omega)
  have x1 := hX2.c1
  have y1 := hY2.c1
  have HX := Lib.hid hX2
  have HY := Lib.hid hY2
  have hs2 := hb2.size
  clear hX hY hX2 hY2 hB hb2
  go_wp2_with (go_at_call 20; refine (eqIntS_b L L' d d' ms' _ (HR.out.next HB2.out).ms (HR'.out.next HB2.out).ms HL.out.ms).mono ?_; rintro e w3 ⟨rfl, hb3⟩; have x2 := (HX.out.below hb3 (by omega)).c2; have y2 := (HY.out.below hb3 (by omega)).c2; have HB3 := Lib.hid (below_next HB2.out hb3); clear hb3)
  go_ret
  exact ⟨rfl, HB3.out⟩

theorem eqItem_i (x y : Im) (vx vy : Value) (w : World) (ex : vx = x.val) (ey : vy = y.val) (hs : Same x y) (hx : ImIn w w.heap.size x) (hy : ImIn w w.heap.size y) (hl : ItFits x) :
    Calls Tryd.prog 53 #[vx, vy] w fun e w' => e = .returned (.bool true) ∧ Below w.heap.size w w' := by
  subst ex ey
  exact eqItem_yes x y w hs hx hy hl
theorem eqItemS_yes (P P' : Option Addr) (c c' : Nat) (xs ys : List Im) (w : World) (hs : SameS xs ys) (hr : Ims w w.heap.size P xs) (hr' : Ims w w.heap.size P' ys) (hl : ImsFits xs) :
    Calls Tryd.prog 21 #[.slice P xs.length c, .slice P' xs.length c'] w fun e w' => e = .returned (.bool true) ∧ Below w.heap.size w w' := by
  have HR := Lib.hid hr
  have HR' := Lib.hid hr'
  have HF := Lib.hid hl.each
  have hl' := hl.len
  have HS := Lib.hid hs.each
  have HY := Lib.hid hs.len
  clear hr hr' hl hs
  go_enter Tryd.func21, Tryd.ntmps21
  go_wp2
  go_loopw [5] (fun i wr => ∃ k : Nat, k ≤ xs.length ∧ i = .int .i64 k ∧ Below w.heap.size w wr) (fun i _ => xs.length - (intOf i).toNat)
  case atStart => exact ⟨0, Nat.zero_le _, rfl, Below.refl _ _⟩
  case round =>
    obtain ⟨k, hk, rfl, hb⟩ := hrel
    by_cases hlt : k < xs.length
    · obtain ⟨b, o, rfl, hbl, hc⟩ := HR.out.out.im (by omega)
      obtain ⟨b', o', rfl, hbl', hc'⟩ := HR'.out.out.im (by have := HY.out; omega)
      obtain ⟨c0, c1, c2⟩ := (hc k hlt).below hb hbl
      obtain ⟨d0, d1, d2⟩ := (hc' k (by have := HY.out; omega)).below hb hbl'
      have hi1 : (0 : Int) ≤ (k : Int) := by omega
      have hi2 : (k : Int) < (xs.length : Int) := by omega
      have HE := Lib.hid ((HR.out.each k hlt).next hb)
      have HE' := Lib.hid ((HR'.out.each k (by have := HY.out; omega)).next hb)
      have HK := Lib.hid (HS.out k hlt)
      have HL := Lib.hid (HF.out k hlt)
      have HB := Lib.hid hb
      clear hc hc' hb
      go_wp2
      go_region_with (go_at_call 53; (with_reducible refine (eqItem_yes (it xs k) (it ys k) _ HK.out (HE.out.next (below_drew _)) (HE'.out.next (below_drew _)) HL.out).mono ?_); rintro e w1 ⟨rfl, hb1⟩)
      all_goals
        have HB1 := Lib.hid (HB.out.trans ((Below.refl _ _).drew.trans (hb1.mono (by exact HB.out.size))))
        clear hb1
        go_simp
        go_wp2
        go_roundw
        case rel => exact ⟨k + 1, by omega, by go_num, HB1.out⟩
        case measure => simp [intOf]; omega
    · go_wp2
      go_ret
      exact ⟨rfl, hb⟩
end Go.Proofs.YtnlcdfaojcnkpaaDoor

namespace Go.Proofs.YtnlcdfaojcnkpaaDoor
open Go.ChangeShapes Go.WideShapes Go.ChangeAt Go.RowKit Go.PlainAid
set_option linter.unusedVariables false

theorem itByte_yes (v : Int) (w : World) (h : LetOk v) :
    Calls Tryd.prog 145 #[.int .u8 v] w fun e w' => e = .returned (.bool true) ∧ w = w' := by
  rcases h with ⟨h1, h2⟩ | ⟨h1, h2⟩ <;>
    (go_enter Tryd.func145, Tryd.ntmps145
     go_wp2
     go_ret
     exact ⟨by first | rfl | (simp; omega) | simp, rfl⟩)
theorem itByte_no (v : Int) (w : World) (h : ¬ LetOk v) :
    Calls Tryd.prog 145 #[.int .u8 v] w fun e w' => e = .returned (.bool false) ∧ w = w' := by
  unfold LetOk at h
  rcases letOk_cases v with (h1 | ⟨h1, h2⟩ | h1) | h1 | h1
  · go_enter Tryd.func145, Tryd.ntmps145
    go_wp2
    go_ret
    exact ⟨by first | rfl | (simp; omega) | simp, rfl⟩
  · go_enter Tryd.func145, Tryd.ntmps145
    go_wp2
    go_ret
    exact ⟨by first | rfl | (simp; omega) | simp, rfl⟩
  · go_enter Tryd.func145, Tryd.ntmps145
    go_wp2
    go_ret
    exact ⟨by first | rfl | (simp; omega) | simp, rfl⟩
  · omega
  · omega
theorem itName_any (s : ByteArray) (w : World) (hs : s.size ≤ 1048576) :
    Calls Tryd.prog 124 #[.string s] w fun e w' => e = .returned (.bool (pB (NameOk s))) ∧ w = w' := by
  have hbt := get_bt s
  go_enter Tryd.func124, Tryd.ntmps124
  go_wp2
  go_loop [3] (fun i => ∃ k : Nat, k ≤ s.size ∧ i = .int .i64 k ∧ Hid (∀ j, j < k → LetOk (bt s j))) (fun i => s.size - (intOf i).toNat)
  case atStart => exact ⟨0, Nat.zero_le _, rfl, Lib.hid (fun j hj => absurd hj (by omega))⟩
  case round =>
    obtain ⟨k, hk, rfl, HI⟩ := hrel
    by_cases hlt : k < s.size
    · have q1 : (0 : Int) ≤ (k : Int) := by omega
      have q2 : (k : Int) < (s.size : Int) := by omega
      by_cases h : LetOk (bt s k)
      · have HL := Lib.hid h
        clear h
        go_wp2_with (go_at_call 145; refine (itByte_yes _ _ HL.out).mono ?_; rintro e w' ⟨rfl, rfl⟩)
        go_round
        case rel => exact ⟨k + 1, by omega, by go_num, Lib.hid (fun j hj => by
          rcases Nat.lt_or_ge j k with h1 | h1
          · exact HI.out j h1
          · obtain rfl : j = k := by omega
            exact HL.out)⟩
        case measure => simp [intOf]; omega
      · have HV := Lib.hid (pB_no (fun h2 : NameOk s => h (h2.byte k hlt)))
        have HL := Lib.hid h
        clear h
        go_wp2_with (go_at_call 145; refine (itByte_no _ _ HL.out).mono ?_; rintro e w' ⟨rfl, rfl⟩)
        go_ret
        exact ⟨by rw [HV.out]; rfl, rfl⟩
    · obtain rfl : k = s.size := by omega
      by_cases h : 1 ≤ s.size ∧ s.size ≤ 5
      · obtain ⟨h1, h2⟩ := h
        have HV := Lib.hid (pB_yes (⟨h1, h2, HI.out⟩ : NameOk s))
        go_wp2_with (go_at_call 63; refine (l1In_yes _ _ _ _ (by omega) (by omega)).mono ?_; rintro e w' ⟨rfl, rfl⟩)
        go_ret
        exact ⟨by rw [HV.out]; rfl, rfl⟩
      · have HV := Lib.hid (pB_no (fun h' : NameOk s => h ⟨h'.lo, h'.hi⟩))
        go_wp2_with (go_at_call 63; refine (l1In_no _ _ _ _ (by omega)).mono ?_; rintro e w' ⟨rfl, rfl⟩)
        go_ret
        exact ⟨by rw [HV.out]; rfl, rfl⟩

theorem iElName_any (s : ByteArray) (w : World) (hs : s.size ≤ 1048576) :
    Calls Tryd.prog 117 #[.string s] w fun e w' => e = .returned (.bool (pB (NameOk s))) ∧ w = w' := by
  by_cases h : 1 ≤ s.size ∧ s.size ≤ 5
  · obtain ⟨h1, h2⟩ := h
    have hbt := get_bt s
    go_enter Tryd.func117, Tryd.ntmps117
    go_wp2
    go_loop [14] (fun i => ∃ k : Nat, k ≤ s.size ∧ i = .int .i64 k ∧ Hid (∀ j, j < k → LetOk (bt s j))) (fun i => s.size - (intOf i).toNat)
    case atStart => exact ⟨0, Nat.zero_le _, rfl, Lib.hid (fun j hj => absurd hj (by omega))⟩
    case round =>
      obtain ⟨k, hk, rfl, HI⟩ := hrel
      by_cases hlt : k < s.size
      · have q1 : (0 : Int) ≤ (k : Int) := by omega
        have q2 : (k : Int) < (s.size : Int) := by omega
        by_cases h : LetOk (bt s k)
        · have HL := Lib.hid h
          clear h
          go_wp2_with (go_at_call 133; refine (isNameByte_yes _ _ HL.out).mono ?_; rintro e w' ⟨rfl, rfl⟩)
          go_round
          case rel => exact ⟨k + 1, by omega, by go_num, Lib.hid (fun j hj => by
            rcases Nat.lt_or_ge j k with h1 | h1
            · exact HI.out j h1
            · obtain rfl : j = k := by omega
              exact HL.out)⟩
          case measure => simp [intOf]; omega
        · have HV := Lib.hid (pB_no (fun h2 : NameOk s => h (h2.byte k hlt)))
          have HL := Lib.hid h
          clear h
          go_wp2_with (go_at_call 133; refine (isNameByte_no _ _ HL.out).mono ?_; rintro e w' ⟨rfl, rfl⟩)
          go_ret
          exact ⟨by rw [HV.out]; rfl, rfl⟩
      · obtain rfl : k = s.size := by omega
        have HV := Lib.hid (pB_yes (⟨h1, h2, HI.out⟩ : NameOk s))
        go_wp2
        go_ret
        exact ⟨by rw [HV.out]; rfl, rfl⟩
  · have HV := Lib.hid (pB_no (fun h' : NameOk s => h ⟨h'.lo, h'.hi⟩))
    by_cases h1 : 1 ≤ s.size
    · have h2 : 5 < s.size := by omega
      go_enter Tryd.func117, Tryd.ntmps117
      go_wp2
      go_ret
      exact ⟨by rw [HV.out]; rfl, rfl⟩
    · have h2 : s.size < 1 := by omega
      go_enter Tryd.func117, Tryd.ntmps117
      go_wp2
      go_ret
      exact ⟨by rw [HV.out]; rfl, rfl⟩
theorem iIsName_any (s : ByteArray) (w : World) (hs : s.size ≤ 1048576) :
    Calls Tryd.prog 127 #[.string s] w fun e w' => e = .returned (.bool (pB (NameOk s))) ∧ w = w' := by
  go_enter Tryd.func127, Tryd.ntmps127
  go_wp2_with (go_at_call 117; refine (iElName_any _ _ hs).mono ?_; rintro e w' ⟨rfl, rfl⟩)
  go_ret
  exact ⟨rfl, rfl⟩

end Go.Proofs.YtnlcdfaojcnkpaaDoor

namespace Go.Proofs.YtnlcdfaojcnkpaaDoor
open Go.ChangeShapes Go.WideShapes Go.ChangeAt Go.RowKit
set_option linter.unusedVariables false

def MkOk (v : Int) : Prop := 0 ≤ v ∧ v ≤ 3
structure ItOk (ns : List ByteArray) (ms : List Int) : Prop where
  lo : 1 ≤ ns.length
  hi : ns.length ≤ 3
  eq : ms.length = ns.length
  nm : ∀ i, i < ns.length → NameOk (it ns i)
  mks : ∀ i, i < ms.length → MkOk (it ms i)
theorem l1All_marks (A : Option Addr) (c : Nat) (xs : List Int) (w : World) (hr : Lst w w.heap.size A xs) (hl : xs.length ≤ 1048576) :
    Calls Tryd.prog 64 #[.slice A xs.length c, .int .i64 0, .int .i64 3] w fun e w' => e = .returned (.bool (pB (∀ i, i < xs.length → MkOk (it xs i)))) ∧ w = w' := by
  have HR := Lib.hid hr
  clear hr
  go_enter Tryd.func64, Tryd.ntmps64
  go_wp2
  go_loop [11] (fun i => ∃ k : Nat, k ≤ xs.length ∧ i = .int .i64 k ∧ Hid (∀ j, j < k → MkOk (it xs j))) (fun i => xs.length - (intOf i).toNat)
  case atStart => exact ⟨0, Nat.zero_le _, rfl, Lib.hid (fun j hj => absurd hj (by omega))⟩
  case round =>
    obtain ⟨k, hk, rfl, HI⟩ := hrel
    by_cases hlt : k < xs.length
    · obtain ⟨b, o, rfl, hbl, hc⟩ := HR.out.int (by omega)
      have hck := hc k hlt
      clear hc
      by_cases h : 0 ≤ it xs k ∧ it xs k ≤ 3
      · obtain ⟨h1, h2⟩ := h
        go_wp2_with (go_at_call 63; refine (l1In_yes _ _ _ _ (by omega) (by omega)).mono ?_; rintro e w2 ⟨rfl, rfl⟩)
        go_round
        case rel => exact ⟨k + 1, by omega, by go_num, Lib.hid (fun j hj => by
          rcases Nat.lt_or_ge j k with h | h
          · exact HI.out j h
          · obtain rfl : j = k := by omega
            exact ⟨h1, h2⟩)⟩
        case measure => simp [intOf]; omega
      · have HV := Lib.hid (pB_no (fun hh : ∀ i, i < xs.length → MkOk (it xs i) => h (hh k hlt)))
        go_wp2_with (go_at_call 63; refine (l1In_no _ _ _ _ (by omega)).mono ?_; rintro e w2 ⟨rfl, rfl⟩)
        go_ret
        exact ⟨by rw [HV.out]; rfl, rfl⟩
    · obtain rfl : k = xs.length := by omega
      have HV := Lib.hid (pB_yes HI.out)
      go_wp2
      go_ret
      exact ⟨by rw [HV.out]; rfl, rfl⟩
theorem l1AllM_len (A : Option Addr) (c n : Nat) (xs : List Int) (hn : xs.length = n) (w : World) (hr : Lst w w.heap.size A xs) (hl : n ≤ 1048576) :
    Calls Tryd.prog 64 #[.slice A n c, .int .i64 0, .int .i64 3] w fun e w' => e = .returned (.bool (pB (∀ i, i < xs.length → MkOk (it xs i)))) ∧ w = w' := by
  subst hn
  exact l1All_marks A c xs w hr hl

theorem itGood_eq (A : Option Addr) (c : Nat) (L : Option Addr) (d : Nat) (ns : List ByteArray) (ms : List Int) (lt : Bool) (w : World) (he : ms.length = ns.length) (hr : ImIn w w.heap.size ⟨A, c, L, d, ns, ms, lt⟩) (hl : ItFits ⟨A, c, L, d, ns, ms, lt⟩) :
    Calls Tryd.prog 101 #[.agg #[.slice A ns.length c, .slice L ns.length d, .bool lt]] w fun e w' => e = .returned (.bool (pB (ItOk ns ms))) ∧ Below w.heap.size w w' := by
  have hb0 := below_alloc w (.cells #[.slice A ns.length c, .slice L ns.length d, .bool lt] 76)
  have HN : Hid (Lst _ _ A ns) := Lib.hid (hr.next hb0).ns
  have HM : Hid (Lst _ _ L ms) := Lib.hid (hr.next hb0).ms
  have HZ : Hid (∀ i, i < ns.length → (it ns i).size ≤ 1048576) := Lib.hid hl.ns.2
  have hl1 : ns.length ≤ 1048576 := hl.ns.1
  have HB0 := Lib.hid hb0
  have HE := Lib.hid he
  clear hr hl hb0 he
  go_enter Tryd.func101, Tryd.ntmps101
  go_wp2
  go_loop [8] (fun i => ∃ k : Nat, k ≤ ns.length ∧ i = .int .i64 k ∧ Hid (∀ j, j < k → NameOk (it ns j))) (fun i => ns.length - (intOf i).toNat)
  case atStart => exact ⟨0, Nat.zero_le _, rfl, Lib.hid (fun j hj => absurd hj (by omega))⟩
  case round =>
    obtain ⟨k, hk, rfl, HI⟩ := hrel
    by_cases hlt : k < ns.length
    · obtain ⟨b, o, rfl, hbl, hc⟩ := HN.out.str (by omega)
      have hck := hc k hlt
      have hz := HZ.out k hlt
      clear hc
      by_cases h : NameOk (it ns k)
      · have HC := Lib.hid (itName_any (it ns k))
        rw [pB_yes h] at HC
        have HL := Lib.hid h
        clear h
        go_wp2_with (go_at_call 124; refine (HC.out _ hz).mono ?_; rintro e w2 ⟨rfl, rfl⟩)
        go_round
        case rel => exact ⟨k + 1, by omega, by go_num, Lib.hid (fun j hj => by
          rcases Nat.lt_or_ge j k with h | h
          · exact HI.out j h
          · obtain rfl : j = k := by omega
            exact HL.out)⟩
        case measure => simp [intOf]; omega
      · have HV := Lib.hid (pB_no (fun hh : ItOk ns ms => h (hh.nm k hlt)))
        have HC := Lib.hid (itName_any (it ns k))
        rw [pB_no h] at HC
        clear h
        go_wp2_with (go_at_call 124; refine (HC.out _ hz).mono ?_; rintro e w2 ⟨rfl, rfl⟩)
        go_ret
        exact ⟨by rw [HV.out]; rfl, HB0.out⟩
    · obtain rfl : k = ns.length := by omega
      by_cases h : 1 ≤ ns.length ∧ ns.length ≤ 3
      · obtain ⟨h1, h2⟩ := h
        have HC := Lib.hid (l1AllM_len L d ns.length ms HE.out _ HM.out hl1)
        by_cases ha : ∀ i, i < ms.length → MkOk (it ms i)
        · have HV := Lib.hid (pB_yes (⟨h1, h2, HE.out, HI.out, ha⟩ : ItOk ns ms))
          rw [pB_yes ha] at HC
          clear ha
          go_wp2_with (first | (go_at_call 63; refine (l1In_yes _ _ _ _ (by omega) (by omega)).mono ?_; rintro e w' ⟨rfl, rfl⟩) | (go_at_call 64; refine HC.out.mono ?_; rintro e w' ⟨rfl, rfl⟩))
          go_ret
          exact ⟨by rw [HV.out]; rfl, HB0.out⟩
        · have HV := Lib.hid (pB_no (fun h' : ItOk ns ms => ha h'.mks))
          rw [pB_no ha] at HC
          clear ha
          go_wp2_with (first | (go_at_call 63; refine (l1In_yes _ _ _ _ (by omega) (by omega)).mono ?_; rintro e w' ⟨rfl, rfl⟩) | (go_at_call 64; refine HC.out.mono ?_; rintro e w' ⟨rfl, rfl⟩))
          go_ret
          exact ⟨by rw [HV.out]; rfl, HB0.out⟩
      · have HV := Lib.hid (pB_no (fun h' : ItOk ns ms => h ⟨h'.lo, h'.hi⟩))
        go_wp2_with (go_at_call 63; refine (l1In_no _ _ _ _ (by omega)).mono ?_; rintro e w' ⟨rfl, rfl⟩)
        go_ret
        exact ⟨by rw [HV.out]; rfl, HB0.out⟩
theorem itGood_ne (A : Option Addr) (c : Nat) (L : Option Addr) (d : Nat) (ns : List ByteArray) (ms : List Int) (lt : Bool) (w : World) (he : ¬ ms.length = ns.length) (hr : ImIn w w.heap.size ⟨A, c, L, d, ns, ms, lt⟩) (hl : ItFits ⟨A, c, L, d, ns, ms, lt⟩) :
    Calls Tryd.prog 101 #[.agg #[.slice A ns.length c, .slice L ms.length d, .bool lt]] w fun e w' => e = .returned (.bool (pB (ItOk ns ms))) ∧ Below w.heap.size w w' := by
  have hb0 := below_alloc w (.cells #[.slice A ns.length c, .slice L ms.length d, .bool lt] 76)
  have HN : Hid (Lst _ _ A ns) := Lib.hid (hr.next hb0).ns
  have HM : Hid (Lst _ _ L ms) := Lib.hid (hr.next hb0).ms
  have HZ : Hid (∀ i, i < ns.length → (it ns i).size ≤ 1048576) := Lib.hid hl.ns.2
  have hl1 : ns.length ≤ 1048576 := hl.ns.1
  have HB0 := Lib.hid hb0
  have hl2 : ms.length ≤ 1048576 := hl.ms
  clear hr hl hb0
  go_enter Tryd.func101, Tryd.ntmps101
  go_wp2
  go_loop [8] (fun i => ∃ k : Nat, k ≤ ns.length ∧ i = .int .i64 k ∧ Hid (∀ j, j < k → NameOk (it ns j))) (fun i => ns.length - (intOf i).toNat)
  case atStart => exact ⟨0, Nat.zero_le _, rfl, Lib.hid (fun j hj => absurd hj (by omega))⟩
  case round =>
    obtain ⟨k, hk, rfl, HI⟩ := hrel
    by_cases hlt : k < ns.length
    · obtain ⟨b, o, rfl, hbl, hc⟩ := HN.out.str (by omega)
      have hck := hc k hlt
      have hz := HZ.out k hlt
      clear hc
      by_cases h : NameOk (it ns k)
      · have HC := Lib.hid (itName_any (it ns k))
        rw [pB_yes h] at HC
        have HL := Lib.hid h
        clear h
        go_wp2_with (go_at_call 124; refine (HC.out _ hz).mono ?_; rintro e w2 ⟨rfl, rfl⟩)
        go_round
        case rel => exact ⟨k + 1, by omega, by go_num, Lib.hid (fun j hj => by
          rcases Nat.lt_or_ge j k with h | h
          · exact HI.out j h
          · obtain rfl : j = k := by omega
            exact HL.out)⟩
        case measure => simp [intOf]; omega
      · have HV := Lib.hid (pB_no (fun hh : ItOk ns ms => h (hh.nm k hlt)))
        have HC := Lib.hid (itName_any (it ns k))
        rw [pB_no h] at HC
        clear h
        go_wp2_with (go_at_call 124; refine (HC.out _ hz).mono ?_; rintro e w2 ⟨rfl, rfl⟩)
        go_ret
        exact ⟨by rw [HV.out]; rfl, HB0.out⟩
    · obtain rfl : k = ns.length := by omega
      by_cases h : 1 ≤ ns.length ∧ ns.length ≤ 3
      · obtain ⟨h1, h2⟩ := h
        have HV := Lib.hid (pB_no (fun h' : ItOk ns ms => he h'.eq))
        have hne : (ms.length : Int) ≠ (ns.length : Int) := by omega
        go_wp2_with (go_at_call 63; refine (l1In_yes _ _ _ _ (by omega) (by omega)).mono ?_; rintro e w' ⟨rfl, rfl⟩)
        go_ret
        exact ⟨by rw [HV.out]; rfl, HB0.out⟩
      · have HV := Lib.hid (pB_no (fun h' : ItOk ns ms => h ⟨h'.lo, h'.hi⟩))
        go_wp2_with (go_at_call 63; refine (l1In_no _ _ _ _ (by omega)).mono ?_; rintro e w' ⟨rfl, rfl⟩)
        go_ret
        exact ⟨by rw [HV.out]; rfl, HB0.out⟩
theorem itGood_any (x : Im) (w : World) (hr : ImIn w w.heap.size x) (hl : ItFits x) :
    Calls Tryd.prog 101 #[x.val] w fun e w' => e = .returned (.bool (pB (ItOk x.ns x.ms))) ∧ Below w.heap.size w w' := by
  obtain ⟨A, c, L, d, ns, ms, lt⟩ := x
  by_cases he : ms.length = ns.length
  · have := itGood_eq A c L d ns ms lt w he hr hl
    rw [← he] at this
    rw [show (Im.val ⟨A, c, L, d, ns, ms, lt⟩) = .agg #[.slice A ms.length c, .slice L ms.length d, .bool lt] by show Value.agg _ = _; rw [he]]
    exact this
  · exact itGood_ne A c L d ns ms lt w he hr hl

theorem isMark_yes (v : Int) (w : World) (h : MkOk v) :
    Calls Tryd.prog 115 #[.int .i64 v] w fun e w' => e = .returned (.bool true) ∧ w = w' := by
  obtain ⟨h1, h2⟩ := h
  go_enter Tryd.func115, Tryd.ntmps115
  go_wp2
  go_ret
  exact ⟨by first | rfl | (simp; omega) | simp, rfl⟩
theorem isMark_no (v : Int) (w : World) (h : ¬ MkOk v) :
    Calls Tryd.prog 115 #[.int .i64 v] w fun e w' => e = .returned (.bool false) ∧ w = w' := by
  unfold MkOk at h
  by_cases h1 : 0 ≤ v
  · have h2 : 3 < v := by omega
    go_enter Tryd.func115, Tryd.ntmps115
    go_wp2
    go_ret
    exact ⟨by first | rfl | (simp; omega) | simp, rfl⟩
  · have h2 : v < 0 := by omega
    go_enter Tryd.func115, Tryd.ntmps115
    go_wp2
    go_ret
    exact ⟨by first | rfl | (simp; omega) | simp, rfl⟩

theorem iIsItem_eq (A : Option Addr) (c : Nat) (L : Option Addr) (d : Nat) (ns : List ByteArray) (ms : List Int) (lt : Bool) (w : World) (he : ms.length = ns.length) (hr : ImIn w w.heap.size ⟨A, c, L, d, ns, ms, lt⟩) (hl : ItFits ⟨A, c, L, d, ns, ms, lt⟩) :
    Calls Tryd.prog 106 #[.agg #[.slice A ns.length c, .slice L ns.length d, .bool lt]] w fun e w' => e = .returned (.bool (pB (ItOk ns ms))) ∧ Below w.heap.size w w' := by
  have hb0 := below_alloc w (.cells #[.slice A ns.length c, .slice L ns.length d, .bool lt] 76)
  have HN : Hid (Lst _ _ A ns) := Lib.hid (hr.next hb0).ns
  have HM : Hid (Lst _ _ L ms) := Lib.hid (hr.next hb0).ms
  have HZ : Hid (∀ i, i < ns.length → (it ns i).size ≤ 1048576) := Lib.hid hl.ns.2
  have hl1 : ns.length ≤ 1048576 := hl.ns.1
  have HB0 := Lib.hid hb0
  have HE := Lib.hid he
  clear hr hl hb0 he
  by_cases h : 1 ≤ ns.length ∧ ns.length ≤ 3
  · obtain ⟨h1, h2⟩ := h
    go_enter Tryd.func106, Tryd.ntmps106
    go_wp2
    go_loop [27] (fun i => ∃ k : Nat, k ≤ ns.length ∧ i = .int .i64 k ∧ Hid (∀ j, j < k → NameOk (it ns j) ∧ MkOk (it ms j))) (fun i => ns.length - (intOf i).toNat)
    case atStart => exact ⟨0, Nat.zero_le _, rfl, Lib.hid (fun j hj => absurd hj (by omega))⟩
    case round =>
      obtain ⟨k, hk, rfl, HI⟩ := hrel
      by_cases hlt : k < ns.length
      · obtain ⟨b, o, rfl, hbl, hc⟩ := HN.out.str (by omega)
        obtain ⟨b', o', rfl, hbl', hc'⟩ := HM.out.int (by have := HE.out; omega)
        have hck := hc k hlt
        have hck' := hc' k (by have := HE.out; omega)
        have hz := HZ.out k hlt
        have q1 : (0 : Int) ≤ (k : Int) := by omega
        have q2 : (k : Int) < (ns.length : Int) := by omega
        clear hc hc'
        have HC := Lib.hid (iIsName_any (it ns k))
        by_cases h : NameOk (it ns k)
        · rw [pB_yes h] at HC
          by_cases hm : MkOk (it ms k)
          · have HL := Lib.hid (And.intro h hm)
            clear h hm
            go_wp2_with (first | (go_at_call 127; refine (HC.out _ hz).mono ?_; rintro e w2 ⟨rfl, rfl⟩) | (go_at_call 115; refine (isMark_yes _ _ HL.out.2).mono ?_; rintro e w2 ⟨rfl, rfl⟩))
            go_round
            case rel => exact ⟨k + 1, by omega, by go_num, Lib.hid (fun j hj => by
              rcases Nat.lt_or_ge j k with h | h
              · exact HI.out j h
              · obtain rfl : j = k := by omega
                exact HL.out)⟩
            case measure => simp [intOf]; omega
          · have HV := Lib.hid (pB_no (fun hh : ItOk ns ms => hm (hh.mks k (by have := HE.out; omega))))
            have HM' := Lib.hid hm
            clear h hm
            go_wp2_with (first | (go_at_call 127; refine (HC.out _ hz).mono ?_; rintro e w2 ⟨rfl, rfl⟩) | (go_at_call 115; refine (isMark_no _ _ HM'.out).mono ?_; rintro e w2 ⟨rfl, rfl⟩))
            go_ret
            exact ⟨by rw [HV.out]; rfl, HB0.out⟩
        · rw [pB_no h] at HC
          have HV := Lib.hid (pB_no (fun hh : ItOk ns ms => h (hh.nm k hlt)))
          clear h
          go_wp2_with (go_at_call 127; refine (HC.out _ hz).mono ?_; rintro e w2 ⟨rfl, rfl⟩)
          go_ret
          exact ⟨by rw [HV.out]; rfl, HB0.out⟩
      · obtain rfl : k = ns.length := by omega
        have HV := Lib.hid (pB_yes (⟨h1, h2, HE.out, fun i hi => (HI.out i hi).1, fun i hi => (HI.out i (by have := HE.out; omega)).2⟩ : ItOk ns ms))
        go_wp2
        go_ret
        exact ⟨by rw [HV.out]; rfl, HB0.out⟩
  · have HV := Lib.hid (pB_no (fun h' : ItOk ns ms => h ⟨h'.lo, h'.hi⟩))
    by_cases h1 : 1 ≤ ns.length
    · have h2 : 3 < ns.length := by omega
      go_enter Tryd.func106, Tryd.ntmps106
      go_wp2
      go_ret
      exact ⟨by rw [HV.out]; rfl, HB0.out⟩
    · have h2 : ns.length < 1 := by omega
      go_enter Tryd.func106, Tryd.ntmps106
      go_wp2
      go_ret
      exact ⟨by rw [HV.out]; rfl, HB0.out⟩
theorem iIsItem_ne (A : Option Addr) (c : Nat) (L : Option Addr) (d : Nat) (ns : List ByteArray) (ms : List Int) (lt : Bool) (w : World) (he : ¬ ms.length = ns.length) (hr : ImIn w w.heap.size ⟨A, c, L, d, ns, ms, lt⟩) (hl : ItFits ⟨A, c, L, d, ns, ms, lt⟩) :
    Calls Tryd.prog 106 #[.agg #[.slice A ns.length c, .slice L ms.length d, .bool lt]] w fun e w' => e = .returned (.bool (pB (ItOk ns ms))) ∧ Below w.heap.size w w' := by
  have hb0 := below_alloc w (.cells #[.slice A ns.length c, .slice L ms.length d, .bool lt] 76)
  have HN : Hid (Lst _ _ A ns) := Lib.hid (hr.next hb0).ns
  have HM : Hid (Lst _ _ L ms) := Lib.hid (hr.next hb0).ms
  have HZ : Hid (∀ i, i < ns.length → (it ns i).size ≤ 1048576) := Lib.hid hl.ns.2
  have hl1 : ns.length ≤ 1048576 := hl.ns.1
  have HB0 := Lib.hid hb0
  have hl2 : ms.length ≤ 1048576 := hl.ms
  clear hr hl hb0
  by_cases h : 1 ≤ ns.length ∧ ns.length ≤ 3
  · obtain ⟨h1, h2⟩ := h
    have HV := Lib.hid (pB_no (fun h' : ItOk ns ms => he h'.eq))
    have hne : (ms.length : Int) ≠ (ns.length : Int) := by omega
    go_enter Tryd.func106, Tryd.ntmps106
    go_wp2
    · go_ret
      exact ⟨by rw [HV.out]; rfl, HB0.out⟩
    · exfalso
      have h4 := (‹(1 ≤ (ns.length : Int) ∧ (ns.length : Int) ≤ 3) ∧ ((ms.length : Int) != (ns.length : Int)) = false›).2
      simp at h4
      omega
  · have HV := Lib.hid (pB_no (fun h' : ItOk ns ms => h ⟨h'.lo, h'.hi⟩))
    by_cases h1 : 1 ≤ ns.length
    · have h2 : 3 < ns.length := by omega
      go_enter Tryd.func106, Tryd.ntmps106
      go_wp2
      go_ret
      exact ⟨by rw [HV.out]; rfl, HB0.out⟩
    · have h2 : ns.length < 1 := by omega
      go_enter Tryd.func106, Tryd.ntmps106
      go_wp2
      go_ret
      exact ⟨by rw [HV.out]; rfl, HB0.out⟩
theorem iIsItem_any (x : Im) (w : World) (hr : ImIn w w.heap.size x) (hl : ItFits x) :
    Calls Tryd.prog 106 #[x.val] w fun e w' => e = .returned (.bool (pB (ItOk x.ns x.ms))) ∧ Below w.heap.size w w' := by
  obtain ⟨A, c, L, d, ns, ms, lt⟩ := x
  by_cases he : ms.length = ns.length
  · have := iIsItem_eq A c L d ns ms lt w he hr hl
    rw [← he] at this
    rw [show (Im.val ⟨A, c, L, d, ns, ms, lt⟩) = .agg #[.slice A ms.length c, .slice L ms.length d, .bool lt] by show Value.agg _ = _; rw [he]]
    exact this
  · exact iIsItem_ne A c L d ns ms lt w he hr hl

end Go.Proofs.YtnlcdfaojcnkpaaDoor

namespace Go.Proofs.YtnlcdfaojcnkpaaDoor
open Go.ChangeShapes Go.WideShapes Go.ChangeAt Go.RowKit
set_option linter.unusedVariables false

structure ListOk (xs : List Im) : Prop where
  len : xs.length ≤ 14
  each : ∀ i, i < xs.length → ItOk (it xs i).ns (it xs i).ms
theorem itList_any (P : Option Addr) (c : Nat) (xs : List Im) (w : World) (hr : Ims w w.heap.size P xs) (hl : ImsFits xs) :
    Calls Tryd.prog 77 #[.slice P xs.length c] w fun e w' => e = .returned (.bool (pB (ListOk xs))) ∧ Below w.heap.size w w' := by
  have HR := Lib.hid hr
  have HF := Lib.hid hl.each
  have hl' := hl.len
  clear hr hl
  · go_enter Tryd.func77, Tryd.ntmps77
    go_wp2
    go_loopw [7] (fun i wr => ∃ k : Nat, k ≤ xs.length ∧ i = .int .i64 k ∧ Hid (∀ j, j < k → ItOk (it xs j).ns (it xs j).ms) ∧ Below w.heap.size w wr) (fun i _ => xs.length - (intOf i).toNat)
    case atStart => exact ⟨0, Nat.zero_le _, rfl, Lib.hid (fun j hj => absurd hj (by omega)), Below.refl _ _⟩
    case round =>
      obtain ⟨k, hk, rfl, HI, hb⟩ := hrel
      by_cases hlt : k < xs.length
      · obtain ⟨b, o, rfl, hbl, hc⟩ := HR.out.out.im (by omega)
        obtain ⟨c0, c1, c2⟩ := (hc k hlt).below hb hbl
        have HE := Lib.hid ((HR.out.each k hlt).next hb)
        have HL := Lib.hid (HF.out k hlt)
        have HB := Lib.hid hb
        clear hc hb
        by_cases hok : ItOk (it xs k).ns (it xs k).ms
        · have HC := Lib.hid (itGood_any (it xs k))
          rw [pB_yes hok] at HC
          have HO := Lib.hid hok
          clear hok
          go_wp2_with (go_at_call 101; refine (HC.out _ (HE.out.next (below_alloc _ _)) HL.out).mono ?_; rintro e w2 ⟨rfl, hb2⟩; have HB2 := Lib.hid (below_next HB.out (below_next (below_alloc _ _) hb2)); clear hb2)
          go_roundw
          case rel => exact ⟨k + 1, by omega, by go_num, Lib.hid (fun j hj => by
            rcases Nat.lt_or_ge j k with h | h
            · exact HI.out j h
            · obtain rfl : j = k := by omega
              exact HO.out), HB2.out⟩
          case measure => simp [intOf]; omega
        · have HC := Lib.hid (itGood_any (it xs k))
          rw [pB_no hok] at HC
          have HV := Lib.hid (pB_no (fun hh : ListOk xs => hok (hh.each k hlt)))
          clear hok
          go_wp2_with (go_at_call 101; refine (HC.out _ (HE.out.next (below_alloc _ _)) HL.out).mono ?_; rintro e w2 ⟨rfl, hb2⟩; have HB2 := Lib.hid (below_next HB.out (below_next (below_alloc _ _) hb2)); clear hb2)
          go_ret
          exact ⟨by rw [HV.out]; rfl, HB2.out⟩
      · obtain rfl : k = xs.length := by omega
        by_cases h : xs.length ≤ 14
        · have HV := Lib.hid (pB_yes (⟨h, HI.out⟩ : ListOk xs))
          go_wp2
          go_ret
          exact ⟨by rw [HV.out]; first | rfl | (simp; omega), hb⟩
        · have HV := Lib.hid (pB_no (fun hh : ListOk xs => h hh.len))
          have h' : 14 < xs.length := by omega
          go_wp2
          go_ret
          exact ⟨by rw [HV.out]; first | rfl | (simp; omega), hb⟩
theorem iAreItems_any (P : Option Addr) (c : Nat) (xs : List Im) (w : World) (hr : Ims w w.heap.size P xs) (hl : ImsFits xs) :
    Calls Tryd.prog 83 #[.slice P xs.length c] w fun e w' => e = .returned (.bool (pB (ListOk xs))) ∧ Below w.heap.size w w' := by
  have HR := Lib.hid hr
  have HF := Lib.hid hl.each
  have hl' := hl.len
  clear hr hl
  by_cases hn : xs.length ≤ 14
  · go_enter Tryd.func83, Tryd.ntmps83
    go_wp2
    go_loopw [10] (fun i wr => ∃ k : Nat, k ≤ xs.length ∧ i = .int .i64 k ∧ Hid (∀ j, j < k → ItOk (it xs j).ns (it xs j).ms) ∧ Below w.heap.size w wr) (fun i _ => xs.length - (intOf i).toNat)
    case atStart => exact ⟨0, Nat.zero_le _, rfl, Lib.hid (fun j hj => absurd hj (by omega)), Below.refl _ _⟩
    case round =>
      obtain ⟨k, hk, rfl, HI, hb⟩ := hrel
      by_cases hlt : k < xs.length
      · obtain ⟨b, o, rfl, hbl, hc⟩ := HR.out.out.im (by omega)
        obtain ⟨c0, c1, c2⟩ := (hc k hlt).below hb hbl
        have HE := Lib.hid ((HR.out.each k hlt).next hb)
        have HL := Lib.hid (HF.out k hlt)
        have HB := Lib.hid hb
        clear hc hb
        by_cases hok : ItOk (it xs k).ns (it xs k).ms
        · have HC := Lib.hid (iIsItem_any (it xs k))
          rw [pB_yes hok] at HC
          have HO := Lib.hid hok
          clear hok
          go_wp2_with (go_at_call 106; refine (HC.out _ (HE.out.next (below_alloc _ _)) HL.out).mono ?_; rintro e w2 ⟨rfl, hb2⟩; have HB2 := Lib.hid (below_next HB.out (below_next (below_alloc _ _) hb2)); clear hb2)
          go_roundw
          case rel => exact ⟨k + 1, by omega, by go_num, Lib.hid (fun j hj => by
            rcases Nat.lt_or_ge j k with h | h
            · exact HI.out j h
            · obtain rfl : j = k := by omega
              exact HO.out), HB2.out⟩
          case measure => simp [intOf]; omega
        · have HC := Lib.hid (iIsItem_any (it xs k))
          rw [pB_no hok] at HC
          have HV := Lib.hid (pB_no (fun hh : ListOk xs => hok (hh.each k hlt)))
          clear hok
          go_wp2_with (go_at_call 106; refine (HC.out _ (HE.out.next (below_alloc _ _)) HL.out).mono ?_; rintro e w2 ⟨rfl, hb2⟩; have HB2 := Lib.hid (below_next HB.out (below_next (below_alloc _ _) hb2)); clear hb2)
          go_ret
          exact ⟨by rw [HV.out]; rfl, HB2.out⟩
      · obtain rfl : k = xs.length := by omega
        have HV := Lib.hid (pB_yes (⟨hn, HI.out⟩ : ListOk xs))
        go_wp2
        go_ret
        exact ⟨by rw [HV.out]; rfl, hb⟩
  · have HV := Lib.hid (pB_no (fun hh : ListOk xs => hn hh.len))
    have hn' : 14 < xs.length := by omega
    go_enter Tryd.func83, Tryd.ntmps83
    go_wp2
    go_ret
    exact ⟨by rw [HV.out]; rfl, Below.refl _ _⟩
end Go.Proofs.YtnlcdfaojcnkpaaDoor

namespace Go.Proofs.YtnlcdfaojcnkpaaDoor
open Go.ChangeShapes Go.WideShapes Go.ChangeAt Go.RowKit Go.Deep
set_option linter.unusedVariables false

section
variable {H : Type} {enc : TypeId × Value → H} {w : World}
theorem rdStr {cs : List Value} (h : Rd enc Tryd.prog w 9 cs) : ∃ x : ByteArray, cs = Flat.cells x ∧ x.size ≤ maxLen := by
  obtain ⟨fuel, x, hf⟩ := h
  obtain ⟨s, hc, _, hs⟩ := DataW.trod_string Tryd.underlying9 hf
  refine ⟨s, ?_, hs⟩
  show cs = [Value.string s]
  simpa using hc
theorem rd_bool {P : Program} {t : TypeId} {v : Value} (ht : P.underlying t = some .bool) (h : Rd enc P w t [v]) : ∃ b : Bool, v = .bool b := by
  obtain ⟨fuel, x, hf⟩ := h
  obtain ⟨b, hc, _⟩ := DataW.trod_bool ht hf
  exact ⟨b, by simpa using hc⟩
theorem rdItem {cs : List Value} (h : Rd enc Tryd.prog w 74 cs) : ∃ x : Im, cs = Flat.cells x ∧ (ImIn w w.heap.size x ∧ ItLen x) := by
  obtain ⟨hl, hf⟩ := rd_struct Tryd.underlying74 (by kernel_rfl) (by kernel_rfl) h
  obtain ⟨v0, e0, r0⟩ := hf 0 _ rfl
  obtain ⟨v1, e1, r1⟩ := hf 1 _ rfl
  obtain ⟨v2, e2, r2⟩ := hf 2 _ rfl
  obtain ⟨A, c, xs, rfl, hx1, hx2, hx3⟩ := rd_list (α := ByteArray) (fun x => x.size ≤ maxLen) Tryd.underlying66 (by kernel_rfl) (by decide) (fun cs h => rdStr h) r0
  obtain ⟨L, d, ys, rfl, hy1, hy2, hy3⟩ := rd_list (α := Int) (fun x => True) Tryd.underlying23 (by kernel_rfl) (by decide) (fun cs h => rdInt h) r1
  obtain ⟨b, rfl⟩ := rd_bool Tryd.underlying4 r2
  refine ⟨⟨A, c, L, d, xs, ys, b⟩, ?_, ⟨hx2, hy2⟩, ⟨⟨hx1, hx3⟩, hy1⟩⟩
  match cs, hl, e0, e1, e2 with
  | [a0, a1, a2], _, e0, e1, e2 =>
    obtain rfl := Option.some.inj e0
    obtain rfl := Option.some.inj e1
    obtain rfl := Option.some.inj e2
    rfl
theorem slice_cells {P : Program} {base : Nat} {t e : TypeId} {v : Value} (ht : P.underlying t = some (.slice e)) (h : Value.okWide P w .any base t v) : v.cells.toList = [v] := by
  unfold Value.okWide at h
  simp only [ht] at h
  cases v <;> first | rfl | (exfalso; simp [Cell.okWide, Cell.ok, ht] at h)
set_option maxRecDepth 100000 in
theorem openItem {base : Nat} {v : Value} {d : DataW H} {p : List MemPlace} (hv : Value.okWide Tryd.prog w .any base 74 v) (h : DataW.Trod enc Tryd.prog w 0 (fun _ => true) true 74 v d p) :
    ∃ x : Im, v = x.val ∧ ImIn w w.heap.size x ∧ ItLen x := by
  obtain ⟨cs, rfl⟩ := agg_of Tryd.underlying74 hv
  obtain ⟨x, hx, h1, h2⟩ := rdItem (rd_of (r := .any) (b0 := 0) h)
  refine ⟨x, ?_, h1, h2⟩
  have hc : cs = ⟨Im.cs x⟩ := Array.ext' hx
  rw [hc]
  rfl
set_option maxRecDepth 100000 in
theorem openItems {base : Nat} {v : Value} {d : DataW H} {p : List MemPlace} (hv : Value.okWide Tryd.prog w .any base 39 v) (h : DataW.Trod enc Tryd.prog w 0 (fun _ => true) true 39 v d p) :
    ∃ (P : Option Addr) (c : Nat) (xs : List Im), v = .slice P xs.length c ∧ Ims w w.heap.size P xs ∧ ImsLen xs := by
  have hr := rd_of (r := .any) (b0 := 0) h
  rw [slice_cells Tryd.underlying39 hv] at hr
  obtain ⟨A, c, xs, rfl, hx1, hx2, hx3⟩ := rd_list (α := Im) (fun x => ImIn w w.heap.size x ∧ ItLen x) Tryd.underlying39 (by kernel_rfl) (by decide) (fun cs h => rdItem h) hr
  exact ⟨A, c, xs, rfl, ⟨hx2, fun i hi => (hx3 i hi).1⟩, ⟨hx1, fun i hi => (hx3 i hi).2⟩⟩
end

theorem itOk_same {x y : Im} (h : Same x y) : pB (ItOk y.ns y.ms) = pB (ItOk x.ns x.ms) := by rw [h.ns, h.ms]
theorem listOk_same {xs ys : List Im} (h : SameS xs ys) : pB (ListOk ys) = pB (ListOk xs) := pB_iff
  ⟨fun k => ⟨by have := h.len; have := k.len; omega, fun i hi => by have hk := k.each i (by have := h.len; omega); rw [(h.each i hi).ns, (h.each i hi).ms] at hk; exact hk⟩,
   fun k => ⟨by have := h.len; have := k.len; omega, fun i hi => by have hk := k.each i (by have := h.len; omega); have he := h.each i (by have := h.len; omega); rw [he.ns, he.ms]; exact hk⟩⟩

/-- A list of items in blocks of S, one for each slice; all of it may be written. -/
structure ImsOwn (S : Nat → Prop) (w : World) (P : Option Addr) (g : Nat) (G : Nat → Nat) (ys : List Im) : Prop where
  out : Owned (fun i => i = g) w P ys
  ns : ∀ i, i < ys.length → Owned (fun j => j = G (2 * i)) w (it ys i).A (it ys i).ns
  ms : ∀ i, i < ys.length → Owned (fun j => j = G (2 * i + 1)) w (it ys i).L (it ys i).ms
  ne : ∀ i, i < 2 * ys.length → G i ≠ g
  inj : ∀ i j, i < j → j < 2 * ys.length → G i ≠ G j
  sg : 0 < ys.length → S g
  sG : ∀ i, i < 2 * ys.length → S (G i)
theorem ImsOwn.ims {S : Nat → Prop} {w : World} {P : Option Addr} {g : Nat} {G : Nat → Nat} {ys : List Im} (h : ImsOwn S w P g G ys) : Ims w w.heap.size P ys :=
  ⟨h.out.lst, fun i hi => ⟨(h.ns i hi).lst, (h.ms i hi).lst⟩⟩
theorem ImsOwn.next {S : Nat → Prop} {w w' : World} {P : Option Addr} {g : Nat} {G : Nat → Nat} {ys : List Im} (h : ImsOwn S w P g G ys) (hb : Below w.heap.size w w') : ImsOwn S w' P g G ys :=
  ⟨h.out.keepB hb, fun i hi => (h.ns i hi).keepB hb, fun i hi => (h.ms i hi).keepB hb, h.ne, h.inj, h.sg, h.sG⟩
theorem ImsOwn.keep {S T : Nat → Prop} {w w' : World} {P : Option Addr} {g : Nat} {G : Nat → Nat} {ys : List Im} (h : ImsOwn S w P g G ys) (k : Only T w w') (hd : ∀ i, S i → ¬ T i) : ImsOwn S w' P g G ys :=
  ⟨fun hp => h.out.keep k (fun i e => by subst e; exact hd _ (h.sg hp)) hp, fun i hi => (h.ns i hi).keep k (fun j e => by subst e; exact hd _ (h.sG _ (by omega))), fun i hi => (h.ms i hi).keep k (fun j e => by subst e; exact hd _ (h.sG _ (by omega))), h.ne, h.inj, h.sg, h.sG⟩
theorem ImsOwn.mono {S T : Nat → Prop} {w : World} {P : Option Addr} {g : Nat} {G : Nat → Nat} {ys : List Im} (h : ImsOwn S w P g G ys) (hS : ∀ i, S i → T i) : ImsOwn T w P g G ys :=
  ⟨h.out, h.ns, h.ms, h.ne, h.inj, fun hp => hS _ (h.sg hp), fun i hi => hS _ (h.sG i hi)⟩

/-- A copy of a list of items, in blocks of its own. -/
theorem toItemS_c (P : Option Addr) (c : Nat) (xs : List Im) (w : World) (hr : Ims w w.heap.size P xs) (hl : ImsFits xs) :
    Calls Tryd.prog 18 #[.slice P xs.length c] w fun e w' => e = .returned (.slice (some ⟨w.heap.size, 0, none⟩) xs.length xs.length) ∧ (∃ ys g G, SameS xs ys ∧ ImsOwn (fun i => w.heap.size ≤ i ∧ i < w'.heap.size) w' (some ⟨w.heap.size, 0, none⟩) g G ys) ∧ Below w.heap.size w w' := by
  refine (toItemS_any P c xs w hr hl).mono ?_
  rintro e w' ⟨rfl, ⟨ys, G, hy, ho, hc, ht, ha⟩, hs, hb⟩
  refine ⟨rfl, ⟨ys, w.heap.size, G, ⟨hy, fun i hi => by rw [hc i hi]; exact same_cpy _ _ _⟩, fun _ => ⟨_, 0, rfl, rfl, hs, ho⟩, fun i hi => ?_, fun i hi => ?_, fun i hi e => ?_, fun i j h1 h2 => ha.ne i j h1 (by omega), fun _ => ⟨Nat.le_refl _, hs⟩, fun i hi => ⟨by have := ha.lo i (by omega); omega, ha.hi i (by omega)⟩⟩, hb⟩
  · rw [hc i (by omega)]
    exact fun _ => ⟨_, 0, rfl, rfl, ha.hi _ (by omega), ht.ns i (by omega)⟩
  · rw [hc i (by omega)]
    exact fun _ => ⟨_, 0, rfl, rfl, ha.hi _ (by omega), ht.ms i (by omega)⟩
  · have := ha.lo i (by omega)
    omega
/-- A copy of an item. -/
theorem toItem_c (x : Im) (w : World) (hr : ImIn w w.heap.size x) (hl : ItFits x) :
    Calls Tryd.prog 49 #[x.val] w fun e w' => (∃ y, e = .returned y.val ∧ Same x y ∧ ImIn w' w'.heap.size y) ∧ Below w.heap.size w w' := by
  refine (toItem_any x w hr hl).mono ?_
  rintro e w' ⟨⟨g1, g2, rfl, h1, h2, l1, l2, l3⟩, hb⟩
  exact ⟨⟨x.cpy g1 g2, rfl, same_cpy _ _ _, fun _ => ⟨g1, 0, rfl, by omega, h1.cell⟩, fun _ => ⟨g2, 0, rfl, by omega, h2.cell⟩⟩, hb⟩
end Go.Proofs.YtnlcdfaojcnkpaaDoor

namespace Go.Proofs.YtnlcdfaojcnkpaaDoor
open Go.ChangeShapes Go.WideShapes Go.ChangeAt Go.RowKit
set_option linter.unusedVariables false

theorem iAreItems_n (P : Option Addr) (c n : Nat) (xs : List Im) (hn : xs.length = n) (w : World) (hr : Ims w w.heap.size P xs) (hl : ImsFits xs) :
    Calls Tryd.prog 83 #[.slice P n c] w fun e w' => e = .returned (.bool (pB (ListOk xs))) ∧ Below w.heap.size w w' := by
  subst hn
  exact iAreItems_any P c xs w hr hl
theorem eqItemS_n (P P' : Option Addr) (c c' n : Nat) (xs ys : List Im) (hn : xs.length = n) (w : World) (hs : SameS xs ys) (hr : Ims w w.heap.size P xs) (hr' : Ims w w.heap.size P' ys) (hl : ImsFits xs) :
    Calls Tryd.prog 21 #[.slice P n c, .slice P' n c'] w fun e w' => e = .returned (.bool true) ∧ Below w.heap.size w w' := by
  subst hn
  exact eqItemS_yes P P' c c' xs ys w hs hr hr' hl

/-- A block with the three cells of an item. -/
structure ImBox (w : World) (b : Nat) (x : Im) : Prop where
  lt : b < w.heap.size
  c0 : w.cell? ⟨b, 0, none⟩ = some (.slice x.A x.ns.length x.c)
  c1 : w.cell? ⟨b, 1, none⟩ = some (.slice x.L x.ms.length x.d)
  c2 : w.cell? ⟨b, 2, none⟩ = some (.bool x.late)
theorem ImBox.next {w w' : World} {b : Nat} {x : Im} (h : ImBox w b x) (hb : Below w.heap.size w w') : ImBox w' b x :=
  ⟨Nat.lt_of_lt_of_le h.lt hb.size, (hb.cell (p := ⟨b, 0, none⟩) h.lt).trans h.c0, (hb.cell (p := ⟨b, 1, none⟩) h.lt).trans h.c1, (hb.cell (p := ⟨b, 2, none⟩) h.lt).trans h.c2⟩
theorem imBox_new (w : World) (t : TypeId) (x : Im) : ImBox (w.alloc (.cells #[.slice x.A x.ns.length x.c, .slice x.L x.ms.length x.d, .bool x.late] t)) w.heap.size x := by
  constructor <;> simp
theorem imBox2 {w : World} {b b' : Nat} {x y : Im} (h : ImBox w b x) (k : ImBox w b' y) :
    w.cell? ⟨b, 0, none⟩ = some (.slice x.A x.ns.length x.c) ∧ w.cell? ⟨b, 1, none⟩ = some (.slice x.L x.ms.length x.d) ∧ w.cell? ⟨b, 2, none⟩ = some (.bool x.late) ∧ w.cell? ⟨b', 0, none⟩ = some (.slice y.A y.ns.length y.c) ∧ w.cell? ⟨b', 1, none⟩ = some (.slice y.L y.ms.length y.d) ∧ w.cell? ⟨b', 2, none⟩ = some (.bool y.late) :=
  ⟨h.c0, h.c1, h.c2, k.c0, k.c1, k.c2⟩
end Go.Proofs.YtnlcdfaojcnkpaaDoor

namespace Go.Proofs.YtnlcdfaojcnkpaaDoor
open Go.ChangeShapes Go.WideShapes Go.ChangeAt Go.RowKit
set_option linter.unusedVariables false

theorem iIsItem_s (x y : Im) (w : World) (hs : Same x y) (hr : ImIn w w.heap.size y) (hl : ItFits x) :
    Calls Tryd.prog 106 #[y.val] w fun e w' => e = .returned (.bool (pB (ItOk x.ns x.ms))) ∧ Below w.heap.size w w' := by
  rw [← itOk_same hs]
  exact iIsItem_any y w hr (hs.fits hl)
end Go.Proofs.YtnlcdfaojcnkpaaDoor

namespace Go.Proofs.YtnlcdfaojcnkpaaDoor
open Go.ChangeShapes Go.WideShapes Go.ChangeAt Go.RowKit
set_option linter.unusedVariables false

/-- The mark that the i-th item begins with. -/
def kAt (xs : List Im) (k : Nat) : Nat → Nat
  | 0 => k
  | i + 1 => kAt xs k i + (it xs i).ns.length + (it xs i).ms.length + 1
theorem kAt_le (xs : List Im) (k : Nat) (hl : ImsFits xs) : ∀ i, i ≤ xs.length → k ≤ kAt xs k i ∧ kAt xs k i ≤ k + i * 2097153
  | 0, _ => by simp [kAt]
  | i + 1, h => by
    have h1 := kAt_le xs k hl i (by omega)
    have h2 := hl.each i (by omega)
    have h3 := h2.ns.1
    have h4 := h2.ms
    simp only [kAt]
    omega
theorem kAt_small (xs : List Im) (k : Nat) (hl : ImsFits xs) (hk : k ≤ 10000000000000) (i : Nat) (hi : i ≤ xs.length) : k ≤ kAt xs k i ∧ kAt xs k i ≤ 100000000000000 := by
  have h1 := kAt_le xs k hl i hi
  have h2 := hl.len
  omega
/-- An item with its marks. -/
def mkIm (k : Nat) (x : Im) : Im := ⟨x.A, x.c, x.L, x.d, seqS k x.ns.length, seqF ((k + x.ns.length : Nat) : Int) x.ms.length, decide ((k + x.ns.length + x.ms.length) % 3 = 0)⟩
theorem late_eq (k : Nat) (x : Im) : (mkIm k x).late = (((k : Int) + (x.ns.length : Int) + (x.ms.length : Int)) % 3 == 0) := by
  show decide ((k + x.ns.length + x.ms.length) % 3 = 0) = _
  rw [Bool.eq_iff_iff]
  simp
  omega
theorem im_mem {w : World} {b o : Nat} {x : Im} (h : ImAt w b o x) : CellsAt w b o (Flat.cells x) := fun j v hv => by
  match j, hv with
  | 0, hv => obtain rfl := Option.some.inj hv; exact h.c0
  | 1, hv => obtain rfl := Option.some.inj hv; exact h.c1
  | 2, hv => obtain rfl := Option.some.inj hv; exact h.c2
/-- One item's flag is stored, and its slices are what they are now. -/
theorem OwnAt.setLate {w : World} {g o : Nat} {ys : List Im} (h : OwnAt w g o ys) (k : Nat) (hk : k < ys.length) (y : Im) (h0 : y.A = (it ys k).A) (h1 : y.c = (it ys k).c) (h2 : y.L = (it ys k).L) (h3 : y.d = (it ys k).d) (h4 : y.ns.length = (it ys k).ns.length) (h5 : y.ms.length = (it ys k).ms.length) :
    OwnAt (w.setCell ⟨g, o + k * 3 + 2, none⟩ (.bool y.late)) g o (ys.set k y) := by
  refine ⟨fun i hi => ?_, fun i j hi hj => ?_⟩
  · rw [List.length_set] at hi
    rw [it_set _ _ _ _ hk]
    have hc := imAt (h.cell i hi)
    apply im_mem
    by_cases e : i = k
    · subst e
      rw [if_pos rfl]
      refine ⟨?_, ?_, ?_⟩
      · rw [World.cell?_setCell_other w _ _ _ (by show _ ≠ _; intro q; injection q with q1 q2; simp [Flat.sz] at q2), h0, h4, h1]
        exact hc.c0
      · rw [World.cell?_setCell_other w _ _ _ (by show _ ≠ _; intro q; injection q with q1 q2; simp [Flat.sz] at q2), h2, h5, h3]
        exact hc.c1
      · exact World.cell?_setCell_same w ⟨g, o + i * 3 + 2, none⟩ _ hc.c2
    · rw [if_neg e]
      have hoff : ∀ j, j < 3 → (⟨g, o + i * 3 + j, none⟩ : Addr) ≠ ⟨g, o + k * 3 + 2, none⟩ := fun j hj q => by injection q with q1 q2; omega
      have hoff' : ∀ j, j < 3 → (⟨g, o + k * 3 + 2, none⟩ : Addr) ≠ ⟨g, o + i * 3 + j, none⟩ := fun j hj q => hoff j hj q.symm
      exact ⟨(World.cell?_setCell_other w _ _ _ (by first | exact hoff 0 (by decide) | exact hoff' 0 (by decide))).trans hc.c0, (World.cell?_setCell_other w _ _ _ (by first | exact hoff 1 (by decide) | exact hoff' 1 (by decide))).trans hc.c1, (World.cell?_setCell_other w _ _ _ (by first | exact hoff 2 (by decide) | exact hoff' 2 (by decide))).trans hc.c2⟩
  · rw [List.length_set] at hi
    exact (World.frozen?_setCell w _ _ _).trans (h.free i j hi hj)
theorem ImOwn.keep {w w' : World} {b o : Nat} {x : Im} (h : ImOwn w b o x) (hb : w'.heap[b]? = w.heap[b]?) : ImOwn w' b o x :=
  ⟨⟨(World.cell?_of_block (w := w) (a := ⟨b, o, none⟩) hb).trans h.c0, (World.cell?_of_block (w := w) (a := ⟨b, o + 1, none⟩) hb).trans h.c1, (World.cell?_of_block (w := w) (a := ⟨b, o + 2, none⟩) hb).trans h.c2⟩,
   (World.frozen?_of_block (w := w) (a := ⟨b, o, none⟩) hb).trans h.f0, (World.frozen?_of_block (w := w) (a := ⟨b, o + 1, none⟩) hb).trans h.f1, (World.frozen?_of_block (w := w) (a := ⟨b, o + 2, none⟩) hb).trans h.f2⟩
/-- The step of a mark: the names and the marks of an item written, then its flag. -/
theorem ImsOwn.mark {S : Nat → Prop} {w w1 w2 : World} {g o : Nat} {G : Nat → Nat} {ys : List Im} (h : ImsOwn S w (some ⟨g, o, none⟩) g G ys) (j : Nat) (hj : j < ys.length) (y : Im) (h0 : y.A = (it ys j).A) (h1 : y.c = (it ys j).c) (h2 : y.L = (it ys j).L) (h3 : y.d = (it ys j).d) (h4 : y.ns.length = (it ys j).ns.length) (h5 : y.ms.length = (it ys j).ms.length)
    (n1 : Owned (fun i => i = G (2 * j)) w1 (it ys j).A y.ns) (o1 : Only (fun i => i = G (2 * j)) w w1) (m2 : Owned (fun i => i = G (2 * j + 1)) w2 (it ys j).L y.ms) (o2 : Only (fun i => i = G (2 * j + 1)) w1 w2) :
    ImsOwn S (w2.setCell ⟨g, o + j * 3 + 2, none⟩ (.bool y.late)) (some ⟨g, o, none⟩) g G (ys.set j y) := by
  have o3 : Only (fun i => i = g) w2 (w2.setCell ⟨g, o + j * 3 + 2, none⟩ (.bool y.late)) :=
    Only.setCell (S := fun i => i = g) (Only.refl _ w2) (p := ⟨g, o + j * 3 + 2, none⟩) rfl _
  obtain ⟨g', o', e, rfl, hg, ho⟩ := h.out (by omega)
  injection e with e
  injection e with e1 e2
  subst e2
  have hG : ∀ a b, a ≠ b → a < 2 * ys.length → b < 2 * ys.length → G a ≠ G b := fun a b hne ha hb => by
    rcases Nat.lt_or_gt_of_ne hne with hlt | hlt
    · exact h.inj a b hlt hb
    · exact fun q => h.inj b a hlt ha q.symm
  refine ⟨fun _ => ⟨g', o, rfl, rfl, ?_, ?_⟩, fun i hi => ?_, fun i hi => ?_, fun i hi => h.ne i (by simpa using hi), fun i k hik hk => h.inj i k hik (by simpa using hk), fun _ => h.sg (by omega), fun i hi => h.sG i (by simpa using hi)⟩
  · exact Nat.lt_of_lt_of_le hg (Nat.le_trans o1.size (Nat.le_trans o2.size o3.size))
  · have hb1 := o1.block g' hg (fun q => h.ne (2 * j) (by omega) q.symm)
    have hb2 := o2.block g' (Nat.lt_of_lt_of_le hg o1.size) (fun q => h.ne (2 * j + 1) (by omega) q.symm)
    exact ((ho.block hb1).block hb2).setLate j hj y h0 h1 h2 h3 h4 h5
  · rw [List.length_set] at hi
    rw [it_set _ _ _ _ hj]
    by_cases e : i = j
    · subst e
      rw [if_pos rfl, h0]
      exact (n1.keep o2 (fun a q1 q2 => hG (2 * i) (2 * i + 1) (by omega) (by omega) (by omega) (q1.symm.trans q2))).keep o3 (fun a q1 q2 => h.ne (2 * i) (by omega) (q1.symm.trans q2))
    · rw [if_neg e]
      exact (((h.ns i hi).keep o1 (fun a q1 q2 => hG (2 * i) (2 * j) (by omega) (by omega) (by omega) (q1.symm.trans q2))).keep o2 (fun a q1 q2 => hG (2 * i) (2 * j + 1) (by omega) (by omega) (by omega) (q1.symm.trans q2))).keep o3 (fun a q1 q2 => h.ne (2 * i) (by omega) (q1.symm.trans q2))
  · rw [List.length_set] at hi
    rw [it_set _ _ _ _ hj]
    by_cases e : i = j
    · subst e
      rw [if_pos rfl, h2]
      exact m2.keep o3 (fun a q1 q2 => h.ne (2 * i + 1) (by omega) (q1.symm.trans q2))
    · rw [if_neg e]
      exact (((h.ms i hi).keep o1 (fun a q1 q2 => hG (2 * i + 1) (2 * j) (by omega) (by omega) (by omega) (q1.symm.trans q2))).keep o2 (fun a q1 q2 => hG (2 * i + 1) (2 * j + 1) (by omega) (by omega) (by omega) (q1.symm.trans q2))).keep o3 (fun a q1 q2 => h.ne (2 * i + 1) (by omega) (q1.symm.trans q2))

/-- The list with the marks of the first j items. -/
structure Marked (xs : List Im) (k j : Nat) (ys : List Im) : Prop where
  len : ys.length = xs.length
  done : ∀ i, i < j → it ys i = mkIm (kAt xs k i) (it xs i)
  todo : ∀ i, j ≤ i → i < xs.length → it ys i = it xs i
theorem Marked.step {xs ys : List Im} {k j : Nat} (h : Marked xs k j ys) (hj : j < xs.length) : Marked xs k (j + 1) (ys.set j (mkIm (kAt xs k j) (it xs j))) :=
  ⟨by rw [List.length_set]; exact h.len, fun i hi => by
    rw [it_set _ _ _ _ (by have := h.len; omega)]
    by_cases e : i = j
    · rw [if_pos e, e]
    · rw [if_neg e]
      exact h.done i (by omega), fun i h1 h2 => by
    rw [it_set _ _ _ _ (by have := h.len; omega), if_neg (by omega)]
    exact h.todo i (by omega) h2⟩
theorem markIntS_i (S : Nat → Prop) (A : Option Addr) (c : Nat) (xs : List Int) (m : Int) (k : Nat) (w : World) (hm : m = (k : Int)) (hr : Owned S w A xs) (hl : xs.length ≤ 1048576) (hk2 : k ≤ 1000000000000000) :
    Calls Tryd.prog 23 #[.slice A xs.length c, .int .i64 m] w fun e w' => e = .returned (.int .i64 ((k + xs.length : Nat) : Int)) ∧ Owned S w' A (seqF (k : Int) xs.length) ∧ Only S w w' := by
  subst hm
  exact (markIntS_any S A c xs k w hr hl (by omega) (by omega)).mono (by rintro e w' ⟨rfl, h⟩; exact ⟨by congr 2, h⟩)

set_option maxHeartbeats 1000000 in
theorem markItemS_any (S : Nat → Prop) (P : Option Addr) (c : Nat) (g : Nat) (G : Nat → Nat) (xs : List Im) (k : Nat) (w : World) (hr : ImsOwn S w P g G xs) (hl : ImsFits xs) (hk : 0 < k) (hk2 : k ≤ 10000000000000) :
    Calls Tryd.prog 22 #[.slice P xs.length c, .int .i64 k] w fun e w' => e = .returned (.int .i64 ((kAt xs k xs.length : Nat) : Int)) ∧ (∃ ys, Marked xs k xs.length ys ∧ ImsOwn S w' P g G ys) ∧ Only S w w' := by
  rcases Nat.eq_zero_or_pos xs.length with h0 | h0
  · obtain rfl : xs = [] := List.eq_nil_of_length_eq_zero h0
    have HR := Lib.hid hr
    clear hr h0 hl
    go_enter Tryd.func22, Tryd.ntmps22
    go_wp2
    go_loop [1, 5] (fun q i => i = .int .i64 0 ∧ q = .int .i64 k) (fun _ _ => 0)
    case atStart => exact ⟨rfl, rfl⟩
    case round =>
      obtain ⟨rfl, rfl⟩ := hrel
      go_wp2
      go_ret
      exact ⟨by simp [kAt], ⟨[], ⟨rfl, fun i hi => absurd hi (by simp), fun i _ hi => absurd hi (by simp)⟩, HR.out⟩, Only.refl _ _⟩
  · obtain ⟨g', o, rfl, rfl, hg, ho⟩ := hr.out h0
    have HR := Lib.hid hr
    have HF := Lib.hid hl.each
    have HK := Lib.hid (kAt_small xs k hl hk2)
    have hl' := hl.len
    clear hr ho hg hl
    go_enter Tryd.func22, Tryd.ntmps22
    go_wp2
    go_loopw [1, 5] (fun q i wr => ∃ (j : Nat) (ys : List Im), j ≤ xs.length ∧ i = .int .i64 j ∧ q = .int .i64 ((kAt xs k j : Nat) : Int) ∧ Hid (Marked xs k j ys) ∧ Hid (ImsOwn S wr (some ⟨g', o, none⟩) g' G ys) ∧ Only S w wr) (fun _ i _ => xs.length - (intOf i).toNat)
    case atStart => exact ⟨0, xs, Nat.zero_le _, rfl, rfl, Lib.hid ⟨rfl, fun i hi => absurd hi (by omega), fun i _ _ => rfl⟩, HR, Only.refl _ _⟩
    case round =>
      obtain ⟨j, ys, hj, rfl, rfl, HM, HO, hn⟩ := hrel
      have HN := Lib.hid hn
      clear hn
      by_cases hlt : j < xs.length
      · have hys := HM.out.len
        have hjy : j < ys.length := by omega
        have hitem := HM.out.todo j (Nat.le_refl _) hlt
        have hfit := HF.out j hlt
        have hfn := hfit.ns.1
        have hfm := hfit.ms
        obtain ⟨k1, k2⟩ := HK.out j hj
        obtain ⟨g1, o1, e1, e2, hg, ho⟩ := HO.out.out (by omega)
        injection e1 with e1
        injection e1 with e3 e4
        subst e4 e2
        have hW := ho.im j hjy
        rw [hitem] at hW
        have HNS := Lib.hid (HO.out.ns j hjy)
        have HMS := Lib.hid (HO.out.ms j hjy)
        have HGN := Lib.hid (HO.out.ne (2 * j) (by omega))
        have HGM := Lib.hid (HO.out.ne (2 * j + 1) (by omega))
        have HGG := Lib.hid (HO.out.inj (2 * j) (2 * j + 1) (by omega) (by omega))
        have HG0 := Lib.hid (HO.out.sG (2 * j) (by omega))
        have HG1 := Lib.hid (HO.out.sG (2 * j + 1) (by omega))
        rw [hitem] at HNS HMS
        have HW := Lib.hid hW
        obtain ⟨⟨c0, c1, c2⟩, f0, f1, f2⟩ := hW
        clear ho
        have q1 : (0 : Int) ≤ (j : Int) := by omega
        have q2 : (j : Int) < (xs.length : Int) := by omega
        go_wp2_with fail
        refine (markStringS_any (fun i => i = G (2 * j)) (it xs j).A (it xs j).c (it xs j).ns (kAt xs k j) _ HNS.out hfit.ns.1 (by omega) (by omega)).mono ?_
        rintro e w1 ⟨rfl, hn1, on1⟩
        have hW1 := HW.out.keep (on1.block g1 hg (fun q => HGN.out q.symm))
        have hg1 : g1 < w1.heap.size := Nat.lt_of_lt_of_le hg on1.size
        have HM1 := Lib.hid (HMS.out.keep on1 (fun a q1 q2 => HGG.out (q2.symm.trans q1)))
        have HN1 := Lib.hid hn1
        have HO1 := Lib.hid on1
        have HW1 := Lib.hid hW1
        obtain ⟨⟨c0, c1, c2⟩, f0, f1, f2⟩ := hW1
        clear hn1 on1
        go_wp2_with fail
        refine (markIntS_i (fun i => i = G (2 * j + 1)) (it xs j).L (it xs j).d (it xs j).ms _ (kAt xs k j + (it xs j).ns.length) _ (by omega) HM1.out hfit.ms (by omega)).mono ?_
        rintro e w2 ⟨rfl, hm2, on2⟩
        have hW2 := HW1.out.keep (on2.block g1 hg1 (fun q => HGM.out q.symm))
        have hg2 : g1 < w2.heap.size := Nat.lt_of_lt_of_le hg1 on2.size
        have HM2 := Lib.hid hm2
        have HO2 := Lib.hid on2
        obtain ⟨⟨c0, c1, c2⟩, f0, f1, f2⟩ := hW2
        clear hm2 on2 HW1
        go_wp2_with fail
        have HX := HO.out.mark j hjy (mkIm (kAt xs k j) (it xs j)) (by rw [hitem]; rfl) (by rw [hitem]; rfl) (by rw [hitem]; rfl) (by rw [hitem]; rfl) (by rw [hitem]; exact seqS_len _ _) (by rw [hitem]; exact seqF_len _ _) (by rw [hitem]; exact HN1.out) HO1.out (by rw [hitem]; exact HM2.out) HO2.out
        rw [late_eq] at HX
        have HXX := Lib.hid HX
        have HNN := Lib.hid ((HN.out.trans (HO1.out.mono (fun i e => e ▸ HG0.out))).trans (HO2.out.mono (fun i e => e ▸ HG1.out)))
        have hmk := HM.out.step hlt
        have HMK := Lib.hid hmk
        clear HX hmk
        go_roundw
        case rel => exact ⟨j + 1, _, by omega, by go_num, by simp only [kAt]; go_num, HMK, HXX, HNN.out.setCell (HO.out.sg (by omega)) _⟩
        case measure => simp [intOf]; omega
      · obtain rfl : j = xs.length := by omega
        go_wp2
        go_ret
        exact ⟨rfl, ⟨ys, HM.out, HO.out⟩, HN.out⟩
end Go.Proofs.YtnlcdfaojcnkpaaDoor

namespace Go.Proofs.YtnlcdfaojcnkpaaDoor
open Go.ChangeShapes Go.WideShapes Go.ChangeAt Go.RowKit
set_option linter.unusedVariables false

theorem mk_at {w : World} {b o k : Nat} {x : Im} (h : ImAt w b o (mkIm k x)) :
    w.cell? ⟨b, o, none⟩ = some (.slice x.A x.ns.length x.c) ∧ w.cell? ⟨b, o + 1, none⟩ = some (.slice x.L x.ms.length x.d) ∧ w.cell? ⟨b, o + 2, none⟩ = some (.bool (((k : Int) + (x.ns.length : Int) + (x.ms.length : Int)) % 3 == 0)) := by
  have h0 := h.c0
  have h1 := h.c1
  have h2 := h.c2
  rw [late_eq] at h2
  rw [show (mkIm k x).ns.length = x.ns.length from seqS_len _ _] at h0
  rw [show (mkIm k x).ms.length = x.ms.length from seqF_len _ _] at h1
  exact ⟨h0, h1, h2⟩
theorem heldIntS_i (A : Option Addr) (c n : Nat) (m : Int) (k : Nat) (w : World) (hm : m = (k : Int)) (hr : Lst w w.heap.size A (seqF (k : Int) n)) (hl : n ≤ 1048576) (hk2 : k ≤ 1000000000000000) :
    Calls Tryd.prog 24 #[.slice A n c, .int .i64 m] w fun e w' => e = .returned (.int .i64 ((k + n : Nat) : Int)) ∧ w' = w := by
  subst hm
  exact (heldIntS_any A c n k w w.heap.size hr hl (by omega) (by omega)).mono (by rintro e w' ⟨rfl, h⟩; exact ⟨by congr 2, h⟩)
theorem markItemS_n (S : Nat → Prop) (P : Option Addr) (c : Nat) (g : Nat) (G : Nat → Nat) (xs ys : List Im) (m : Int) (k : Nat) (w : World) (hm : m = (k : Int)) (hs : SameS xs ys) (hr : ImsOwn S w P g G ys) (hl : ImsFits xs) (hk : 0 < k) (hk2 : k ≤ 10000000000000) :
    Calls Tryd.prog 22 #[.slice P xs.length c, .int .i64 m] w fun e w' => (∃ n : Int, e = .returned (.int .i64 n) ∧ 0 ≤ n) ∧ Only S w w' := by
  subst hm
  rw [← hs.len]
  exact (markItemS_any S P c g G ys k w hr (hs.fits hl) hk hk2).mono (by rintro e w' ⟨rfl, _, h⟩; exact ⟨⟨_, rfl, by omega⟩, h⟩)
theorem ims_kept {w w' : World} {P : Option Addr} {xs : List Im} (h : Ims w w.heap.size P xs) (hb : Below w.heap.size w w') : Ims w' w'.heap.size P xs := h.next hb
theorem markStringS_i (S : Nat → Prop) (A : Option Addr) (c : Nat) (xs : List ByteArray) (m : Int) (k : Nat) (w : World) (hm : m = (k : Int)) (hr : Owned S w A xs) (hl : xs.length ≤ 1048576) (hk : 0 < k) (hk2 : k ≤ 1000000000000000) :
    Calls Tryd.prog 54 #[.slice A xs.length c, .int .i64 m] w fun e w' => e = .returned (.int .i64 ((k + xs.length : Nat) : Int)) ∧ Owned S w' A (seqS k xs.length) ∧ Only S w w' := by
  subst hm
  exact markStringS_any S A c xs k w hr hl hk hk2
end Go.Proofs.YtnlcdfaojcnkpaaDoor

namespace Go.Proofs.YtnlcdfaojcnkpaaDoor
open Go.ChangeShapes Go.WideShapes Go.ChangeAt Go.RowKit
set_option linter.unusedVariables false

def bump (l : List Int) (n : Nat) : List Int := l.set n (it l n + 1)
/-- The counts with the first j of some marks. -/
def cntM (l : List Int) (ms : List Int) : Nat → List Int
  | 0 => l
  | j + 1 => bump (cntM l ms j) (it ms j).toNat
/-- The counts of the first k items. -/
def cntX (xs : List Im) : Nat → List Int
  | 0 => List.replicate 4 0
  | k + 1 => cntM (cntX xs k) (it xs k).ms (it xs k).ms.length
theorem bump_len (l : List Int) (n : Nat) : (bump l n).length = l.length := by simp [bump]
theorem cntM_len (l ms : List Int) : ∀ j, (cntM l ms j).length = l.length
  | 0 => rfl
  | j + 1 => by rw [cntM, bump_len, cntM_len l ms j]
theorem cntX_len (xs : List Im) : ∀ k, (cntX xs k).length = 4
  | 0 => rfl
  | k + 1 => by rw [cntX, cntM_len, cntX_len xs k]
/-- No count is negative or above a bound. -/
def Small (l : List Int) (b : Int) : Prop := ∀ i, i < l.length → 0 ≤ it l i ∧ it l i ≤ b
theorem small_bump {l : List Int} {b : Int} (h : Small l b) (n : Nat) (hb : 0 ≤ b) : Small (bump l n) (b + 1) := fun i hi => by
  rw [bump_len] at hi
  have hi' := h i hi
  unfold bump
  by_cases hn : n < l.length
  · rw [it_set _ _ _ _ hn]
    by_cases e : i = n
    · subst e
      rw [if_pos rfl]
      omega
    · rw [if_neg e]
      omega
  · rw [List.set_eq_of_length_le (by omega)]
    omega
theorem small_cntM {l : List Int} {b : Int} (h : Small l b) (hb : 0 ≤ b) (ms : List Int) : ∀ j : Nat, Small (cntM l ms j) (b + j)
  | 0 => by simpa [cntM] using h
  | j + 1 => by
    have := small_bump (small_cntM h hb ms j) (it ms j).toNat (by omega)
    rw [cntM]
    intro i hi
    have := this i hi
    omega
theorem small_cntX (xs : List Im) (hl : ListOk xs) : ∀ k : Nat, k ≤ xs.length → Small (cntX xs k) (3 * k)
  | 0, _ => fun i hi => by
    rw [cntX_len] at hi
    have : it (cntX xs 0) i = 0 := by
      unfold it cntX
      rw [List.getD_eq_getElem?_getD, List.getElem?_replicate, if_pos hi]
      rfl
    rw [this]
    simp
  | k + 1, hk => by
    have h1 := small_cntM (small_cntX xs hl k (by omega)) (by omega) (it xs k).ms (it xs k).ms.length
    have h2 := hl.each k (by omega)
    have h3 := h2.eq
    have h4 := h2.hi
    rw [cntX]
    intro i hi
    have := h1 i hi
    omega
/-- The counts, or nothing of a list that is not valid. -/
noncomputable def cntF (xs : List Im) : List Int := @ite _ (ListOk xs) (Classical.propDecidable _) (cntX xs xs.length) []
theorem cntF_yes {xs : List Im} (h : ListOk xs) : cntF xs = cntX xs xs.length := by unfold cntF; rw [if_pos h]
theorem cntF_no {xs : List Im} (h : ¬ ListOk xs) : cntF xs = [] := by unfold cntF; rw [if_neg h]
theorem ListOk.same {xs ys : List Im} (h : SameS xs ys) (k : ListOk xs) : ListOk ys :=
  ⟨by have := h.len; have := k.len; omega, fun i hi => by have hk := k.each i (by have := h.len; omega); have he := h.each i (by have := h.len; omega); rw [he.ns, he.ms]; exact hk⟩
theorem cntX_same {xs ys : List Im} (h : SameS xs ys) : ∀ k, k ≤ xs.length → cntX ys k = cntX xs k
  | 0, _ => rfl
  | k + 1, hk => by rw [cntX, cntX, cntX_same h k (by omega), (h.each k (by omega)).ms]
theorem cntF_same {xs ys : List Im} (h : SameS xs ys) : cntF ys = cntF xs := by
  by_cases k : ListOk xs
  · rw [cntF_yes k, cntF_yes (k.same h), h.len, cntX_same h _ (Nat.le_refl _)]
  · rw [cntF_no k, cntF_no (fun q => k (q.same h.symm))]
theorem cntF_len (xs : List Im) : (cntF xs).length ≤ 4 := by
  by_cases k : ListOk xs
  · rw [cntF_yes k, cntX_len]; exact Nat.le_refl _
  · rw [cntF_no k]; simp
/-- What a law's walk asks of an answer. -/
structure Short {α : Type} (l : List α) : Prop where
  len : l.length ≤ 1048576
theorem cntF_small (xs : List Im) : Short (cntF xs) := ⟨by have := cntF_len xs; omega⟩

end Go.Proofs.YtnlcdfaojcnkpaaDoor
