/- Items: names, marks and a bool; slices of them, as the laws' helpers measure and copy them. -/
import Derived.Test.YtbhfhjhegcfdkaaStrF
import Derived.Test.YtbhfhjhegcfdkaaIntF
namespace Go.Proofs.Ytbhfhjhegcfdkaa
open Go.ChangeShapes Go.WideShapes Go.ChangeAt Go.RowKit
set_option linter.unusedVariables false

/-- An item, and where its slices lie. -/
structure Im where
  A : Option Addr
  c : Nat
  L : Option Addr
  d : Nat
  ns : List ByteArray
  ms : List Int
  late : Bool
def Im.cs (x : Im) : List Value := [.slice x.A x.ns.length x.c, .slice x.L x.ms.length x.d, .bool x.late]
instance : Flat Im where
  default := ⟨none, 0, none, 0, [], [], false⟩
  sz := 3
  cells := Im.cs
  len := fun _ => rfl
@[reducible] def Im.val (x : Im) : Value := .agg #[.slice x.A x.ns.length x.c, .slice x.L x.ms.length x.d, .bool x.late]
/-- The three cells of an item. -/
structure ImAt (w : World) (b o : Nat) (x : Im) : Prop where
  c0 : w.cell? ⟨b, o, none⟩ = some (.slice x.A x.ns.length x.c)
  c1 : w.cell? ⟨b, o + 1, none⟩ = some (.slice x.L x.ms.length x.d)
  c2 : w.cell? ⟨b, o + 2, none⟩ = some (.bool x.late)
theorem imAt {w : World} {b o : Nat} {x : Im} (h : CellsAt w b o (Flat.cells x)) : ImAt w b o x := ⟨h 0 _ rfl, h 1 _ rfl, h 2 _ rfl⟩
theorem Lst.im {w : World} {B : Nat} {A : Option Addr} {xs : List Im} (h : Lst w B A xs) (hp : 0 < xs.length) : ∃ b o, A = some ⟨b, o, none⟩ ∧ b < B ∧ ∀ i, i < xs.length → ImAt w b (o + i * 3) (it xs i) := by
  obtain ⟨b, o, h1, h2, h3⟩ := h hp
  exact ⟨b, o, h1, h2, fun i hi => imAt (h3 i hi)⟩
theorem ImAt.below {w w' : World} {B b o : Nat} {x : Im} (h : ImAt w b o x) (hb : Below B w w') (hB : b < B) : ImAt w' b o x :=
  ⟨(hb.cell (p := ⟨b, o, none⟩) hB).trans h.c0, (hb.cell (p := ⟨b, o + 1, none⟩) hB).trans h.c1, (hb.cell (p := ⟨b, o + 2, none⟩) hB).trans h.c2⟩
/-- The slices of an item lie below B. -/
structure ImIn (w : World) (B : Nat) (x : Im) : Prop where
  ns : Lst w B x.A x.ns
  ms : Lst w B x.L x.ms
theorem ImIn.below {w w' : World} {B B' : Nat} {x : Im} (h : ImIn w B x) (hb : Below B' w w') (hB : B ≤ B') : ImIn w' B x := ⟨h.ns.below hb hB, h.ms.below hb hB⟩
theorem ImIn.up {w : World} {B B' : Nat} {x : Im} (h : ImIn w B x) (hB : B ≤ B') : ImIn w B' x := ⟨h.ns.up hB, h.ms.up hB⟩
theorem ImIn.next {w w' : World} {x : Im} (h : ImIn w w.heap.size x) (hb : Below w.heap.size w w') : ImIn w' w'.heap.size x := (h.below hb (Nat.le_refl _)).up hb.size
/-- A slice of items below B, with their slices. -/
structure Ims (w : World) (B : Nat) (P : Option Addr) (xs : List Im) : Prop where
  out : Lst w B P xs
  each : ∀ i, i < xs.length → ImIn w B (it xs i)
theorem Ims.below {w w' : World} {B B' : Nat} {P : Option Addr} {xs : List Im} (h : Ims w B P xs) (hb : Below B' w w') (hB : B ≤ B') : Ims w' B P xs := ⟨h.out.below hb hB, fun i hi => (h.each i hi).below hb hB⟩
theorem Ims.up {w : World} {B B' : Nat} {P : Option Addr} {xs : List Im} (h : Ims w B P xs) (hB : B ≤ B') : Ims w B' P xs := ⟨h.out.up hB, fun i hi => (h.each i hi).up hB⟩
theorem Ims.next {w w' : World} {P : Option Addr} {xs : List Im} (h : Ims w w.heap.size P xs) (hb : Below w.heap.size w w') : Ims w' w'.heap.size P xs := (h.below hb (Nat.le_refl _)).up hb.size
theorem Ims.nil (w : World) (B : Nat) (P : Option Addr) : Ims w B P [] := ⟨Lst.nil _ _ _, fun i hi => absurd hi (by simp)⟩
/-- What the memory can hold. -/
structure ItLen (x : Im) : Prop where
  ns : SLen x.ns
  ms : x.ms.length ≤ 9223372036854775807
structure ItFits (x : Im) : Prop where
  ns : SFits x.ns
  ms : x.ms.length ≤ 1048576
structure ImsLen (xs : List Im) : Prop where
  len : xs.length ≤ 9223372036854775807
  each : ∀ i, i < xs.length → ItLen (it xs i)
structure ImsFits (xs : List Im) : Prop where
  len : xs.length ≤ 1048576
  each : ∀ i, i < xs.length → ItFits (it xs i)

theorem below_alloc (w : World) (o : Obj) : Below w.heap.size w (w.alloc o) := (Below.refl _ _).alloc (Nat.le_refl _) _
theorem below_next {w w1 w2 : World} (h : Below w.heap.size w w1) (k : Below w1.heap.size w1 w2) : Below w.heap.size w w2 := h.trans (k.mono h.size)
/-- An item in a block of its own. -/
theorem imBox (w : World) (t : TypeId) (x : Im) : ImAt (w.alloc (.cells #[.slice x.A x.ns.length x.c, .slice x.L x.ms.length x.d, .bool x.late] t)) w.heap.size 0 x := by
  constructor <;> simp

theorem szItem_any (x : Im) (left : Int) (w : World) (hr : ImIn w w.heap.size x) (hl : ItLen x) (h0 : 0 ≤ left) (h1 : left ≤ 1048576) :
    Calls Try.prog 34 #[x.val, .int .i64 left] w fun e w' => (∃ q : Int, e = .returned (.int .i64 q) ∧ (q < 0 ∨ 0 ≤ q ∧ q ≤ left ∧ Hid (ItFits x))) ∧ Below w.heap.size w w' := by
  have hb0 := below_alloc w (.cells #[.slice x.A x.ns.length x.c, .slice x.L x.ms.length x.d, .bool x.late] 66)
  have HR := Lib.hid (hr.next hb0)
  have hX := imBox w 66 x
  have x1 := hX.c1
  have HB0 := Lib.hid hb0
  have HL := Lib.hid hl
  clear hr hl hb0 hX
  unfold Im.val
  go_enter Try.func34, Try.ntmps34
  go_wp2_with (go_at_call 58; refine (szStringS_any x.A x.c x.ns left _ HR.out.ns HL.out.ns h0 h1).mono ?_; rintro e w2 ⟨⟨q, rfl, hq⟩, rfl⟩; have HQ := Lib.hid hq; clear hq)
  · go_ret
    exact ⟨⟨_, rfl, .inl (by omega)⟩, HB0.out⟩
  · obtain ⟨h2, h3, h4⟩ : 0 ≤ q ∧ q ≤ left ∧ Hid (SFits x.ns) := by
      rcases HQ.out with h | h
      · omega
      · exact h
    go_wp2_with (go_at_call 59; refine (szIntS_any x.L x.d x.ms _ _ HL.out.ms h2 (by omega)).mono ?_; rintro e w3 ⟨⟨p, rfl, hp⟩, rfl⟩; have HP := Lib.hid hp; clear hp)
    · go_ret
      exact ⟨⟨_, rfl, .inl (by omega)⟩, HB0.out⟩
    · go_ret
      refine ⟨⟨_, rfl, .inr ?_⟩, HB0.out⟩
      rcases HP.out with h | h
      · omega
      · exact ⟨h.1, by omega, Lib.hid ⟨h4.out, h.2.2⟩⟩

theorem szItemS_any (P : Option Addr) (c : Nat) (xs : List Im) (left : Int) (w : World) (hr : Ims w w.heap.size P xs) (hl : ImsLen xs) (h0 : 0 ≤ left) (h1 : left ≤ 1048576) :
    Calls Try.prog 13 #[.slice P xs.length c, .int .i64 left] w fun e w' => (∃ q : Int, e = .returned (.int .i64 q) ∧ (q < 0 ∨ 0 ≤ q ∧ q ≤ left ∧ Hid (ImsFits xs))) ∧ Below w.heap.size w w' := by
  have HR := Lib.hid hr
  have HN := Lib.hid hl.each
  have hl' := hl.len
  clear hr hl
  go_enter Try.func13, Try.ntmps13
  by_cases h : left - (xs.length : Int) < 0
  · go_wp2
    go_ret
    exact ⟨⟨_, rfl, by omega⟩, Below.refl _ _⟩
  · go_wp2
    go_loopw [1, 5] (fun q i wr => ∃ (k : Nat) (p : Int), k ≤ xs.length ∧ i = .int .i64 k ∧ q = .int .i64 p ∧ 0 ≤ p ∧ p ≤ left ∧ Hid (∀ i, i < k → ItFits (it xs i)) ∧ Below w.heap.size w wr) (fun _ i _ => xs.length - (intOf i).toNat)
    case atStart => exact ⟨0, left - (xs.length : Int), by omega, rfl, rfl, by omega, by omega, Lib.hid (fun i hi => absurd hi (by omega)), Below.refl _ _⟩
    case round =>
      obtain ⟨k, p, hk, rfl, rfl, hp0, hp1, HA, hb⟩ := hrel
      by_cases hlt : k < xs.length
      · obtain ⟨b, o, rfl, hbl, hc⟩ := HR.out.out.im (by omega)
        obtain ⟨c0, c1, c2⟩ := (hc k hlt).below hb hbl
        have HE := Lib.hid (((HR.out.each k hlt).next hb))
        have HS := Lib.hid (HN.out k hlt)
        have HB := Lib.hid hb
        clear hc hb
        go_wp2_with (go_at_call 34; refine (szItem_any (it xs k) _ _ HE.out HS.out hp0 (by omega)).mono ?_; rintro e w2 ⟨⟨q, rfl, hq⟩, hb2⟩; have HQ := Lib.hid hq; have HB2 := Lib.hid (below_next HB.out hb2); clear hq hb2)
        · go_ret
          exact ⟨⟨_, rfl, by omega⟩, HB2.out⟩
        · obtain ⟨hq0, hq1, HF⟩ : 0 ≤ q ∧ q ≤ p ∧ Hid (ItFits (it xs k)) := by
            rcases HQ.out with h | h
            · omega
            · exact h
          go_roundw
          case rel => exact ⟨k + 1, q, by omega, by go_num, rfl, hq0, by omega, Lib.hid (fun i hi => by
            rcases Nat.lt_or_ge i k with h | h
            · exact HA.out i h
            · obtain rfl : i = k := by omega
              exact HF.out), HB2.out⟩
          case measure => simp [intOf]; omega
      · obtain rfl : k = xs.length := by omega
        go_wp2
        go_ret
        exact ⟨⟨_, rfl, .inr ⟨hp0, hp1, Lib.hid ⟨by omega, HA.out⟩⟩⟩, hb⟩

/-- An item with its slices in the blocks g1 and g2. -/
def Im.cpy (x : Im) (g1 g2 : Nat) : Im := ⟨some ⟨g1, 0, none⟩, x.ns.length, some ⟨g2, 0, none⟩, x.ms.length, x.ns, x.ms, x.late⟩
/-- Three cells that may be written. -/
structure ImMem (w : World) (b : Nat) (v0 v1 v2 : Value) : Prop where
  c0 : w.cell? ⟨b, 0, none⟩ = some v0
  c1 : w.cell? ⟨b, 1, none⟩ = some v1
  c2 : w.cell? ⟨b, 2, none⟩ = some v2
  fr : ∀ j, w.frozen? ⟨b, j, none⟩ = false
theorem ImMem.below {w w' : World} {B b : Nat} {v0 v1 v2 : Value} (h : ImMem w b v0 v1 v2) (hb : Below B w w') (hB : b < B) : ImMem w' b v0 v1 v2 :=
  ⟨(hb.cell (p := ⟨b, 0, none⟩) hB).trans h.c0, (hb.cell (p := ⟨b, 1, none⟩) hB).trans h.c1, (hb.cell (p := ⟨b, 2, none⟩) hB).trans h.c2, fun j => (World.frozen?_of_block (w := w) (a := ⟨b, j, none⟩) (hb.block b hB)).trans (h.fr j)⟩
theorem imMem_new (w : World) (b : Nat) (t : TypeId) (hb : w.heap.size = b) (v0 v1 v2 : Value) : ImMem (w.alloc (.cells #[v0, v1, v2] t)) b v0 v1 v2 := by
  subst hb
  constructor <;> first | simp | (intro j; simp)
theorem ImMem.set0 {w : World} {b : Nat} {v0 v1 v2 : Value} (h : ImMem w b v0 v1 v2) (u : Value) : ImMem (w.setCell ⟨b, 0, none⟩ u) b u v1 v2 :=
  ⟨World.cell?_setCell_same w ⟨b, 0, none⟩ _ h.c0, (World.cell?_setCell_other w _ _ _ (by simp)).trans h.c1, (World.cell?_setCell_other w _ _ _ (by simp)).trans h.c2, fun j => (World.frozen?_setCell w _ _ _).trans (h.fr j)⟩
theorem ImMem.set1 {w : World} {b : Nat} {v0 v1 v2 : Value} (h : ImMem w b v0 v1 v2) (u : Value) : ImMem (w.setCell ⟨b, 1, none⟩ u) b v0 u v2 :=
  ⟨(World.cell?_setCell_other w _ _ _ (by simp)).trans h.c0, World.cell?_setCell_same w ⟨b, 1, none⟩ _ h.c1, (World.cell?_setCell_other w _ _ _ (by simp)).trans h.c2, fun j => (World.frozen?_setCell w _ _ _).trans (h.fr j)⟩
theorem ImMem.set2 {w : World} {b : Nat} {v0 v1 v2 : Value} (h : ImMem w b v0 v1 v2) (u : Value) : ImMem (w.setCell ⟨b, 2, none⟩ u) b v0 v1 u :=
  ⟨(World.cell?_setCell_other w _ _ _ (by simp)).trans h.c0, (World.cell?_setCell_other w _ _ _ (by simp)).trans h.c1, World.cell?_setCell_same w ⟨b, 2, none⟩ _ h.c2, fun j => (World.frozen?_setCell w _ _ _).trans (h.fr j)⟩
theorem ImMem.other {w : World} {b : Nat} {v0 v1 v2 : Value} (h : ImMem w b v0 v1 v2) (p : Addr) (hp : p.block ≠ b) (u : Value) : ImMem (w.setCell p u) b v0 v1 v2 := by
  have hn : ∀ j, p ≠ ⟨b, j, none⟩ := fun j e => hp (by rw [e])
  have hn' : ∀ j, (⟨b, j, none⟩ : Addr) ≠ p := fun j e => hp (by rw [← e])
  exact ⟨(World.cell?_setCell_other w _ _ _ (by first | exact hn _ | exact hn' _)).trans h.c0, (World.cell?_setCell_other w _ _ _ (by first | exact hn _ | exact hn' _)).trans h.c1, (World.cell?_setCell_other w _ _ _ (by first | exact hn _ | exact hn' _)).trans h.c2, fun j => (World.frozen?_setCell w _ _ _).trans (h.fr j)⟩
end Go.Proofs.Ytbhfhjhegcfdkaa
