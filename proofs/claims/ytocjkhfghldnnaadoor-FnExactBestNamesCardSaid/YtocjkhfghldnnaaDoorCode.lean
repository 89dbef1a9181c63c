/- Codes: elements, limits and four ints; as the laws' helpers measure, copy, compare and mark them. -/
import Derived.Test.YtocjkhfghldnnaaDoorElq
import Derived.Test.YtocjkhfghldnnaaDoorIntF
import Derived.Test.YtocjkhfghldnnaaDoorHeld
namespace Go.Proofs.YtocjkhfghldnnaaDoor
open Go.ChangeShapes Go.WideShapes Go.ChangeAt Go.RowKit
set_option linter.unusedVariables false

structure Cd where
  els : List El
  lims : List Int
  rep : Int
  bon : Int
  kee : Int
  fal : Int
@[reducible] def Cd.val (x : Cd) (A : Option Addr) (c : Nat) (L : Option Addr) (d : Nat) : Value :=
  .agg #[.slice A x.els.length c, .slice L x.lims.length d, .int .i64 x.rep, .int .i64 x.bon, .int .i64 x.kee, .int .i64 x.fal]
structure CdAt (w : World) (A L : Option Addr) (x : Cd) : Prop where
  els : Lst w w.heap.size A x.els
  lims : Lst w w.heap.size L x.lims
theorem CdAt.below {w w' : World} {A L : Option Addr} {x : Cd} (h : CdAt w A L x) (hb : Below w.heap.size w w') : CdAt w' A L x :=
  ⟨(h.els.below hb (Nat.le_refl _)).up hb.size, (h.lims.below hb (Nat.le_refl _)).up hb.size⟩
def CdFits (x : Cd) : Prop := Fits x.els ∧ x.lims.length ≤ 1048576
/-- No slice and no string is longer than the memory can hold. -/
structure CdLen (x : Cd) : Prop where
  els : x.els.length ≤ 9223372036854775807
  names : ∀ i, i < x.els.length → (it x.els i).name.size ≤ 9223372036854775807
  lims : x.lims.length ≤ 9223372036854775807

/-- The cells of a code that lies in block b. -/
structure CdBox (w : World) (b : Nat) (A : Option Addr) (c : Nat) (L : Option Addr) (d : Nat) (x : Cd) : Prop where
  c0 : w.cell? ⟨b, 0, none⟩ = some (.slice A x.els.length c)
  c1 : w.cell? ⟨b, 1, none⟩ = some (.slice L x.lims.length d)
  c2 : w.cell? ⟨b, 2, none⟩ = some (.int .i64 x.rep)
  c3 : w.cell? ⟨b, 3, none⟩ = some (.int .i64 x.bon)
  c4 : w.cell? ⟨b, 4, none⟩ = some (.int .i64 x.kee)
  c5 : w.cell? ⟨b, 5, none⟩ = some (.int .i64 x.fal)
theorem CdBox.below {w w' : World} {B b : Nat} {A : Option Addr} {c : Nat} {L : Option Addr} {d : Nat} {x : Cd} (h : CdBox w b A c L d x) (hb : Below B w w') (hB : b < B) : CdBox w' b A c L d x :=
  ⟨(hb.cell (p := ⟨b, 0, none⟩) hB).trans h.c0, (hb.cell (p := ⟨b, 1, none⟩) hB).trans h.c1, (hb.cell (p := ⟨b, 2, none⟩) hB).trans h.c2, (hb.cell (p := ⟨b, 3, none⟩) hB).trans h.c3, (hb.cell (p := ⟨b, 4, none⟩) hB).trans h.c4, (hb.cell (p := ⟨b, 5, none⟩) hB).trans h.c5⟩
theorem cdBox_new (w : World) (b : Nat) (t : TypeId) (hb : w.heap.size = b) (A : Option Addr) (c : Nat) (L : Option Addr) (d : Nat) (x : Cd) :
    CdBox (w.alloc (.cells #[.slice A x.els.length c, .slice L x.lims.length d, .int .i64 x.rep, .int .i64 x.bon, .int .i64 x.kee, .int .i64 x.fal] t)) b A c L d x := by
  subst hb
  constructor <;> simp

theorem szCode_any (A L : Option Addr) (c d : Nat) (x : Cd) (w : World) (hr : CdAt w A L x) (hl : CdLen x) :
    Calls Tryd.prog 7 #[x.val A c L d, .int .i64 1048576] w fun e w' => (∃ q : Int, e = .returned (.int .i64 q) ∧ (q < 0 ∨ 0 ≤ q ∧ q ≤ 1048576 ∧ Hid (CdFits x))) ∧ Below w.heap.size w w' := by
  have hb0 : Below w.heap.size w (w.alloc (.cells #[.slice A x.els.length c, .slice L x.lims.length d, .int .i64 x.rep, .int .i64 x.bon, .int .i64 x.kee, .int .i64 x.fal] 25)) := (Below.refl _ _).alloc (Nat.le_refl _) _
  have HR := Lib.hid (hr.below hb0)
  have HX := Lib.hid (cdBox_new w _ 25 rfl A c L d x)
  have HB0 := Lib.hid hb0
  have hs0 : w.heap.size < (w.alloc (.cells #[.slice A x.els.length c, .slice L x.lims.length d, .int .i64 x.rep, .int .i64 x.bon, .int .i64 x.kee, .int .i64 x.fal] 25)).heap.size := by simp
  have HS0 := Lib.hid hs0
  have HL := Lib.hid hl
  clear hr hl hb0 hs0
  unfold Cd.val
  go_enter Tryd.func7, Tryd.ntmps7
  go_wp2_with (go_at_call 22; refine (szElementS_any A c x.els _ _ HR.out.els HL.out.els HL.out.names (by omega) (by omega)).mono ?_; rintro e w2 ⟨⟨q, rfl, hq⟩, hb2⟩; have HQ := Lib.hid hq; have HB2 := Lib.hid (HB0.out.trans (hb2.mono (by exact Nat.le_of_lt HS0.out))); have k1 := (HX.out.below hb2 HS0.out).c1; clear hq hb2)
  · go_ret
    exact ⟨⟨_, rfl, .inl (by omega)⟩, HB2.out⟩
  · obtain ⟨h1, h2, h3⟩ : 0 ≤ q ∧ q ≤ 1048576 ∧ Hid (Fits x.els) := by
      rcases HQ.out with h | h
      · omega
      · exact h
    go_wp2_with (go_at_call 23; refine (szIntS_any L d x.lims _ _ HL.out.lims (by omega) (by omega)).mono ?_; rintro e w3 ⟨⟨p, rfl, hp⟩, rfl⟩; have HP := Lib.hid hp; clear hp)
    · go_ret
      exact ⟨⟨_, rfl, .inl (by omega)⟩, HB2.out⟩
    · go_ret
      refine ⟨⟨_, rfl, .inr ?_⟩, HB2.out⟩
      rcases HP.out with h | h
      · omega
      · exact ⟨h.1, by omega, Lib.hid ⟨h3.out, h.2.2⟩⟩

/-- A code in memory of its own: two blocks from B on. -/
structure CdNew (w : World) (B g1 g2 : Nat) (x : Cd) : Prop where
  els : OwnAt w g1 0 x.els
  lims : OwnAt w g2 0 x.lims
  le1 : B ≤ g1
  le2 : B ≤ g2
  lt1 : g1 < w.heap.size
  lt2 : g2 < w.heap.size
  ne : g1 ≠ g2
theorem CdNew.at_ {w : World} {B g1 g2 : Nat} {x : Cd} (h : CdNew w B g1 g2 x) : CdAt w (some ⟨g1, 0, none⟩) (some ⟨g2, 0, none⟩) x :=
  ⟨fun _ => ⟨g1, 0, rfl, h.lt1, h.els.cell⟩, fun _ => ⟨g2, 0, rfl, h.lt2, h.lims.cell⟩⟩

/-- Six cells that may be written. -/
structure CdMem (w : World) (b : Nat) (v0 v1 v2 v3 v4 v5 : Value) : Prop where
  c0 : w.cell? ⟨b, 0, none⟩ = some v0
  c1 : w.cell? ⟨b, 1, none⟩ = some v1
  c2 : w.cell? ⟨b, 2, none⟩ = some v2
  c3 : w.cell? ⟨b, 3, none⟩ = some v3
  c4 : w.cell? ⟨b, 4, none⟩ = some v4
  c5 : w.cell? ⟨b, 5, none⟩ = some v5
  fr : ∀ j, w.frozen? ⟨b, j, none⟩ = false
theorem CdMem.below {w w' : World} {B b : Nat} {v0 v1 v2 v3 v4 v5 : Value} (h : CdMem w b v0 v1 v2 v3 v4 v5) (hb : Below B w w') (hB : b < B) : CdMem w' b v0 v1 v2 v3 v4 v5 :=
  ⟨(hb.cell (p := ⟨b, 0, none⟩) hB).trans h.c0, (hb.cell (p := ⟨b, 1, none⟩) hB).trans h.c1, (hb.cell (p := ⟨b, 2, none⟩) hB).trans h.c2, (hb.cell (p := ⟨b, 3, none⟩) hB).trans h.c3, (hb.cell (p := ⟨b, 4, none⟩) hB).trans h.c4, (hb.cell (p := ⟨b, 5, none⟩) hB).trans h.c5, fun j => (hb.frozen (p := ⟨b, j, none⟩) hB).trans (h.fr j)⟩
theorem cdMem_new (w : World) (b : Nat) (t : TypeId) (hb : w.heap.size = b) (v0 v1 v2 v3 v4 v5 : Value) : CdMem (w.alloc (.cells #[v0, v1, v2, v3, v4, v5] t)) b v0 v1 v2 v3 v4 v5 := by
  subst hb
  constructor <;> first | simp | (intro j; simp)
theorem CdMem.set0 {w : World} {b : Nat} {v0 v1 v2 v3 v4 v5 : Value} (h : CdMem w b v0 v1 v2 v3 v4 v5) (u : Value) : CdMem (w.setCell ⟨b, 0, none⟩ u) b u v1 v2 v3 v4 v5 :=
  ⟨World.cell?_setCell_same w ⟨b, 0, none⟩ _ h.c0, (World.cell?_setCell_other w _ _ _ (by simp)).trans h.c1, (World.cell?_setCell_other w _ _ _ (by simp)).trans h.c2, (World.cell?_setCell_other w _ _ _ (by simp)).trans h.c3, (World.cell?_setCell_other w _ _ _ (by simp)).trans h.c4, (World.cell?_setCell_other w _ _ _ (by simp)).trans h.c5, fun j => (World.frozen?_setCell w _ _ u).trans (h.fr j)⟩
theorem CdMem.set1 {w : World} {b : Nat} {v0 v1 v2 v3 v4 v5 : Value} (h : CdMem w b v0 v1 v2 v3 v4 v5) (u : Value) : CdMem (w.setCell ⟨b, 1, none⟩ u) b v0 u v2 v3 v4 v5 :=
  ⟨(World.cell?_setCell_other w _ _ _ (by simp)).trans h.c0, World.cell?_setCell_same w ⟨b, 1, none⟩ _ h.c1, (World.cell?_setCell_other w _ _ _ (by simp)).trans h.c2, (World.cell?_setCell_other w _ _ _ (by simp)).trans h.c3, (World.cell?_setCell_other w _ _ _ (by simp)).trans h.c4, (World.cell?_setCell_other w _ _ _ (by simp)).trans h.c5, fun j => (World.frozen?_setCell w _ _ u).trans (h.fr j)⟩
theorem CdMem.set2 {w : World} {b : Nat} {v0 v1 v2 v3 v4 v5 : Value} (h : CdMem w b v0 v1 v2 v3 v4 v5) (u : Value) : CdMem (w.setCell ⟨b, 2, none⟩ u) b v0 v1 u v3 v4 v5 :=
  ⟨(World.cell?_setCell_other w _ _ _ (by simp)).trans h.c0, (World.cell?_setCell_other w _ _ _ (by simp)).trans h.c1, World.cell?_setCell_same w ⟨b, 2, none⟩ _ h.c2, (World.cell?_setCell_other w _ _ _ (by simp)).trans h.c3, (World.cell?_setCell_other w _ _ _ (by simp)).trans h.c4, (World.cell?_setCell_other w _ _ _ (by simp)).trans h.c5, fun j => (World.frozen?_setCell w _ _ u).trans (h.fr j)⟩
theorem CdMem.set3 {w : World} {b : Nat} {v0 v1 v2 v3 v4 v5 : Value} (h : CdMem w b v0 v1 v2 v3 v4 v5) (u : Value) : CdMem (w.setCell ⟨b, 3, none⟩ u) b v0 v1 v2 u v4 v5 :=
  ⟨(World.cell?_setCell_other w _ _ _ (by simp)).trans h.c0, (World.cell?_setCell_other w _ _ _ (by simp)).trans h.c1, (World.cell?_setCell_other w _ _ _ (by simp)).trans h.c2, World.cell?_setCell_same w ⟨b, 3, none⟩ _ h.c3, (World.cell?_setCell_other w _ _ _ (by simp)).trans h.c4, (World.cell?_setCell_other w _ _ _ (by simp)).trans h.c5, fun j => (World.frozen?_setCell w _ _ u).trans (h.fr j)⟩
theorem CdMem.set4 {w : World} {b : Nat} {v0 v1 v2 v3 v4 v5 : Value} (h : CdMem w b v0 v1 v2 v3 v4 v5) (u : Value) : CdMem (w.setCell ⟨b, 4, none⟩ u) b v0 v1 v2 v3 u v5 :=
  ⟨(World.cell?_setCell_other w _ _ _ (by simp)).trans h.c0, (World.cell?_setCell_other w _ _ _ (by simp)).trans h.c1, (World.cell?_setCell_other w _ _ _ (by simp)).trans h.c2, (World.cell?_setCell_other w _ _ _ (by simp)).trans h.c3, World.cell?_setCell_same w ⟨b, 4, none⟩ _ h.c4, (World.cell?_setCell_other w _ _ _ (by simp)).trans h.c5, fun j => (World.frozen?_setCell w _ _ u).trans (h.fr j)⟩
theorem CdMem.set5 {w : World} {b : Nat} {v0 v1 v2 v3 v4 v5 : Value} (h : CdMem w b v0 v1 v2 v3 v4 v5) (u : Value) : CdMem (w.setCell ⟨b, 5, none⟩ u) b v0 v1 v2 v3 v4 u :=
  ⟨(World.cell?_setCell_other w _ _ _ (by simp)).trans h.c0, (World.cell?_setCell_other w _ _ _ (by simp)).trans h.c1, (World.cell?_setCell_other w _ _ _ (by simp)).trans h.c2, (World.cell?_setCell_other w _ _ _ (by simp)).trans h.c3, (World.cell?_setCell_other w _ _ _ (by simp)).trans h.c4, World.cell?_setCell_same w ⟨b, 5, none⟩ _ h.c5, fun j => (World.frozen?_setCell w _ _ u).trans (h.fr j)⟩
theorem CdMem.other {w : World} {b : Nat} {v0 v1 v2 v3 v4 v5 : Value} (h : CdMem w b v0 v1 v2 v3 v4 v5) (p : Addr) (hp : p.block ≠ b) (u : Value) : CdMem (w.setCell p u) b v0 v1 v2 v3 v4 v5 := by
  have hn : ∀ j, p ≠ ⟨b, j, none⟩ := fun j e => hp (by rw [e])
  have hn' : ∀ j, (⟨b, j, none⟩ : Addr) ≠ p := fun j e => hp (by rw [← e])
  exact ⟨(World.cell?_setCell_other w _ _ _ (by first | exact hn _ | exact hn' _)).trans h.c0, (World.cell?_setCell_other w _ _ _ (by first | exact hn _ | exact hn' _)).trans h.c1, (World.cell?_setCell_other w _ _ _ (by first | exact hn _ | exact hn' _)).trans h.c2, (World.cell?_setCell_other w _ _ _ (by first | exact hn _ | exact hn' _)).trans h.c3, (World.cell?_setCell_other w _ _ _ (by first | exact hn _ | exact hn' _)).trans h.c4, (World.cell?_setCell_other w _ _ _ (by first | exact hn _ | exact hn' _)).trans h.c5, fun j => (World.frozen?_setCell w _ _ u).trans (h.fr j)⟩

set_option maxHeartbeats 1000000 in
theorem toCode_any (A L : Option Addr) (c d : Nat) (x : Cd) (w : World) (hr : CdAt w A L x) (hl : CdFits x) :
    Calls Tryd.prog 9 #[x.val A c L d] w fun e w' => (∃ g1 g2, e = .returned (x.val (some ⟨g1, 0, none⟩) x.els.length (some ⟨g2, 0, none⟩) x.lims.length) ∧ CdNew w' w.heap.size g1 g2 x) ∧ Below w.heap.size w w' := by
  have HL := Lib.hid hl
  have HR := Lib.hid hr
  clear hr hl
  unfold Cd.val
  go_enter Tryd.func9, Tryd.ntmps9
  go_wp2_with fail
  generalize hW : World.alloc (World.alloc (World.alloc w _) _) _ = W
  have hB : Below w.heap.size w W := by
    rw [← hW]
    go_grown
  have hS : W.heap.size = w.heap.size + 3 := by rw [← hW]; simp
  have hX : CdMem W w.heap.size (.slice A x.els.length c) (.slice L x.lims.length d) (.int .i64 x.rep) (.int .i64 x.bon) (.int .i64 x.kee) (.int .i64 x.fal) := by
    rw [← hW]
    exact ((cdMem_new w _ _ rfl _ _ _ _ _ _).below ((Below.refl _ _).alloc (Nat.le_refl _) _) (by simp)).below ((Below.refl _ _).alloc (Nat.le_refl _) _) (by simp; omega)
  have hM : CdMem W (w.heap.size + 1) (.slice none 0 0) (.slice none 0 0) (.int .i64 0) (.int .i64 0) (.int .i64 0) (.int .i64 0) := by
    rw [← hW]
    exact (cdMem_new _ _ _ (by simp) _ _ _ _ _ _).below ((Below.refl _ _).alloc (Nat.le_refl _) _) (by simp)
  have hN : CdMem W (w.heap.size + 1 + 1) (.slice none 0 0) (.slice none 0 0) (.int .i64 0) (.int .i64 0) (.int .i64 0) (.int .i64 0) := by
    rw [← hW]
    exact cdMem_new _ _ _ (by simp) _ _ _ _ _ _
  clear hW
  have h1 := toElementS_any A c x.els W ((HR.out.els.below hB (Nat.le_refl _)).up hB.size) HL.out.1.1
  rw [hS] at h1
  refine h1.mono ?_
  rintro e w4 ⟨rfl, ho4, hs4, hb4⟩
  have hM4 := hM.below hb4 (by omega)
  have hX4 := hX.below hb4 (by omega)
  have hN4 := hN.below hb4 (by omega)
  have HN5 := Lib.hid (hN4.set0 (.slice (some ⟨w.heap.size + 3, 0, none⟩) x.els.length x.els.length))
  have HM5 := Lib.hid (hM4.other ⟨w.heap.size + 1 + 1, 0, none⟩ (by simp) (.slice (some ⟨w.heap.size + 3, 0, none⟩) x.els.length x.els.length))
  have HX5 := Lib.hid (hX4.other ⟨w.heap.size + 1 + 1, 0, none⟩ (by simp; omega) (.slice (some ⟨w.heap.size + 3, 0, none⟩) x.els.length x.els.length))
  obtain ⟨n0, n1, n2, n3, n4, n5, nf⟩ := hN4
  have m1 := hX4.c1
  have HB5 := Lib.hid (show Below w.heap.size w (w4.setCell ⟨w.heap.size + 1 + 1, 0, none⟩ (.slice (some ⟨w.heap.size + 3, 0, none⟩) x.els.length x.els.length)) from (hB.trans (hb4.mono (by omega))).setCell (by simp; omega) _)
  have HO5 := Lib.hid (show OwnAt (w4.setCell ⟨w.heap.size + 1 + 1, 0, none⟩ (.slice (some ⟨w.heap.size + 3, 0, none⟩) x.els.length x.els.length)) (w.heap.size + 3) 0 x.els from ho4.block (Below.heap_setCell _ _ _ _ (by simp)))
  clear hM4 hX4 hM hX hN hb4 ho4 h1 hB
  go_wp2_with fail
  have hs5 : (w4.setCell ⟨w.heap.size + 1 + 1, 0, none⟩ (.slice (some ⟨w.heap.size + 3, 0, none⟩) x.els.length x.els.length)).heap.size = w4.heap.size := by simp [World.setCell]
  revert HN5 HM5 HX5 HB5 HO5
  generalize World.setCell w4 _ _ = w5 at hs5 ⊢
  intro HN5 HM5 HX5 HB5 HO5
  clear n0 n1 n2 n3 n4 n5 nf m1
  refine (toIntS_any L d x.lims w5 ((HR.out.lims.below HB5.out (Nat.le_refl _)).up HB5.out.size) HL.out.2).mono ?_
  rintro e w6 ⟨rfl, ho6, hs6, hb6⟩
  have HN6 := Lib.hid (HN5.out.below hb6 (by omega))
  have HM6 := Lib.hid (HM5.out.below hb6 (by omega))
  have HX6 := Lib.hid (HX5.out.below hb6 (by omega))
  have HO6 := Lib.hid ho6
  have HE6 := Lib.hid (HO5.out.block (hb6.block _ (by omega)))
  have HB6 := Lib.hid (HB5.out.trans (hb6.mono (by omega)))
  have q1 : Hid (w.heap.size < w.heap.size + 1) := Lib.hid (by omega)
  have q2 : Hid (w.heap.size + 1 < w.heap.size + 1 + 1) := Lib.hid (by omega)
  have q3 : Hid (w.heap.size + 1 + 1 < w6.heap.size ∧ w.heap.size + 1 + 1 < w.heap.size + 3 ∧ w.heap.size + 3 < w5.heap.size ∧ w5.heap.size < w6.heap.size) := Lib.hid (by omega)
  clear hb6 ho6 HN5 HM5 HX5 HB5 HO5 hs4 hS HR HL
  generalize w5.heap.size = g2 at HO6 q3 ⊢
  clear hs6 hs5 w4
  generalize w.heap.size + 3 = g1 at HN6 HE6 q3 ⊢
  generalize w.heap.size + 1 + 1 = b2 at HN6 q2 q3 ⊢
  generalize w.heap.size + 1 = b1 at HM6 q1 q2 ⊢
  generalize hq0 : w.heap.size = b0 at HX6 q1 ⊢
  have q0 := Lib.hid hq0
  clear hq0
  have e1 : (b0 = b2) = False := by have := q1.out; have := q2.out; simp; omega
  have e2 : (b1 = b2) = False := by have := q1.out; have := q2.out; simp; omega
  have e3 : (b2 = b1) = False := by have := q1.out; have := q2.out; simp; omega
  have e4 : (b2 = b0) = False := by have := q1.out; have := q2.out; simp; omega
  obtain ⟨n0, n1, n2, n3, n4, n5, nf⟩ := HN6.out
  obtain ⟨m0, m1, m2, m3, m4, m5, mf⟩ := HM6.out
  obtain ⟨x0, x1, x2, x3, x4, x5, xf⟩ := HX6.out
  clear x0 x1 xf
  simp only []
  iterate 78 (first | go_step | go_upon | go_simp)
  refine stop_at 8 ⟨?_⟩
  intro w7 hw7
  have hn7 : CdMem w7 b2 (.slice (some ⟨g1, 0, none⟩) x.els.length x.els.length) (.slice (some ⟨g2, 0, none⟩) x.lims.length x.lims.length) (.int .i64 x.rep) (.int .i64 x.bon) (.int .i64 x.kee) (.int .i64 x.fal) := by
    rw [hw7]
    exact ((((HN6.out.set1 _).set2 _).set3 _).set4 _).set5 _
  have hm7 : CdMem w7 b1 (.slice none 0 0) (.slice none 0 0) (.int .i64 0) (.int .i64 0) (.int .i64 0) (.int .i64 0) := by
    have hq : b2 ≠ b1 := by have := q2.out; omega
    rw [hw7]
    exact ((((HM6.out.other _ hq _).other _ hq _).other _ hq _).other _ hq _).other _ hq _
  clear n0 n1 n2 n3 n4 n5 nf m0 m1 m2 m3 m4 m5 mf x2 x3 x4 x5
  have HW7 : Hid (Only (fun i => i = b2) w6 w7) := by
    rw [hw7]
    exact Lib.hid ((((((Only.refl (fun i => i = b2) w6).put b2 1 rfl _).put b2 2 rfl _).put b2 3 rfl _).put b2 4 rfl _).put b2 5 rfl _)
  clear hw7
  obtain ⟨n0, n1, n2, n3, n4, n5, nf⟩ := hn7
  have HM7 := Lib.hid hm7
  obtain ⟨m0, m1, m2, m3, m4, m5, mf⟩ := hm7
  iterate 11 (first | go_step | go_upon | go_simp)
  refine stop_ret ⟨?_⟩
  intro w8 hw8
  have hm8 : CdMem w8 b1 (.slice (some ⟨g1, 0, none⟩) x.els.length x.els.length) (.slice (some ⟨g2, 0, none⟩) x.lims.length x.lims.length) (.int .i64 x.rep) (.int .i64 x.bon) (.int .i64 x.kee) (.int .i64 x.fal) := by
    rw [hw8]
    exact (((((HM7.out.set0 _).set1 _).set2 _).set3 _).set4 _).set5 _
  have HW8 : Hid (Only (fun i => i = b1) w7 w8) := by
    rw [hw8]
    exact Lib.hid (((((((Only.refl (fun i => i = b1) w7).put b1 0 rfl _).put b1 1 rfl _).put b1 2 rfl _).put b1 3 rfl _).put b1 4 rfl _).put b1 5 rfl _)
  clear n0 n1 n2 n3 n4 n5 nf m0 m1 m2 m3 m4 m5 mf hw8
  obtain ⟨m0, m1, m2, m3, m4, m5, mf⟩ := hm8
  go_wp2_with fail
  have hq := q0.out
  have h1 := q1.out
  have h2 := q2.out
  obtain ⟨h3, h4, h5, h6⟩ := q3.out
  have ht : Only (fun i => i = b1 ∨ i = b2) w6 w8 := (HW7.out.mono (fun i e => Or.inr e)).trans (HW8.out.mono (fun i e => Or.inl e))
  refine bodyPost_ret (v := .agg #[.slice (some ⟨g1, 0, none⟩) x.els.length x.els.length, .slice (some ⟨g2, 0, none⟩) x.lims.length x.lims.length, .int .i64 x.rep, .int .i64 x.bon, .int .i64 x.kee, .int .i64 x.fal]) (by simp [results, Tryd.results9, go_sem, m0, m1, m2, m3, m4, m5]) rfl ?_
  refine ⟨⟨g1, g2, rfl, HE6.out.block (ht.block _ (by omega) (by omega)), HO6.out.block (ht.block _ (by omega) (by omega)), by omega, by omega, ?_, ?_, by omega⟩, HB6.out.trans (ht.below HB6.out.size (fun k hk => by omega))⟩
  · exact Nat.lt_of_lt_of_le (by omega) ht.size
  · exact Nat.lt_of_lt_of_le h6 ht.size
end Go.Proofs.YtocjkhfghldnnaaDoor
