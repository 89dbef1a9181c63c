/- Codes compared, marked and held. -/
import Derived.Test.YtocjkhfghldnnaaDoorCode
namespace Go.Proofs.YtocjkhfghldnnaaDoor
open Go.ChangeShapes Go.WideShapes Go.ChangeAt Go.RowKit
set_option linter.unusedVariables false

theorem below_drewM (B : Nat) (w : World) (n : Nat) : Below B w (w.drewN n) := by
  induction n with
  | zero => exact Below.refl _ _
  | succ n ih => exact ih.drew
theorem eqIntS_b (A A' : Option Addr) (c c' : Nat) (xs : List Int) (w : World) (hr : Lst w w.heap.size A xs) (hr' : Lst w w.heap.size A' xs) (hl : xs.length ≤ 1048576) :
    Calls Tryd.prog 14 #[.slice A xs.length c, .slice A' xs.length c'] w fun e w' => e = .returned (.bool true) ∧ Below w.heap.size w w' :=
  (eqIntS_yes A A' c c' xs w hr hr' hl).mono fun e w' ⟨he, n, hw⟩ => ⟨he, hw ▸ below_drewM _ _ _⟩

theorem Owned.lt {α : Type} [Flat α] {S : Nat → Prop} {w : World} {A : Option Addr} {xs : List α} (h : Owned S w A xs) : Owned (fun i => S i ∧ i < w.heap.size) w A xs := fun hp => by
  obtain ⟨g, o, rfl, hs, hg, hc⟩ := h hp
  exact ⟨g, o, rfl, ⟨hs, hg⟩, hg, hc⟩
/-- The slices of a code that lie in blocks of the call's own, one for each. -/
structure CdOwn (w : World) (g1 g2 : Nat) (A L : Option Addr) (x : Cd) : Prop where
  els : Owned (fun i => i = g1) w A x.els
  lims : Owned (fun i => i = g2) w L x.lims
theorem CdOwn.at_ {w : World} {g1 g2 : Nat} {A L : Option Addr} {x : Cd} (h : CdOwn w g1 g2 A L x) : CdAt w A L x := ⟨h.els.lst, h.lims.lst⟩
theorem CdOwn.keep {w w' : World} {g1 g2 : Nat} {A L : Option Addr} {x : Cd} (h : CdOwn w g1 g2 A L x) {T : Nat → Prop} (k : Only T w w') (h1 : ¬ T g1) (h2 : ¬ T g2) : CdOwn w' g1 g2 A L x :=
  ⟨h.els.keep k (fun i e => e ▸ h1), h.lims.keep k (fun i e => e ▸ h2)⟩
theorem CdOwn.keepB {w w' : World} {g1 g2 : Nat} {A L : Option Addr} {x : Cd} (h : CdOwn w g1 g2 A L x) (k : Below w.heap.size w w') : CdOwn w' g1 g2 A L x :=
  ⟨h.els.keepB k, h.lims.keepB k⟩
theorem CdNew.own {w : World} {B g1 g2 : Nat} {x : Cd} (h : CdNew w B g1 g2 x) : CdOwn w g1 g2 (some ⟨g1, 0, none⟩) (some ⟨g2, 0, none⟩) x :=
  ⟨fun _ => ⟨g1, 0, rfl, rfl, h.lt1, h.els⟩, fun _ => ⟨g2, 0, rfl, rfl, h.lt2, h.lims⟩⟩

theorem eqCode_yes (A L A' L' : Option Addr) (c d c' d' : Nat) (x : Cd) (w : World) (hr : CdAt w A L x) (hr' : CdAt w A' L' x) (hl : CdFits x) :
    Calls Tryd.prog 11 #[x.val A c L d, x.val A' c' L' d'] w fun e w' => e = .returned (.bool true) ∧ Below w.heap.size w w' := by
  have HR := Lib.hid hr
  have HR' := Lib.hid hr'
  have HL := Lib.hid hl
  clear hr hr' hl
  unfold Cd.val
  go_enter Tryd.func11, Tryd.ntmps11
  go_wp2_with fail
  generalize hW : World.alloc (World.alloc w _) _ = W
  have hB : Below w.heap.size w W := by
    rw [← hW]
    go_grown
  have hS : W.heap.size = w.heap.size + 2 := by rw [← hW]; simp
  have hX : CdBox W w.heap.size A c L d x := by
    rw [← hW]
    exact (cdBox_new w _ _ rfl A c L d x).below ((Below.refl _ _).alloc (Nat.le_refl _) _) (by simp)
  have hY : CdBox W (w.heap.size + 1) A' c' L' d' x := by
    rw [← hW]
    exact cdBox_new _ _ _ (by simp) A' c' L' d' x
  clear hW
  refine (eqElementS_yes A A' c c' x.els W (HR.out.below hB).els (HR'.out.below hB).els HL.out.1.1).mono ?_
  rintro e w2 ⟨rfl, hb2⟩
  have hb3 := hB.trans (hb2.mono hB.size)
  have hX2 := hX.below hb2 (by omega)
  have hY2 := hY.below hb2 (by omega)
  have x1 := hX2.c1
  have y1 := hY2.c1
  have HB3 := Lib.hid hb3
  have HX := Lib.hid hX2
  have HY := Lib.hid hY2
  have hS2 : w.heap.size + 2 ≤ w2.heap.size := by rw [← hS]; exact hb2.size
  clear hX hY hB hb2 hb3 hX2 hY2 hS
  go_wp2_with fail
  refine (eqIntS_b L L' d d' x.lims w2 (HR.out.below HB3.out).lims (HR'.out.below HB3.out).lims HL.out.2).mono ?_
  rintro e w3 ⟨rfl, hb4⟩
  have hb5 := Lib.hid (HB3.out.trans (hb4.mono HB3.out.size))
  obtain ⟨_, _, u2, u3, u4, u5⟩ := HX.out.below hb4 (by omega)
  obtain ⟨_, _, v2, v3, v4, v5⟩ := HY.out.below hb4 (by omega)
  clear x1 y1 hb4
  go_wp2
  go_ret
  exact ⟨rfl, hb5.out⟩

/-- A code of which every field that lies in a slice bears a mark. -/
def marksCd (x : Cd) (k : Nat) : Cd := { x with els := marksEl k x.els.length, lims := seqF ((k + x.els.length * 4 : Nat) : Int) x.lims.length }
theorem markCode_any (g1 g2 : Nat) (A L : Option Addr) (c d : Nat) (x : Cd) (w : World) (hr : CdOwn w g1 g2 A L x) (hne : g1 ≠ g2) (hl : CdFits x) :
    Calls Tryd.prog 15 #[x.val A c L d, .int .i64 1] w fun e w' => e = .returned (.int .i64 ((1 + x.els.length * 4 + x.lims.length : Nat) : Int)) ∧ CdOwn w' g1 g2 A L (marksCd x 1) ∧ Only (fun i => i = g1 ∨ i = g2) w w' := by
  have HR := Lib.hid hr
  have HL := Lib.hid hl
  clear hr hl
  unfold Cd.val
  go_enter Tryd.func15, Tryd.ntmps15
  go_wp2_with fail
  generalize hW : World.alloc w _ = W
  have hB : Below w.heap.size w W := by
    rw [← hW]
    go_grown
  have hS : W.heap.size = w.heap.size + 1 := by rw [← hW]; simp
  have hX : CdBox W w.heap.size A c L d x := by
    rw [← hW]
    exact cdBox_new w _ _ rfl A c L d x
  clear hW
  have hO1 : Owned (fun i => i = g1 ∧ i < w.heap.size) W A x.els := HR.out.els.lt.keepB hB
  have hO2 : Owned (fun i => i = g2 ∧ i < w.heap.size) W L x.lims := HR.out.lims.lt.keepB hB
  have hE : Only (fun i => i = g1 ∨ i = g2) w W := Only.of_below hB (Nat.le_refl _)
  clear hB
  refine (markElementS_any _ A c x.els 1 W hO1 HL.out.1.1 (by omega) (by omega)).mono ?_
  rintro e w2 ⟨rfl, ho2, hk2⟩
  have c1 : w2.cell? ⟨w.heap.size, 1, none⟩ = some (.slice L x.lims.length d) := (World.cell?_of_block (a := ⟨w.heap.size, 1, none⟩) (hk2.block w.heap.size (by omega) (by omega))).trans hX.c1
  have HO3 := Lib.hid (hO2.keep hk2 (fun i h k => hne (k.1.symm.trans h.1)))
  have HE2 := Lib.hid (hE.trans (hk2.mono (fun i h => .inl h.1)))
  have HO2 := Lib.hid ho2
  have hn : ((1 + x.els.length * 4 : Nat) : Int) ≤ 10000000000000000 := by have := HL.out.1.1; omega
  have hn0 : (0 : Int) ≤ ((1 + x.els.length * 4 : Nat) : Int) := by omega
  clear hX hO1 hO2 hE ho2 hk2 hS
  go_wp2_with fail
  refine (markIntS_any _ L d x.lims _ w2 HO3.out HL.out.2 hn0 hn).mono ?_
  rintro e w3 ⟨rfl, ho3, hk3⟩
  have HK3 := Lib.hid hk3
  have HO4 := Lib.hid ho3
  clear hk3 ho3 c1
  go_wp2
  go_ret
  refine ⟨by congr 2, ⟨?_, ?_⟩, HE2.out.trans (HK3.out.mono (fun i h => .inr h.1))⟩
  · exact (HO2.out.keep HK3.out (fun i h k => hne (h.1.symm.trans k.1))).mono (fun i h => h.1)
  · exact HO4.out.mono (fun i h => h.1)

end Go.Proofs.YtocjkhfghldnnaaDoor
