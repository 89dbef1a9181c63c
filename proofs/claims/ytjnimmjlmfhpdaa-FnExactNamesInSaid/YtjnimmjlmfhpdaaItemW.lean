/- The walks of the laws AreItems and IsItem. -/
import Derived.Test.YtjnimmjlmfhpdaaItemO
import Derived.Deep.RegionHeld3
namespace Go.Proofs.Ytjnimmjlmfhpdaa
open Go.ChangeShapes Go.WideShapes Go.ChangeAt Go.RowKit
set_option linter.unusedVariables false

theorem sAreItems_n (P : Option Addr) (c n : Nat) (xs : List Im) (hn : xs.length = n) (w : World) (hr : Ims w w.heap.size P xs) (hl : ImsFits xs) :
    Calls Try.prog 21 #[.slice P n c] w fun e w' => e = .returned (.bool (pB (ListOk xs))) ∧ Below w.heap.size w w' := by
  subst hn
  exact sAreItems_any P c xs w hr hl
theorem iAreItems_n (P : Option Addr) (c n : Nat) (xs : List Im) (hn : xs.length = n) (w : World) (hr : Ims w w.heap.size P xs) (hl : ImsFits xs) :
    Calls Try.prog 23 #[.slice P n c] w fun e w' => e = .returned (.bool (pB (ListOk xs))) ∧ Below w.heap.size w w' := by
  subst hn
  exact iAreItems_any P c xs w hr hl
theorem eqItemS_n (P P' : Option Addr) (c c' n : Nat) (xs ys : List Im) (hn : xs.length = n) (w : World) (hs : SameS xs ys) (hr : Ims w w.heap.size P xs) (hr' : Ims w w.heap.size P' ys) (hl : ImsFits xs) :
    Calls Try.prog 24 #[.slice P n c, .slice P' n c'] w fun e w' => e = .returned (.bool true) ∧ Below w.heap.size w w' := by
  subst hn
  exact eqItemS_yes P P' c c' xs ys w hs hr hr' hl

theorem walkAreItems (P : Option Addr) (c : Nat) (xs : List Im) (w : World) (hr : Ims w w.heap.size P xs) (hl : ImsLen xs) :
    Calls Try.prog 5 #[.slice P xs.length c] w fun e w' => e = .returned (.bool true) ∧ Below w.heap.size w w' := by
  have HR := Lib.hid hr
  have HL := Lib.hid hl
  clear hr hl
  go_enter Try.func5, Try.ntmps5
  go_wp2_with fail
  refine (szItemS_any P c xs _ w HR.out HL.out (by omega) (by omega)).mono ?_
  rintro e w1 ⟨⟨q, rfl, hq⟩, hb1⟩
  have HB1 := Lib.hid hb1
  have HR1 := Lib.hid (HR.out.next hb1)
  clear hb1
  rcases hq with hq | ⟨hq0, hq1, HF⟩
  · go_wp2
    go_ret
    exact ⟨rfl, HB1.out⟩
  · go_wp2_with fail
    refine (toItemS_c P c xs w1 HR1.out HF.out).mono ?_
    rintro e w2 ⟨rfl, ⟨ys, g, G, hs, ho⟩, hb2⟩
    have HB2 := Lib.hid (below_next HB1.out hb2)
    have HR2 := Lib.hid (HR1.out.next hb2)
    have HC := Lib.hid (sAreItems_n _ xs.length _ ys hs.len w2 ho.ims (hs.fits HF.out))
    rw [listOk_same hs] at HC
    clear hb2 hs ho
    go_wp2_with fail
    refine HC.out.mono ?_
    rintro e w3 ⟨rfl, hb3⟩
    have HB3 := Lib.hid (below_next HB2.out hb3)
    have HR3 := Lib.hid (HR2.out.next hb3)
    clear hb3 HC
    go_wp2_with fail
    refine (toItemS_c P c xs w3 HR3.out HF.out).mono ?_
    rintro e w4 ⟨rfl, ⟨ys, g, G, hs, ho⟩, hb4⟩
    have HB4 := Lib.hid (below_next HB3.out hb4)
    have HR4 := Lib.hid (HR3.out.next hb4)
    have HS4 := Lib.hid hs
    have HO4 := Lib.hid ho.ims
    have HC := Lib.hid (iAreItems_n _ xs.length _ ys hs.len w4 ho.ims (hs.fits HF.out))
    rw [listOk_same hs] at HC
    clear hb4 hs ho
    go_wp2_with fail
    refine HC.out.mono ?_
    rintro e w5 ⟨rfl, hb5⟩
    have HB5 := Lib.hid (below_next HB4.out hb5)
    have HR5 := Lib.hid (HR4.out.next hb5)
    have HO5 := Lib.hid (HO4.out.next hb5)
    clear hb5 HC
    go_wp2_with fail
    refine (toItemS_c P c xs w5 HR5.out HF.out).mono ?_
    rintro e w6 ⟨rfl, ⟨zs, g', G', hs', ho'⟩, hb6⟩
    have HB6 := Lib.hid (below_next HB5.out hb6)
    have HC := Lib.hid (eqItemS_n (some ⟨w3.heap.size, 0, none⟩) (some ⟨w5.heap.size, 0, none⟩) xs.length xs.length xs.length ys zs HS4.out.len w6 (HS4.out.symm.trans hs') (HO5.out.next hb6) ho'.ims (HS4.out.fits HF.out))
    clear hb6 hs' ho'
    go_wp2_with fail
    refine HC.out.mono ?_
    rintro e w7 ⟨rfl, hb7⟩
    have HB7 := Lib.hid (below_next HB6.out hb7)
    clear hb7 HC
    go_wp2
    go_ret
    exact ⟨rfl, HB7.out⟩

/-- A block with the three cells of an item. -/
structure ImBox (w : World) (b : Nat) (x : Im) : Prop where
  lt : b < w.heap.size
  c0 : w.cell? ⟨b, 0, none⟩ = some (.slice x.A x.ns.length x.c)
  c1 : w.cell? ⟨b, 1, none⟩ = some (.slice x.L x.ms.length x.d)
  c2 : w.cell? ⟨b, 2, none⟩ = some (.bool x.late)
theorem ImBox.next {w w' : World} {b : Nat} {x : Im} (h : ImBox w b x) (hb : Below w.heap.size w w') : ImBox w' b x :=
  ⟨Nat.lt_of_lt_of_le h.lt hb.size, (hb.cell (p := ⟨b, 0, none⟩) h.lt).trans h.c0, (hb.cell (p := ⟨b, 1, none⟩) h.lt).trans h.c1, (hb.cell (p := ⟨b, 2, none⟩) h.lt).trans h.c2⟩
theorem imBox_new (w : World) (t : TypeId) (x : Im) : ImBox (w.alloc (.cells #[.slice x.A x.ns.length x.c, .slice x.L x.ms.length x.d, .bool x.late] t)) w.heap.size x := by
  constructor <;> simp
theorem imBox2 {w : World} {b b' : Nat} {x y : Im} (h : ImBox w b x) (k : ImBox w b' y) :
    w.cell? ⟨b, 0, none⟩ = some (.slice x.A x.ns.length x.c) ∧ w.cell? ⟨b, 1, none⟩ = some (.slice x.L x.ms.length x.d) ∧ w.cell? ⟨b, 2, none⟩ = some (.bool x.late) ∧ w.cell? ⟨b', 0, none⟩ = some (.slice y.A y.ns.length y.c) ∧ w.cell? ⟨b', 1, none⟩ = some (.slice y.L y.ms.length y.d) ∧ w.cell? ⟨b', 2, none⟩ = some (.bool y.late) :=
  ⟨h.c0, h.c1, h.c2, k.c0, k.c1, k.c2⟩
end Go.Proofs.Ytjnimmjlmfhpdaa
