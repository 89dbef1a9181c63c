/- A list with its second half late, if it is a programme: in the model and in the program. -/
import Derived.Test.YtnlcdfaojcnkpaaGreatDoorPgKa
import Derived.Test.YtnlcdfaojcnkpaaGreatDoorPgE
import Derived.Test.YtnlcdfaojcnkpaaGreatDoorBi
namespace Go.Proofs.YtnlcdfaojcnkpaaGreatDoor
open Go.ChangeShapes Go.WideShapes Go.ChangeAt Go.RowKit Go.PlainAid
set_option linter.unusedVariables false

noncomputable def ifF (x : Cd) (zs : List Im) : List Im := @ite _ (PgOk x (lateS zs)) (Classical.propDecidable _) (lateS zs) []
theorem ifF_yes {x : Cd} {zs : List Im} (h : PgOk x (lateS zs)) : ifF x zs = lateS zs := by unfold ifF; exact @if_pos _ (Classical.propDecidable _) h _ _ _
theorem ifF_no {x : Cd} {zs : List Im} (h : ¬ PgOk x (lateS zs)) : ifF x zs = [] := by unfold ifF; exact @if_neg _ (Classical.propDecidable _) h _ _ _
theorem pgOk_same {x : Cd} {xs ys : List Im} (h : SameS xs ys) : pB (PgOk x ys) = pB (PgOk x xs) := pB_iff ⟨fun k => k.same h.symm, fun k => k.same h⟩
theorem ims_nothing (S : Nat → Prop) (w : World) : ImsOwn S w none 0 (fun _ => 0) [] := ⟨Owned.nil _ _ _, fun i hi => absurd hi (by simp), fun i hi => absurd hi (by simp), fun i hi => absurd hi (by simp), fun i j _ hi => absurd hi (by simp), fun hi => absurd hi (by simp), fun i hi => absurd hi (by simp)⟩

/-- An answer: a list of its own and whether there is one. -/
def ItAns (w : World) (V : List Im) (q : Prop) (e : Ending) (w' : World) : Prop := (∃ R d ys g G, e = .returned (.tuple #[.slice R ys.length d, .bool (pB q)]) ∧ SameS V ys ∧ ImsOwn (fun i => w.heap.size ≤ i ∧ i < w'.heap.size) w' R g G ys) ∧ Below w.heap.size w w'

set_option maxHeartbeats 2000000 in
theorem pgIf_any (A L : Option Addr) (c d : Nat) (x : Cd) (P : Option Addr) (c1 : Nat) (zs : List Im) (w : World) (hr : CdAt w A L x) (hl : CdFits x) (hp : Ims w w.heap.size P zs) (hq : ImsFits zs) (hn : Near zs) :
    Calls Tryz.prog 37 #[x.val A c L d, .slice P zs.length c1] w (ItAns w (ifF x zs) (PgOk x (lateS zs))) := by
  obtain ⟨W, hW, hB⟩ := boxed 38 w A c L d x
  have HB := Lib.hid hB.below
  have HX := Lib.hid hB.at_
  have HR := Lib.hid (hr.below hB.below)
  have HC := Lib.hid (pgLate_any P c1 zs W (hp.next hB.below) hn)
  have HL := Lib.hid hl
  have HQ := Lib.hid hq
  clear hr hl hp hq hB hn
  unfold boxCd at hW
  unfold Cd.val
  go_enter Tryz.func37, Tryz.ntmps37
  go_wp2_with fail
  rw [← hW]
  clear hW
  refine HC.out.mono ?_
  rintro e w1 ⟨⟨R, d1, ys, g, G, rfl, hs, ho⟩, hb1⟩
  have HB1 := Lib.hid hb1
  have HS := Lib.hid hs
  have HO := Lib.hid ho
  obtain ⟨x0, x1, x2, x3, x4, x5⟩ := (HX.out.next HB1.out).box
  clear hb1 hs ho HC
  go_wp2_with fail
  clear x0 x1 x2 x3 x4 x5
  refine (pgGood_any A L c d x R d1 ys w1 (HR.out.below HB1.out) HL.out HO.out.ims (HS.out.fits (lateS_fits HQ.out))).mono ?_
  rintro e w2 ⟨he, hb2⟩
  have HB2 := Lib.hid (Below_next HB1.out hb2)
  have HO2 := Lib.hid (HO.out.next hb2)
  have hs2 := hb2.size
  have hs0 := HB.out.size
  clear hb2
  rw [pgOk_same HS.out] at he
  by_cases hok : PgOk x (lateS zs)
  · rw [pB_yes hok] at he
    subst he
    have HV := Lib.hid (ifF_yes hok)
    have HW := Lib.hid (pB_yes hok)
    clear hok
    go_wp2
    go_returns
    exact ⟨⟨R, d1, ys, g, G, by rw [HW.out]; rfl, by rw [HV.out]; exact HS.out, HO2.out.mono (fun i hi => ⟨by omega, by omega⟩)⟩, Below_next HB.out HB2.out⟩
  · rw [pB_no hok] at he
    subst he
    have HV := Lib.hid (ifF_no hok)
    have HW := Lib.hid (pB_no hok)
    clear hok
    go_wp2
    go_returns
    exact ⟨⟨none, 0, [], 0, fun _ => 0, by rw [HW.out]; rfl, by rw [HV.out]; exact SameS.refl _, ims_nothing _ _⟩, Below_next HB.out HB2.out⟩

set_option maxHeartbeats 2000000 in
theorem lateProgramme_any (A L : Option Addr) (c d : Nat) (x : Cd) (P : Option Addr) (c1 : Nat) (zs : List Im) (w : World) (hr : CdAt w A L x) (hl : CdFits x) (hp : Ims w w.heap.size P zs) (hq : ImsFits zs) (ht : Tab w) :
    Calls Tryz.prog 43 #[x.val A c L d, .slice P zs.length c1] w (ItAns w (ifF x zs) (PgOk x (lateS zs))) := by
  obtain ⟨W, hW, hB⟩ := boxed 38 w A c L d x
  have HB := Lib.hid hB.below
  have HX := Lib.hid hB.at_
  have HR := Lib.hid (hr.below hB.below)
  have HT := Lib.hid (ht.next hB.below)
  have HC := Lib.hid (iMarkLate_any P c1 zs W (hp.next hB.below) hq)
  have HL := Lib.hid hl
  have HQ := Lib.hid hq
  clear hr hl hp hq hB ht
  unfold boxCd at hW
  unfold Cd.val
  go_enter Tryz.func43, Tryz.ntmps43
  go_wp2_with fail
  rw [← hW]
  clear hW
  refine HC.out.mono ?_
  rintro e w1 ⟨⟨R, d1, ys, g, G, rfl, hs, ho⟩, hb1⟩
  have HB1 := Lib.hid hb1
  have HS := Lib.hid hs
  have HO := Lib.hid ho
  obtain ⟨x0, x1, x2, x3, x4, x5⟩ := (HX.out.next HB1.out).box
  clear hb1 hs ho HC
  go_wp2_with fail
  clear x0 x1 x2 x3 x4 x5
  refine (iIsProgramme_any A L c d x R d1 ys w1 (HR.out.below HB1.out) HL.out HO.out.ims (HS.out.fits (mlF_fits HQ.out)) (HT.out.next HB1.out)).mono ?_
  rintro e w2 ⟨he, hb2⟩
  have HB2 := Lib.hid (Below_next HB1.out hb2)
  have HO2 := Lib.hid (HO.out.next hb2)
  have hs2 := hb2.size
  have hs0 := HB.out.size
  clear hb2
  unfold ipV at he
  by_cases hls : ListOk zs
  · have HSL := Lib.hid (show SameS (lateS zs) ys by have := HS.out; rw [mlF_yes hls] at this; exact this)
    rw [pgOk_same HSL.out] at he
    rw [pB_yes hls]
    by_cases hok : PgOk x (lateS zs)
    · rw [pB_yes hok] at he
      subst he
      have HV := Lib.hid (ifF_yes hok)
      have HW := Lib.hid (pB_yes hok)
      clear hok hls
      go_wp2
      go_returns
      exact ⟨⟨R, d1, ys, g, G, by rw [HW.out]; rfl, by rw [HV.out]; exact HSL.out, HO2.out.mono (fun i hi => ⟨by omega, by omega⟩)⟩, Below_next HB.out HB2.out⟩
    · rw [pB_no hok] at he
      subst he
      have HV := Lib.hid (ifF_no hok)
      have HW := Lib.hid (pB_no hok)
      clear hok hls
      go_wp2
      go_returns
      exact ⟨⟨none, 0, [], 0, fun _ => 0, by rw [HW.out]; rfl, by rw [HV.out]; exact SameS.refl _, ims_nothing _ _⟩, Below_next HB.out HB2.out⟩
  · have hok : ¬ PgOk x (lateS zs) := fun q => hls (lateS_ok.1 q.ask.ls)
    rw [pB_no hls]
    subst he
    have HV := Lib.hid (ifF_no hok)
    have HW := Lib.hid (pB_no hok)
    clear hok hls
    go_wp2
    go_returns
    exact ⟨⟨none, 0, [], 0, fun _ => 0, by rw [HW.out]; rfl, by rw [HV.out]; exact SameS.refl _, ims_nothing _ _⟩, Below_next HB.out HB2.out⟩
end Go.Proofs.YtnlcdfaojcnkpaaGreatDoor
