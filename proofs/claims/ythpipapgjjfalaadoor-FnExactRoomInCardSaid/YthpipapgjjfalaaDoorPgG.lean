/- The family of a name in the program; FamilyOf, in the model and in the program. -/
import Derived.Test.YthpipapgjjfalaaDoorPgF
import Derived.Test.YthpipapgjjfalaaDoorItemL
namespace Go.Proofs.YthpipapgjjfalaaDoor
open Go.ChangeShapes Go.WideShapes Go.ChangeAt Go.RowKit
set_option linter.unusedVariables false

/-- The family of a name and whether there is one. -/
noncomputable def famV (x : Cd) (n : ByteArray) : Value := if 0 ≤ fndI x.els n then .tuple #[.int .i64 (famI x n), .bool true] else .tuple #[.int .i64 0, .bool false]
theorem famV_no {x : Cd} {n : ByteArray} (h : ¬ 0 ≤ fndI x.els n) : famV x n = .tuple #[.int .i64 0, .bool false] := if_neg h
theorem famV_yes {x : Cd} {n : ByteArray} (h : 0 ≤ fndI x.els n) : famV x n = .tuple #[.int .i64 (famI x n), .bool true] := if_pos h
set_option maxHeartbeats 1000000 in
theorem familyOfName_any (A L : Option Addr) (c d : Nat) (x : Cd) (n : ByteArray) (w : World) (hr : CdAt w A L x) (hl : CdFits x) :
    Calls Tryd.prog 46 #[x.val A c L d, .string n] w fun e w' => e = .returned (famV x n) ∧ Below w.heap.size w w' := by
  obtain ⟨W, hW, hB⟩ := boxed 33 w A c L d x
  have HB := Lib.hid hB.below
  have HX := Lib.hid hB.at_
  have HR := Lib.hid (hr.below hB.below)
  have HL := Lib.hid hl
  have HF := Lib.hid (fndI_first x.els n)
  have HC := Lib.hid (fndI_cases x.els n)
  clear hr hl hB
  unfold boxCd at hW
  unfold Cd.val
  go_enter Tryd.func46, Tryd.ntmps46
  obtain ⟨x0, x1, x2, x3, x4, x5⟩ := HX.out.box
  rw [hW] at x0 x1 x2 x3 x4 x5
  go_wp2_with fail
  rw [← hW]
  clear hW x0 x1 x2 x3 x4 x5
  refine (indexOf_any A c x.els n _ W HR.out.els HL.out.1 HF.out).mono ?_
  rintro e w2 ⟨he, hb⟩
  have HE := Lib.hid hb
  clear hb
  rcases HC.out with h | ⟨k, h1, h2, h3⟩
  · rw [h, idxV_no (by omega)] at he
    subst he
    have HV := Lib.hid (famV_no (x := x) (n := n) (by omega))
    clear h
    go_wp2
    go_ret2
    exact ⟨by rw [HV.out]; rfl, Below_next HB.out HE.out⟩
  · have HV := Lib.hid (famV_yes (x := x) (n := n) (by omega))
    rw [famI_hit h1] at HV
    rw [h1, idxV_yes (by omega)] at he
    subst he
    obtain ⟨e, o', rfl, hel, hc⟩ := el1 (HR.out.below HE.out).els k h2
    obtain ⟨g0, g1, g2, g3⟩ := hc
    obtain ⟨x0, x1, x2, x3, x4, x5⟩ := (HX.out.next HE.out).box
    have hkl := HL.out.1.1
    clear h1 hel h3
    go_wp2
    go_ret2
    exact ⟨by rw [HV.out]; rfl, Below_next HB.out HE.out⟩

/-- A valid code's families. -/
theorem famI_ok {x : Cd} (h : CdOk x) (n : ByteArray) : (famI x n = -1 ∧ ¬ 0 ≤ fndI x.els n) ∨ (0 ≤ famI x n ∧ famI x n ≤ 4 ∧ 0 ≤ fndI x.els n) := by
  rcases fndI_cases x.els n with h1 | ⟨k, h1, h2, _⟩
  · exact .inl ⟨famI_no (by omega), by omega⟩
  · have := (h.els.el k h2).fam
    rw [famI_hit h1]
    exact .inr ⟨this.1, this.2, by omega⟩
/-- What FamilyOf answers. -/
structure FoOk (x : Cd) (ns : List ByteArray) (ms : List Int) : Prop where
  cd : CdOk x
  itm : ItOk ns ms
  fnd : 0 ≤ fndI x.els (it ns 0)
noncomputable def foV (x : Cd) (ns : List ByteArray) (ms : List Int) : Value := @ite _ (FoOk x ns ms) (Classical.propDecidable _) (.tuple #[.int .i64 (famI x (it ns 0)), .bool true]) (.tuple #[.int .i64 0, .bool false])
theorem foV_yes {x : Cd} {ns : List ByteArray} {ms : List Int} (h : FoOk x ns ms) : foV x ns ms = .tuple #[.int .i64 (famI x (it ns 0)), .bool true] := by unfold foV; exact @if_pos _ (Classical.propDecidable _) h _ _ _
theorem foV_no {x : Cd} {ns : List ByteArray} {ms : List Int} (h : ¬ FoOk x ns ms) : foV x ns ms = .tuple #[.int .i64 0, .bool false] := by unfold foV; exact @if_neg _ (Classical.propDecidable _) h _ _ _
theorem foV_form (x : Cd) (ns : List ByteArray) (ms : List Int) : ∃ (p : Int) (q : Bool), foV x ns ms = .tuple #[.int .i64 p, .bool q] := by
  by_cases h : FoOk x ns ms
  · exact ⟨_, true, foV_yes h⟩
  · exact ⟨0, false, foV_no h⟩
/-- Both boxes are there. -/
theorem two_boxes {W w' : World} {B B' : Nat} {A L : Option Addr} {c d : Nat} {x : Cd} {y : Im} (hX : BoxAt W B A c L d x) (hY : ImBox W B' y) (hb : Below W.heap.size W w') :
    w'.cell? ⟨B, 0, none⟩ = some (.slice A x.els.length c) ∧ w'.cell? ⟨B, 1, none⟩ = some (.slice L x.lims.length d) ∧ w'.cell? ⟨B, 2, none⟩ = some (.int .i64 x.rep) ∧ w'.cell? ⟨B, 3, none⟩ = some (.int .i64 x.bon) ∧ w'.cell? ⟨B, 4, none⟩ = some (.int .i64 x.kee) ∧ w'.cell? ⟨B, 5, none⟩ = some (.int .i64 x.fal) ∧ w'.cell? ⟨B', 0, none⟩ = some (.slice y.A y.ns.length y.c) ∧ w'.cell? ⟨B', 1, none⟩ = some (.slice y.L y.ms.length y.d) ∧ w'.cell? ⟨B', 2, none⟩ = some (.bool y.late) := by
  obtain ⟨e0, e1, e2, e3, e4, e5⟩ := (hX.next hb).box
  obtain ⟨_, f0, f1, f2⟩ := hY.next hb
  exact ⟨e0, e1, e2, e3, e4, e5, f0, f1, f2⟩
/-- The two boxes of a call over a code and an item. -/
theorem boxed2 (t u : TypeId) (w : World) (A : Option Addr) (c : Nat) (L : Option Addr) (d : Nat) (x : Cd) (y : Im) : ∃ V W, V = boxCd t w A c L d x ∧ W = boxIm u V y ∧ Below w.heap.size w W ∧ BoxAt W w.heap.size A c L d x ∧ ImBox W (w.heap.size + 1) y ∧ W.heap.size = w.heap.size + 2 := by
  obtain ⟨V, hV, hB⟩ := boxed t w A c L d x
  obtain ⟨W, hW, hI⟩ := boxedI u V y
  have h1 := hB.size
  have h2 := hI.size
  exact ⟨V, W, hV, hW, Below_next hB.below hI.below, hB.at_.next hI.below, h1 ▸ hI.box, by omega⟩

set_option maxHeartbeats 2000000 in
theorem sFamilyOf_any (A L : Option Addr) (c d : Nat) (x : Cd) (y : Im) (w : World) (hr : CdAt w A L x) (hl : CdFits x) (hy : ImIn w w.heap.size y) (hz : ItFits y) :
    Calls Tryd.prog 16 #[x.val A c L d, y.val] w fun e w' => e = .returned (foV x y.ns y.ms) ∧ Below w.heap.size w w' := by
  obtain ⟨V, W, hV, hW, hb, hX, hY, hs⟩ := boxed2 33 46 w A c L d x y
  have HB := Lib.hid hb
  have HH := Lib.hid (fun (w' : World) (k : Below W.heap.size W w') => two_boxes hX hY k)
  have HR := Lib.hid (hr.below hb)
  have HY := Lib.hid (hy.next hb)
  have HL := Lib.hid hl
  have HZ := Lib.hid hz
  clear hr hl hy hz hb hX hY hs
  unfold boxCd at hV
  unfold boxIm at hW
  unfold Cd.val Im.val
  go_enter Tryd.func16, Tryd.ntmps16
  go_wp2_with fail
  rw [← hV, ← hW]
  clear hV hW
  refine (cdGood_any A L c d x W HR.out HL.out).mono ?_
  rintro e w1 ⟨he, hb1⟩
  have HB1 := Lib.hid hb1
  clear hb1
  by_cases hok : CdOk x
  · rw [pB_yes hok] at he
    subst he
    obtain ⟨x0, x1, x2, x3, x4, x5, y0, y1, y2⟩ := HH.out _ HB1.out
    go_wp2_with fail
    clear x0 x1 x2 x3 x4 x5 y0 y1 y2
    refine (itGood_any y w1 (HY.out.next HB1.out) HZ.out).mono ?_
    rintro e w2 ⟨he, hb2⟩
    have HB2 := Lib.hid (Below_next HB1.out hb2)
    clear hb2
    by_cases hit : ItOk y.ns y.ms
    · rw [pB_yes hit] at he
      subst he
      have hp : 0 < y.ns.length := hit.lo
      obtain ⟨x0, x1, x2, x3, x4, x5, y0, y1, y2⟩ := HH.out _ HB2.out
      go_wp2_with fail
      clear x0 x1 x2 x3 x4 x5 y0 y1 y2
      refine (pgFamily_any A L c d x y w2 (HR.out.below HB2.out) HL.out (HY.out.next HB2.out) hp).mono ?_
      rintro e w3 ⟨rfl, hb3⟩
      have HB3 := Lib.hid (Below_next HB2.out hb3)
      clear hb3
      rcases famI_ok hok (it y.ns 0) with ⟨h1, h2⟩ | ⟨h1, h2, h3⟩
      · have HV := Lib.hid (foV_no (x := x) (ns := y.ns) (ms := y.ms) (fun h => h2 h.fnd))
        rw [h1]
        clear h1 h2 hok hit
        go_wp2_with fail
        go_ret2
        exact ⟨by rw [HV.out]; rfl, Below_next HB.out HB3.out⟩
      · have HV := Lib.hid (foV_yes (x := x) (ns := y.ns) (ms := y.ms) ⟨hok, hit, h3⟩)
        clear h2 h3 hok hit
        obtain ⟨x0, x1, x2, x3, x4, x5, y0, y1, y2⟩ := HH.out _ HB3.out
        go_wp2_with fail
        clear x0 x1 x2 x3 x4 x5 y0 y1 y2
        refine (pgFamily_any A L c d x y w3 (HR.out.below HB3.out) HL.out (HY.out.next HB3.out) hp).mono ?_
        rintro e w4 ⟨rfl, hb4⟩
        have HB4 := Lib.hid (Below_next HB3.out hb4)
        clear hb4 h1
        go_wp2_with fail
        go_ret2
        exact ⟨by rw [HV.out]; rfl, Below_next HB.out HB4.out⟩
    · rw [pB_no hit] at he
      subst he
      have HV := Lib.hid (foV_no (x := x) (ns := y.ns) (ms := y.ms) (fun h => hit h.itm))
      clear hok hit
      go_wp2_with fail
      go_ret2
      exact ⟨by rw [HV.out]; rfl, Below_next HB.out HB2.out⟩
  · rw [pB_no hok] at he
    subst he
    have HV := Lib.hid (foV_no (x := x) (ns := y.ns) (ms := y.ms) (fun h => hok h.cd))
    clear hok
    go_wp2_with fail
    go_ret2
    exact ⟨by rw [HV.out]; rfl, Below_next HB.out HB1.out⟩

set_option maxHeartbeats 2000000 in
theorem iFamilyOf_any (A L : Option Addr) (c d : Nat) (x : Cd) (y : Im) (w : World) (hr : CdAt w A L x) (hl : CdFits x) (hy : ImIn w w.heap.size y) (hz : ItFits y) (ht : Tab w) :
    Calls Tryd.prog 18 #[x.val A c L d, y.val] w fun e w' => e = .returned (foV x y.ns y.ms) ∧ Below w.heap.size w w' := by
  obtain ⟨V, W, hV, hW, hb, hX, hY, hs⟩ := boxed2 33 46 w A c L d x y
  have HB := Lib.hid hb
  have HX := Lib.hid hX
  have HI := Lib.hid hY
  have HH := Lib.hid (fun (w' : World) (k : Below W.heap.size W w') => two_boxes hX hY k)
  have HR := Lib.hid (hr.below hb)
  have HY := Lib.hid (hy.next hb)
  have HT := Lib.hid (ht.next hb)
  have HL := Lib.hid hl
  have HZ := Lib.hid hz
  have hsz := hs
  clear hr hl hy hz hb hX hY hs ht
  unfold boxCd at hV
  unfold boxIm at hW
  unfold Cd.val Im.val
  go_enter Tryd.func18, Tryd.ntmps18
  go_wp2_with fail
  rw [← hV, ← hW]
  clear hV hW
  refine (iIsCode_any A L c d x W HR.out HL.out HT.out).mono ?_
  rintro e w1 ⟨he, hb1⟩
  have HB1 := Lib.hid hb1
  clear hb1
  by_cases hok : CdOk x
  · rw [pB_yes hok] at he
    subst he
    obtain ⟨x0, x1, x2, x3, x4, x5, y0, y1, y2⟩ := HH.out _ HB1.out
    go_wp2_with fail
    clear x0 x1 x2 x3 x4 x5 y0 y1 y2
    refine (iIsItem_any y w1 (HY.out.next HB1.out) HZ.out).mono ?_
    rintro e w2 ⟨he, hb2⟩
    have HB2 := Lib.hid (Below_next HB1.out hb2)
    clear hb2
    by_cases hit : ItOk y.ns y.ms
    · rw [pB_yes hit] at he
      subst he
      have hp : 0 < y.ns.length := hit.lo
      obtain ⟨Y1, c1, Y2, c2, ns, ms, lt⟩ := y
      obtain ⟨b, o, rfl, hbl, hn⟩ := str1 (HY.out.next HB2.out).ns hp
      have HI2 := Lib.hid (show w2.cell? ⟨w.heap.size + 1, 0, none⟩ = some (.slice (some ⟨b, o, none⟩) ns.length c1) from (HI.out.next HB2.out).c0)
      have HK := Lib.hid (fun (w' : World) (hb : Below w2.heap.size w2 w') => held_cn (HX.out.next HB2.out) HI2.out hn (by have := HB2.out.size; omega) hbl hb)
      have HD := Lib.hid (below_drew w2)
      clear hn hbl HH
      obtain ⟨x0, x1, x2, x3, x4, x5, y0, y1⟩ := HK.out _ (Below.refl _ _)
      have hp' : 0 < ns.length := hp
      clear hp
      rcases famI_ok hok (it ns 0) with ⟨h1, h2⟩ | ⟨h1, h2, h3⟩
      · have HV := Lib.hid (foV_no (x := x) (ns := ns) (ms := ms) (fun h => h2 h.fnd))
        have HV0 := Lib.hid (famV_no h2)
        clear h1 h2 hit hok
        go_wp2_with fail
        clear x0 x1 x2 x3 x4 x5 y0 y1
        go_region_held3 (fun w' => w'.cell? ⟨w.heap.size, 0, none⟩ = some (.slice A x.els.length c) ∧ w'.cell? ⟨w.heap.size, 1, none⟩ = some (.slice L x.lims.length d) ∧ w'.cell? ⟨w.heap.size, 2, none⟩ = some (.int .i64 x.rep) ∧ w'.cell? ⟨w.heap.size, 3, none⟩ = some (.int .i64 x.bon) ∧ w'.cell? ⟨w.heap.size, 4, none⟩ = some (.int .i64 x.kee) ∧ w'.cell? ⟨w.heap.size, 5, none⟩ = some (.int .i64 x.fal) ∧ w'.cell? ⟨w.heap.size + 1, 0, none⟩ = some (.slice (some ⟨b, o, none⟩) ns.length c1) ∧ w'.cell? ⟨b, o, none⟩ = some (.string (it ns 0)))
          (first | exact HK.out _ HD.out | exact HK.out _ HE.out)
          (first
            | (go_at_call 46; refine (familyOfName_any A L c d x (it ns 0) _ (HR.out.below (Below_next HB2.out HD.out)) HL.out).mono ?_; rintro e w3 ⟨he, hb⟩; rw [HV0.out] at he; subst he; have HE := Lib.hid (Below_next HD.out hb); clear hb)
            )
        go_wp2
        go_ret2
        exact ⟨by rw [HV.out]; rfl, Below_next HB.out (Below_next HB2.out HE.out)⟩
      · have HV := Lib.hid (foV_yes (x := x) (ns := ns) (ms := ms) ⟨hok, hit, h3⟩)
        have HV0 := Lib.hid (famV_yes h3)
        clear h1 h2 h3 hit hok
        go_wp2_with fail
        clear x0 x1 x2 x3 x4 x5 y0 y1
        go_region_held3 (fun w' => w'.cell? ⟨w.heap.size, 0, none⟩ = some (.slice A x.els.length c) ∧ w'.cell? ⟨w.heap.size, 1, none⟩ = some (.slice L x.lims.length d) ∧ w'.cell? ⟨w.heap.size, 2, none⟩ = some (.int .i64 x.rep) ∧ w'.cell? ⟨w.heap.size, 3, none⟩ = some (.int .i64 x.bon) ∧ w'.cell? ⟨w.heap.size, 4, none⟩ = some (.int .i64 x.kee) ∧ w'.cell? ⟨w.heap.size, 5, none⟩ = some (.int .i64 x.fal) ∧ w'.cell? ⟨w.heap.size + 1, 0, none⟩ = some (.slice (some ⟨b, o, none⟩) ns.length c1) ∧ w'.cell? ⟨b, o, none⟩ = some (.string (it ns 0)))
          (first | exact HK.out _ HD.out | exact HK.out _ HE.out)
          (first
            | (go_at_call 46; refine (familyOfName_any A L c d x (it ns 0) _ (HR.out.below (Below_next HB2.out HD.out)) HL.out).mono ?_; rintro e w3 ⟨he, hb⟩; rw [HV0.out] at he; subst he; have HE := Lib.hid (Below_next HD.out hb); clear hb)
            )
        go_wp2
        go_ret2
        exact ⟨by rw [HV.out]; rfl, Below_next HB.out (Below_next HB2.out HE.out)⟩
    · rw [pB_no hit] at he
      subst he
      have HV := Lib.hid (foV_no (x := x) (ns := y.ns) (ms := y.ms) (fun h => hit h.itm))
      clear hok hit
      go_wp2_with fail
      go_ret2
      exact ⟨by rw [HV.out]; rfl, Below_next HB.out HB2.out⟩
  · rw [pB_no hok] at he
    subst he
    have HV := Lib.hid (foV_no (x := x) (ns := y.ns) (ms := y.ms) (fun h => hok h.cd))
    clear hok
    go_wp2_with fail
    go_ret2
    exact ⟨by rw [HV.out]; rfl, Below_next HB.out HB1.out⟩
end Go.Proofs.YthpipapgjjfalaaDoor
