/- The family of a name and of an item, in the model and in the program. The family of a name in the program; FamilyOf, in the model and in the program. How many items of each family a list has, in the model and in the program. FamilyCounts in the model and in the program. RoomIn in the model and in the program. -/
import Derived.Test.YtnlcdfaojcnkpaaGreatDoorBc
import Derived.Test.YtnlcdfaojcnkpaaGreatDoorBd
import Derived.Deep.RegionHeld3
namespace Go.Proofs.YtnlcdfaojcnkpaaGreatDoor
open Go.ChangeShapes Go.WideShapes Go.ChangeAt Go.RowKit
set_option linter.unusedVariables false

/-- The index of a name, or -1. -/
noncomputable def fndI (xs : List El) (n : ByteArray) : Int := Classical.choose (First.have xs n)
theorem fndI_first (xs : List El) (n : ByteArray) : First xs n (fndI xs n) := Classical.choose_spec (First.have xs n)
/-- The family of a name, or -1. -/
noncomputable def famI (x : Cd) (n : ByteArray) : Int := if 0 ≤ fndI x.els n then (it x.els (fndI x.els n).toNat).fam else -1
theorem famI_no {x : Cd} {n : ByteArray} (h : ¬ 0 ≤ fndI x.els n) : famI x n = -1 := if_neg h
theorem famI_hit {x : Cd} {n : ByteArray} {k : Nat} (h : fndI x.els n = k) : famI x n = (it x.els k).fam := by
  unfold famI
  rw [if_pos (by omega), h]
  rfl
/-- An element with the name, or none. -/
theorem fndI_cases (xs : List El) (n : ByteArray) : (fndI xs n = -1) ∨ ∃ k : Nat, fndI xs n = k ∧ k < xs.length ∧ (it xs k).name = n := by
  rcases fndI_first xs n with ⟨h, _⟩ | ⟨i, h1, h2, h3, _⟩
  · exact .inl h
  · exact .inr ⟨i, h1, h2, h3⟩

/-- An item's box. -/
def boxIm (t : TypeId) (w : World) (y : Im) : World := w.alloc (.cells #[.slice y.A y.ns.length y.c, .slice y.L y.ms.length y.d, .bool y.late] t)
structure BoxedI (w W : World) (y : Im) : Prop where
  below : Below w.heap.size w W
  size : W.heap.size = w.heap.size + 1
  box : ImBox W w.heap.size y
theorem boxedI (t : TypeId) (w : World) (y : Im) : ∃ W, W = boxIm t w y ∧ BoxedI w W y :=
  ⟨_, rfl, below_alloc _ _, by simp [boxIm], imBox_new w t y⟩

theorem str1 {w : World} {B : Nat} {A : Option Addr} {xs : List ByteArray} (h : Lst w B A xs) (hp : 0 < xs.length) : ∃ b o, A = some ⟨b, o, none⟩ ∧ b < B ∧ w.cell? ⟨b, o, none⟩ = some (.string (it xs 0)) := by
  obtain ⟨b, o, h1, h2, h3⟩ := h.str hp
  exact ⟨b, o, h1, h2, h3 0 hp⟩
theorem el1 {w : World} {B : Nat} {A : Option Addr} {xs : List El} (h : Lst w B A xs) (k : Nat) (hk : k < xs.length) : ∃ b o, A = some ⟨b, o, none⟩ ∧ b < B ∧ ElAt w b (o + k * 4) (it xs k) := by
  obtain ⟨b, o, h1, h2, h3⟩ := h.el (by omega)
  exact ⟨b, o, h1, h2, h3 k hk⟩

/-- A code's box, an item's slice of names and its first name are still read. -/
theorem held_cn {W w' : World} {B B' b o n c1 : Nat} {A L : Option Addr} {c d : Nat} {x : Cd} {s : ByteArray} (hX : BoxAt W B A c L d x) (hY : W.cell? ⟨B', 0, none⟩ = some (.slice (some ⟨b, o, none⟩) n c1)) (hS : W.cell? ⟨b, o, none⟩ = some (.string s)) (h1 : B' < W.heap.size) (h2 : b < W.heap.size) (hb : Below W.heap.size W w') :
    w'.cell? ⟨B, 0, none⟩ = some (.slice A x.els.length c) ∧ w'.cell? ⟨B, 1, none⟩ = some (.slice L x.lims.length d) ∧ w'.cell? ⟨B, 2, none⟩ = some (.int .i64 x.rep) ∧ w'.cell? ⟨B, 3, none⟩ = some (.int .i64 x.bon) ∧ w'.cell? ⟨B, 4, none⟩ = some (.int .i64 x.kee) ∧ w'.cell? ⟨B, 5, none⟩ = some (.int .i64 x.fal) ∧ w'.cell? ⟨B', 0, none⟩ = some (.slice (some ⟨b, o, none⟩) n c1) ∧ w'.cell? ⟨b, o, none⟩ = some (.string s) := by
  obtain ⟨e0, e1, e2, e3, e4, e5⟩ := (hX.next hb).box
  exact ⟨e0, e1, e2, e3, e4, e5, (hb.cell (p := ⟨B', 0, none⟩) h1).trans hY, (hb.cell (p := ⟨b, o, none⟩) h2).trans hS⟩
set_option maxHeartbeats 1000000 in
theorem pgFamily_any (A L : Option Addr) (c d : Nat) (x : Cd) (y : Im) (w : World) (hr : CdAt w A L x) (hl : CdFits x) (hy : ImIn w w.heap.size y) (hp : 0 < y.ns.length) :
    Calls Tryz.prog 140 #[x.val A c L d, y.val] w fun e w' => e = .returned (.int .i64 (famI x (it y.ns 0))) ∧ Below w.heap.size w w' := by
  obtain ⟨Y1, c1, Y2, c2, ns, ms, lt⟩ := y
  obtain ⟨b, o, rfl, hbl, hn⟩ := str1 hy.ns hp
  obtain ⟨V, hV, hB⟩ := boxed 38 w A c L d x
  obtain ⟨W, hW, hI⟩ := boxedI 41 V ⟨some ⟨b, o, none⟩, c1, Y2, c2, ns, ms, lt⟩
  have hbW := hI.below
  have hsV := hB.size
  have HB := Lib.hid (Below_next hB.below hbW)
  have HX := Lib.hid (hB.at_.next hbW)
  have HR := Lib.hid ((hr.below hB.below).below hbW)
  have HY := Lib.hid (show W.cell? ⟨V.heap.size, 0, none⟩ = some (.slice (some ⟨b, o, none⟩) ns.length c1) from hI.box.c0)
  have HS := Lib.hid (((Below_next hB.below hbW).cell (p := ⟨b, o, none⟩) hbl).trans hn)
  have HL := Lib.hid hl
  have HF := Lib.hid (fndI_first x.els (it ns 0))
  have HC := Lib.hid (fndI_cases x.els (it ns 0))
  have hp' : 0 < ns.length := hp
  have hsW : w.heap.size + 1 < W.heap.size := by have := hI.size; omega
  have hbW2 : b < W.heap.size := by have := hI.size; omega
  clear hr hl hB hI hy hn hbW hp hbl
  unfold boxCd at hV
  unfold boxIm at hW
  unfold Cd.val Im.val
  rw [hsV] at HY
  clear hsV
  go_enter Tryz.func140, Tryz.ntmps140
  go_wp2_with fail
  rw [← hV, ← hW]
  clear hV hW
  have HH := Lib.hid (fun (w' : World) (hb : Below W.heap.size W w') => held_cn HX.out HY.out HS.out hsW hbW2 hb)
  have HD := Lib.hid (below_drew W)
  go_region_held3 (fun w' => w'.cell? ⟨w.heap.size, 0, none⟩ = some (.slice A x.els.length c) ∧ w'.cell? ⟨w.heap.size, 1, none⟩ = some (.slice L x.lims.length d) ∧ w'.cell? ⟨w.heap.size, 2, none⟩ = some (.int .i64 x.rep) ∧ w'.cell? ⟨w.heap.size, 3, none⟩ = some (.int .i64 x.bon) ∧ w'.cell? ⟨w.heap.size, 4, none⟩ = some (.int .i64 x.kee) ∧ w'.cell? ⟨w.heap.size, 5, none⟩ = some (.int .i64 x.fal) ∧ w'.cell? ⟨w.heap.size + 1, 0, none⟩ = some (.slice (some ⟨b, o, none⟩) ns.length c1) ∧ w'.cell? ⟨b, o, none⟩ = some (.string (it ns 0)))
    (first | exact HH.out _ HD.out | exact HH.out _ HE.out)
    (first
      | (go_at_call 160; refine (cdFind_any A L c d x (it ns 0) _ _ (HR.out.below HD.out) HL.out HF.out).mono ?_; rintro e w2 ⟨rfl, hb⟩; have HE := Lib.hid (Below_next HD.out hb); clear hb)
      )
  clear HD
  rcases HC.out with h | ⟨k, h1, h2, h3⟩
  · rw [h]
    have HV := Lib.hid (famI_no (x := x) (n := it ns 0) (by omega))
    clear h
    go_wp2
    go_ret
    exact ⟨by rw [HV.out]; rfl, Below_next HB.out HE.out⟩
  · have HV := Lib.hid (famI_hit (x := x) (n := it ns 0) h1)
    rw [h1]
    obtain ⟨e, o', rfl, hel, hc⟩ := el1 (HR.out.below HE.out).els k h2
    obtain ⟨g0, g1, g2, g3⟩ := hc
    obtain ⟨x0, x1, x2, x3, x4, x5⟩ := (HX.out.next HE.out).box
    have hkl := HL.out.1.1
    clear h1 hel h3
    go_wp2
    go_ret
    exact ⟨by rw [HV.out]; rfl, Below_next HB.out HE.out⟩
end Go.Proofs.YtnlcdfaojcnkpaaGreatDoor

namespace Go.Proofs.YtnlcdfaojcnkpaaGreatDoor
open Go.ChangeShapes Go.WideShapes Go.ChangeAt Go.RowKit
set_option linter.unusedVariables false

/-- The family of a name and whether there is one. -/
noncomputable def famV (x : Cd) (n : ByteArray) : Value := if 0 ≤ fndI x.els n then .tuple #[.int .i64 (famI x n), .bool true] else .tuple #[.int .i64 0, .bool false]
theorem famV_no {x : Cd} {n : ByteArray} (h : ¬ 0 ≤ fndI x.els n) : famV x n = .tuple #[.int .i64 0, .bool false] := if_neg h
theorem famV_yes {x : Cd} {n : ByteArray} (h : 0 ≤ fndI x.els n) : famV x n = .tuple #[.int .i64 (famI x n), .bool true] := if_pos h
set_option maxHeartbeats 1000000 in
theorem familyOfName_any (A L : Option Addr) (c d : Nat) (x : Cd) (n : ByteArray) (w : World) (hr : CdAt w A L x) (hl : CdFits x) :
    Calls Tryz.prog 162 #[x.val A c L d, .string n] w fun e w' => e = .returned (famV x n) ∧ Below w.heap.size w w' := by
  obtain ⟨W, hW, hB⟩ := boxed 38 w A c L d x
  have HB := Lib.hid hB.below
  have HX := Lib.hid hB.at_
  have HR := Lib.hid (hr.below hB.below)
  have HL := Lib.hid hl
  have HF := Lib.hid (fndI_first x.els n)
  have HC := Lib.hid (fndI_cases x.els n)
  clear hr hl hB
  unfold boxCd at hW
  unfold Cd.val
  go_enter Tryz.func162, Tryz.ntmps162
  obtain ⟨x0, x1, x2, x3, x4, x5⟩ := HX.out.box
  rw [hW] at x0 x1 x2 x3 x4 x5
  go_wp2_with fail
  rw [← hW]
  clear hW x0 x1 x2 x3 x4 x5
  refine (indexOf_any A c x.els n _ W HR.out.els HL.out.1 HF.out).mono ?_
  rintro e w2 ⟨he, hb⟩
  have HE := Lib.hid hb
  clear hb
  rcases HC.out with h | ⟨k, h1, h2, h3⟩
  · rw [h, idxV_no (by omega)] at he
    subst he
    have HV := Lib.hid (famV_no (x := x) (n := n) (by omega))
    clear h
    go_wp2
    go_ret2
    exact ⟨by rw [HV.out]; rfl, Below_next HB.out HE.out⟩
  · have HV := Lib.hid (famV_yes (x := x) (n := n) (by omega))
    rw [famI_hit h1] at HV
    rw [h1, idxV_yes (by omega)] at he
    subst he
    obtain ⟨e, o', rfl, hel, hc⟩ := el1 (HR.out.below HE.out).els k h2
    obtain ⟨g0, g1, g2, g3⟩ := hc
    obtain ⟨x0, x1, x2, x3, x4, x5⟩ := (HX.out.next HE.out).box
    have hkl := HL.out.1.1
    clear h1 hel h3
    go_wp2
    go_ret2
    exact ⟨by rw [HV.out]; rfl, Below_next HB.out HE.out⟩

/-- A valid code's families. -/
theorem famI_ok {x : Cd} (h : CdOk x) (n : ByteArray) : (famI x n = -1 ∧ ¬ 0 ≤ fndI x.els n) ∨ (0 ≤ famI x n ∧ famI x n ≤ 4 ∧ 0 ≤ fndI x.els n) := by
  rcases fndI_cases x.els n with h1 | ⟨k, h1, h2, _⟩
  · exact .inl ⟨famI_no (by omega), by omega⟩
  · have := (h.els.el k h2).fam
    rw [famI_hit h1]
    exact .inr ⟨this.1, this.2, by omega⟩
/-- What FamilyOf answers. -/
structure FoOk (x : Cd) (ns : List ByteArray) (ms : List Int) : Prop where
  cd : CdOk x
  itm : ItOk ns ms
  fnd : 0 ≤ fndI x.els (it ns 0)
noncomputable def foV (x : Cd) (ns : List ByteArray) (ms : List Int) : Value := @ite _ (FoOk x ns ms) (Classical.propDecidable _) (.tuple #[.int .i64 (famI x (it ns 0)), .bool true]) (.tuple #[.int .i64 0, .bool false])
theorem foV_yes {x : Cd} {ns : List ByteArray} {ms : List Int} (h : FoOk x ns ms) : foV x ns ms = .tuple #[.int .i64 (famI x (it ns 0)), .bool true] := by unfold foV; exact @if_pos _ (Classical.propDecidable _) h _ _ _
theorem foV_no {x : Cd} {ns : List ByteArray} {ms : List Int} (h : ¬ FoOk x ns ms) : foV x ns ms = .tuple #[.int .i64 0, .bool false] := by unfold foV; exact @if_neg _ (Classical.propDecidable _) h _ _ _
theorem foV_form (x : Cd) (ns : List ByteArray) (ms : List Int) : ∃ (p : Int) (q : Bool), foV x ns ms = .tuple #[.int .i64 p, .bool q] := by
  by_cases h : FoOk x ns ms
  · exact ⟨_, true, foV_yes h⟩
  · exact ⟨0, false, foV_no h⟩
/-- Both boxes are there. -/
theorem two_boxes {W w' : World} {B B' : Nat} {A L : Option Addr} {c d : Nat} {x : Cd} {y : Im} (hX : BoxAt W B A c L d x) (hY : ImBox W B' y) (hb : Below W.heap.size W w') :
    w'.cell? ⟨B, 0, none⟩ = some (.slice A x.els.length c) ∧ w'.cell? ⟨B, 1, none⟩ = some (.slice L x.lims.length d) ∧ w'.cell? ⟨B, 2, none⟩ = some (.int .i64 x.rep) ∧ w'.cell? ⟨B, 3, none⟩ = some (.int .i64 x.bon) ∧ w'.cell? ⟨B, 4, none⟩ = some (.int .i64 x.kee) ∧ w'.cell? ⟨B, 5, none⟩ = some (.int .i64 x.fal) ∧ w'.cell? ⟨B', 0, none⟩ = some (.slice y.A y.ns.length y.c) ∧ w'.cell? ⟨B', 1, none⟩ = some (.slice y.L y.ms.length y.d) ∧ w'.cell? ⟨B', 2, none⟩ = some (.bool y.late) := by
  obtain ⟨e0, e1, e2, e3, e4, e5⟩ := (hX.next hb).box
  obtain ⟨_, f0, f1, f2⟩ := hY.next hb
  exact ⟨e0, e1, e2, e3, e4, e5, f0, f1, f2⟩
/-- The two boxes of a call over a code and an item. -/
theorem boxed2 (t u : TypeId) (w : World) (A : Option Addr) (c : Nat) (L : Option Addr) (d : Nat) (x : Cd) (y : Im) : ∃ V W, V = boxCd t w A c L d x ∧ W = boxIm u V y ∧ Below w.heap.size w W ∧ BoxAt W w.heap.size A c L d x ∧ ImBox W (w.heap.size + 1) y ∧ W.heap.size = w.heap.size + 2 := by
  obtain ⟨V, hV, hB⟩ := boxed t w A c L d x
  obtain ⟨W, hW, hI⟩ := boxedI u V y
  have h1 := hB.size
  have h2 := hI.size
  exact ⟨V, W, hV, hW, Below_next hB.below hI.below, hB.at_.next hI.below, h1 ▸ hI.box, by omega⟩

end Go.Proofs.YtnlcdfaojcnkpaaGreatDoor

namespace Go.Proofs.YtnlcdfaojcnkpaaGreatDoor
open Go.ChangeShapes Go.WideShapes Go.ChangeAt Go.RowKit
set_option linter.unusedVariables false

/-- The first name of item k. -/
def nam0 (xs : List Im) (k : Nat) : ByteArray := it (it xs k).ns 0
/-- The counts of the first k items. -/
noncomputable def cntG (x : Cd) (xs : List Im) : Nat → List Int
  | 0 => List.replicate 5 0
  | k + 1 => if 0 ≤ fndI x.els (nam0 xs k) then bump (cntG x xs k) (famI x (nam0 xs k)).toNat else cntG x xs k
theorem cntG_no {x : Cd} {xs : List Im} {k : Nat} (h : ¬ 0 ≤ fndI x.els (nam0 xs k)) : cntG x xs (k + 1) = cntG x xs k := if_neg h
theorem cntG_yes {x : Cd} {xs : List Im} {k : Nat} (h : 0 ≤ fndI x.els (nam0 xs k)) : cntG x xs (k + 1) = bump (cntG x xs k) (famI x (nam0 xs k)).toNat := if_pos h
theorem cntG_len (x : Cd) (xs : List Im) : ∀ k, (cntG x xs k).length = 5
  | 0 => rfl
  | k + 1 => by
    by_cases h : 0 ≤ fndI x.els (nam0 xs k)
    · rw [cntG_yes h, bump_len, cntG_len x xs k]
    · rw [cntG_no h, cntG_len x xs k]
theorem small_cntG (x : Cd) (xs : List Im) : ∀ k : Nat, Small (cntG x xs k) k
  | 0 => fun i hi => by
    rw [cntG_len] at hi
    have : it (cntG x xs 0) i = 0 := by
      unfold it cntG
      rw [List.getD_eq_getElem?_getD, List.getElem?_replicate, if_pos hi]
      rfl
    rw [this]
    simp
  | k + 1 => by
    by_cases h : 0 ≤ fndI x.els (nam0 xs k)
    · rw [cntG_yes h]
      have := small_bump (small_cntG x xs k) (famI x (nam0 xs k)).toNat (by omega)
      intro i hi
      have := this i hi
      omega
    · rw [cntG_no h]
      intro i hi
      have := small_cntG x xs k i hi
      omega
theorem nam0_same {xs ys : List Im} (h : SameS xs ys) (k : Nat) (hk : k < xs.length) : nam0 ys k = nam0 xs k := by
  unfold nam0
  rw [(h.each k hk).ns]
theorem cntG_same {x : Cd} {xs ys : List Im} (h : SameS xs ys) : ∀ k, k ≤ xs.length → cntG x ys k = cntG x xs k
  | 0, _ => rfl
  | k + 1, hk => by rw [cntG, cntG, cntG_same h k (by omega), nam0_same h k (by omega)]
/-- A valid code and a valid list. -/
structure PgAsk (x : Cd) (xs : List Im) : Prop where
  cd : CdOk x
  ls : ListOk xs
theorem PgAsk.same {x : Cd} {xs ys : List Im} (h : SameS xs ys) (k : PgAsk x xs) : PgAsk x ys := ⟨k.cd, k.ls.same h⟩
theorem pgAsk_same {x : Cd} {xs ys : List Im} (h : SameS xs ys) : pB (PgAsk x ys) = pB (PgAsk x xs) := pB_iff ⟨fun k => k.same h.symm, fun k => k.same h⟩

set_option maxHeartbeats 1000000 in
theorem pgAsked_any (A L : Option Addr) (c d : Nat) (x : Cd) (P : Option Addr) (c1 : Nat) (xs : List Im) (w : World) (hr : CdAt w A L x) (hl : CdFits x) (hp : Ims w w.heap.size P xs) (hq : ImsFits xs) :
    Calls Tryz.prog 67 #[x.val A c L d, .slice P xs.length c1] w fun e w' => e = .returned (.bool (pB (PgAsk x xs))) ∧ Below w.heap.size w w' := by
  obtain ⟨W, hW, hB⟩ := boxed 38 w A c L d x
  have HB := Lib.hid hB.below
  have HR := Lib.hid (hr.below hB.below)
  have HP := Lib.hid (hp.next hB.below)
  have HL := Lib.hid hl
  have HQ := Lib.hid hq
  clear hr hl hp hq hB
  unfold boxCd at hW
  unfold Cd.val
  go_enter Tryz.func67, Tryz.ntmps67
  go_wp2_with fail
  rw [← hW]
  clear hW
  refine (cdGood_any A L c d x W HR.out HL.out).mono ?_
  rintro e w1 ⟨he, hb1⟩
  have HB1 := Lib.hid hb1
  clear hb1
  by_cases hok : CdOk x
  · rw [pB_yes hok] at he
    subst he
    go_wp2_with fail
    refine (itList_any P c1 xs w1 (HP.out.next HB1.out) HQ.out).mono ?_
    rintro e w2 ⟨he, hb2⟩
    have HB2 := Lib.hid (Below_next HB1.out hb2)
    have HV := Lib.hid (show pB (ListOk xs) = pB (PgAsk x xs) from pB_iff ⟨fun h => ⟨hok, h⟩, fun h => h.ls⟩)
    rw [HV.out] at he
    subst he
    clear hb2 hok
    go_wp2
    go_ret
    exact ⟨rfl, Below_next HB.out HB2.out⟩
  · rw [pB_no hok] at he
    subst he
    have HV := Lib.hid (pB_no (fun h : PgAsk x xs => hok h.cd))
    clear hok
    go_wp2
    go_ret
    exact ⟨by rw [HV.out]; rfl, Below_next HB.out HB1.out⟩

set_option maxRecDepth 20000 in
set_option maxHeartbeats 2000000 in
theorem pgCounts_any (A L : Option Addr) (c d : Nat) (x : Cd) (P : Option Addr) (c1 : Nat) (xs : List Im) (w : World) (hr : CdAt w A L x) (hl : CdFits x) (hp : Ims w w.heap.size P xs) (hq : ImsFits xs) (hk : PgAsk x xs) :
    Calls Tryz.prog 111 #[x.val A c L d, .slice P xs.length c1] w fun e w' => (∃ g, e = .returned (.slice (some ⟨g, 0, none⟩) 5 5) ∧ w.heap.size ≤ g ∧ g < w'.heap.size ∧ OwnAt w' g 0 (cntG x xs xs.length)) ∧ Below w.heap.size w w' := by
  obtain ⟨W, hW, hB⟩ := boxed 38 w A c L d x
  have HB := Lib.hid hB.below
  have HX := Lib.hid hB.at_
  have HR := Lib.hid (hr.below hB.below)
  have HP := Lib.hid (hp.next hB.below)
  have HL := Lib.hid hl
  have HQ := Lib.hid hq
  have HK := Lib.hid hk
  have HS := Lib.hid (small_cntG x xs)
  have h14 := hk.ls.len
  have HSW := Lib.hid hB.size
  obtain ⟨i0, hi, hz0, hz1, hz2⟩ := info_parts Tryz.infoInt
  have HZ := Lib.hid (made_flat (α := Int) #[.int .i64 0] 0 5 rfl (by decide))
  clear hr hl hp hq hB hk
  unfold boxCd at hW
  unfold Cd.val
  go_enter Tryz.func111, Tryz.ntmps111
  go_wp2_with (first | (at_make; rw [← hW]; refine wpList_make_full _ rfl (.const (.int .i64 5)) (.const (.int .i64 5)) 23 rfl W.heap.size 3 i0 (.int .i64 0) 1 Tryz.underlying23 hi hz0 hz1 .i64 .i64 _ _ 5 rfl rfl rfl rfl (by rw [hz2]; omega) (by unfold maxLen; omega) (Nat.le_refl _) ?_; intro w2 hown hgrow))
  have HW := Lib.hid (show OwnAt w2 W.heap.size 0 (cntG x xs 0) from own_of_row (α := Int) (cap := 5) (e := 3) (base := W.heap.size) (List.replicate 5 (0 : Int)) (by rw [← HZ.out]; exact hown))
  have hb2 : Below W.heap.size W w2 := (Below.refl _ _).grown hgrow (Nat.le_refl _) (fun k e => by cases e)
  have hs2 := (hown.lt W.heap.size rfl).2
  clear hown hgrow hW
  rw [HSW.out] at HW hs2
  go_loopw [12] (fun i wr => ∃ k : Nat, k ≤ xs.length ∧ i = .int .i64 k ∧ Hid (OwnAt wr (w.heap.size + 1) 0 (cntG x xs k)) ∧ w.heap.size + 1 < wr.heap.size ∧ Hid (Below W.heap.size W wr)) (fun i _ => xs.length - (intOf i).toNat)
  case atStart => exact ⟨0, Nat.zero_le _, rfl, HW, hs2, Lib.hid hb2⟩
  case round =>
    obtain ⟨k, hk, rfl, HO, hsr, HBR⟩ := hrel
    by_cases hlt : k < xs.length
    · obtain ⟨b, o, rfl, hbl, hc⟩ := HP.out.out.im (by omega)
      obtain ⟨c0, c1, c2⟩ := (hc k hlt).below HBR.out hbl
      have hp0 : 0 < (it xs k).ns.length := (HK.out.ls.each k hlt).lo
      have HI := Lib.hid ((HP.out.next HBR.out).each k hlt)
      have HF := Lib.hid (HQ.out.each k hlt)
      obtain ⟨x0, x1, x2, x3, x4, x5⟩ := (HX.out.next HBR.out).box
      have hxl := (HX.out.next HBR.out).lt
      clear hc hbl
      rcases famI_ok HK.out.cd (nam0 xs k) with ⟨h1, h2⟩ | ⟨h1, h2, h3⟩
      · have HV := Lib.hid (cntG_no h2)
        have HN := Lib.hid h1
        clear h1 h2 hp0
        go_wp2_with (go_at_call 140; refine (pgFamily_any A L c d x (it xs k) _ (HR.out.below (Below_next HBR.out (below_alloc _ _))) HL.out (HI.out.next (below_alloc _ _)) (HK.out.ls.each k hlt).lo).mono ?_; rintro e w3 ⟨rfl, hb3⟩; rw [show famI x (it (it xs k).ns 0) = -1 from HN.out]; have HB3 := Lib.hid (below_next (below_alloc _ _) hb3); clear hb3)
        clear c0 c1 c2 x0 x1 x2 x3 x4 x5
        go_roundw
        case rel => exact ⟨k + 1, by omega, by go_num, by rw [HV.out]; exact Lib.hid (HO.out.block (HB3.out.block _ hsr)), by have := HB3.out.size; omega, Lib.hid (Below_next HBR.out HB3.out)⟩
        case measure => simp [intOf]; omega
      · obtain ⟨n, hn⟩ : ∃ n : Nat, famI x (nam0 xs k) = (n : Int) := ⟨_, (Int.toNat_of_nonneg h1).symm⟩
        rw [hn] at h2
        have hn5 : n < (cntG x xs k).length := by rw [cntG_len]; omega
        have HN := Lib.hid hn
        have HV := Lib.hid (show (cntG x xs k).set n (it (cntG x xs k) n + 1) = cntG x xs (k + 1) by rw [cntG_yes h3, hn]; rfl)
        obtain ⟨s1, s2⟩ := HS.out k n hn5
        have HO2 := Lib.hid (fun (w' : World) (h : Below wr.heap.size wr w') => HO.out.block (h.block _ hsr))
        clear h1 h3 hn hp0
        go_wp2_with (go_at_call 140; refine (pgFamily_any A L c d x (it xs k) _ (HR.out.below (Below_next HBR.out (below_alloc _ _))) HL.out (HI.out.next (below_alloc _ _)) (HK.out.ls.each k hlt).lo).mono ?_; rintro e w3 ⟨rfl, hb3⟩; rw [show famI x (it (it xs k).ns 0) = (n : Int) from HN.out]; have HB3 := Lib.hid (below_next (below_alloc _ _) hb3); clear hb3; obtain ⟨d0, f0⟩ := (HO2.out _ HB3.out).int0 n hn5)
        clear c0 c1 c2 x0 x1 x2 x3 x4 x5
        have HP2 := Lib.hid ((HO2.out _ HB3.out).putInt0 n (it (cntG x xs k) n + 1) hn5)
        rw [HV.out] at HP2
        go_roundw
        case rel => exact ⟨k + 1, by omega, by go_num, HP2, by have := HB3.out.size; simp [World.setCell]; omega, Lib.hid ((Below_next HBR.out HB3.out).setCell (Nat.le_of_eq HSW.out) _)⟩
        case measure => simp [intOf]; omega
    · obtain rfl : k = xs.length := by omega
      go_wp2
      go_ret
      exact ⟨⟨w.heap.size + 1, rfl, Nat.le_succ _, hsr, HO.out⟩, Below_next HB.out HBR.out⟩
end Go.Proofs.YtnlcdfaojcnkpaaGreatDoor

namespace Go.Proofs.YtnlcdfaojcnkpaaGreatDoor
open Go.ChangeShapes Go.WideShapes Go.ChangeAt Go.RowKit
set_option linter.unusedVariables false

/-- What FamilyCounts answers. -/
noncomputable def fcF (x : Cd) (xs : List Im) : List Int := @ite _ (PgAsk x xs) (Classical.propDecidable _) (cntG x xs xs.length) []
theorem fcF_yes {x : Cd} {xs : List Im} (h : PgAsk x xs) : fcF x xs = cntG x xs xs.length := by unfold fcF; rw [if_pos h]
theorem fcF_no {x : Cd} {xs : List Im} (h : ¬ PgAsk x xs) : fcF x xs = [] := by unfold fcF; rw [if_neg h]
theorem fcF_same {x : Cd} {xs ys : List Im} (h : SameS xs ys) : fcF x ys = fcF x xs := by
  by_cases k : PgAsk x xs
  · rw [fcF_yes k, fcF_yes (k.same h), h.len, cntG_same h _ (Nat.le_refl _)]
  · rw [fcF_no k, fcF_no (fun q => k (q.same h.symm))]
theorem fcF_len (x : Cd) (xs : List Im) : (fcF x xs).length ≤ 1048576 := by
  by_cases k : PgAsk x xs
  · rw [fcF_yes k, cntG_len]; decide
  · rw [fcF_no k]; decide

set_option maxRecDepth 20000 in
set_option maxHeartbeats 4000000 in
theorem iFamilyCounts_any (A L : Option Addr) (c d : Nat) (x : Cd) (P : Option Addr) (c1 : Nat) (xs : List Im) (w : World) (hr : CdAt w A L x) (hl : CdFits x) (hp : Ims w w.heap.size P xs) (hq : ImsFits xs) (ht : Tab w) :
    Calls Tryz.prog 163 #[x.val A c L d, .slice P xs.length c1] w fun e w' => (∃ R d, e = .returned (.tuple #[.slice R (fcF x xs).length d, .bool (pB (PgAsk x xs))]) ∧ Owned (fun i => w.heap.size ≤ i ∧ i < w'.heap.size) w' R (fcF x xs)) ∧ Below w.heap.size w w' := by
  obtain ⟨W, hW, hB⟩ := boxed 38 w A c L d x
  have HB := Lib.hid hB.below
  have HX := Lib.hid hB.at_
  have HR := Lib.hid (hr.below hB.below)
  have HP := Lib.hid (hp.next hB.below)
  have HT := Lib.hid (ht.next hB.below)
  have HL := Lib.hid hl
  have HQ := Lib.hid hq
  clear hr hl hp hq hB ht
  unfold boxCd at hW
  unfold Cd.val
  go_enter Tryz.func163, Tryz.ntmps163
  go_wp2_with fail
  rw [← hW]
  clear hW
  refine (iIsCode_any A L c d x W HR.out HL.out HT.out).mono ?_
  rintro e w1 ⟨he, hb1⟩
  have HB1 := Lib.hid hb1
  clear hb1
  by_cases hcd : CdOk x
  · rw [pB_yes hcd] at he
    subst he
    go_wp2_with fail
    refine (iAreItems_any P c1 xs w1 (HP.out.next HB1.out) HQ.out).mono ?_
    rintro e w2 ⟨he, hb2⟩
    have HB2 := Lib.hid (Below_next HB1.out hb2)
    clear hb2
    by_cases hls : ListOk xs
    · rw [pB_yes hls] at he
      subst he
      have hok : PgAsk x xs := ⟨hcd, hls⟩
      have HK := Lib.hid hok
      have HS := Lib.hid (small_cntG x xs)
      have h14 := hls.len
      clear hok hcd hls
      obtain ⟨i0, hi, hz0, hz1, hz2⟩ := info_parts Tryz.infoInt
      have HZ := Lib.hid (made_flat (α := Int) #[.int .i64 0] 0 5 rfl (by decide))
      go_wp2_with (first | (at_make; refine wpList_make_full _ rfl (.const (.int .i64 5)) (.const (.int .i64 5)) 23 rfl w2.heap.size 3 i0 (.int .i64 0) 1 Tryz.underlying23 hi hz0 hz1 .i64 .i64 _ _ 5 rfl rfl rfl rfl (by rw [hz2]; omega) (by unfold maxLen; omega) (Nat.le_refl _) ?_; intro w3 hown hgrow))
      have HW := Lib.hid (show OwnAt w3 w2.heap.size 0 (cntG x xs 0) from own_of_row (α := Int) (cap := 5) (e := 3) (base := w2.heap.size) (List.replicate 5 (0 : Int)) (by rw [← HZ.out]; exact hown))
      have hb2 : Below w2.heap.size w2 w3 := (Below.refl _ _).grown hgrow (Nat.le_refl _) (fun k e => by cases e)
      have hs2 := (hown.lt w2.heap.size rfl).2
      have HB3 := Lib.hid (Below_next HB2.out hb2)
      clear hown hgrow hb2 hi hz0 hz1 hz2
      go_loopw [22] (fun i wr => ∃ k : Nat, k ≤ xs.length ∧ i = .int .i64 k ∧ Hid (OwnAt wr w2.heap.size 0 (cntG x xs k)) ∧ w2.heap.size < wr.heap.size ∧ Hid (Below W.heap.size W wr)) (fun i _ => xs.length - (intOf i).toNat)
      case atStart => exact ⟨0, Nat.zero_le _, rfl, HW, hs2, HB3⟩
      case round =>
        obtain ⟨k, hk, rfl, HO, hsr, HBR⟩ := hrel
        by_cases hlt : k < xs.length
        · obtain ⟨b, o, rfl, hbl, hc⟩ := HP.out.out.im (by omega)
          obtain ⟨c0, c1', c2⟩ := (hc k hlt).below HBR.out hbl
          have hp0 : 0 < (it xs k).ns.length := (HK.out.ls.each k hlt).lo
          obtain ⟨b', o', hA, hb', hn'⟩ := str1 ((HP.out.next HBR.out).each k hlt).ns hp0
          rw [hA] at c0
          have HN := Lib.hid hn'
          have hY := (imBox_new wr 41 (it xs k)).c0
          rw [hA] at hY
          have HNW := Lib.hid hY
          clear hc hbl hn' hA hY
          go_wp2_with fail
          clear c0 c1' c2
          have hb4 := below_alloc wr (Obj.cells #[Value.slice (some ⟨b', o', none⟩) (it xs k).ns.length (it xs k).c, Value.slice (it xs k).L (it xs k).ms.length (it xs k).d, Value.bool (it xs k).late] 41)
          have hs4 : wr.heap.size < (World.alloc wr (Obj.cells #[Value.slice (some ⟨b', o', none⟩) (it xs k).ns.length (it xs k).c, Value.slice (it xs k).L (it xs k).ms.length (it xs k).d, Value.bool (it xs k).late] 41)).heap.size := by simp
          generalize hw4 : World.alloc wr _ = w4 at HNW hb4 hs4 ⊢
          have HB4 := Lib.hid (Below_next HBR.out hb4)
          have HN4 := Lib.hid ((hb4.cell (p := ⟨b', o', none⟩) hb').trans HN.out)
          have HH := Lib.hid (fun (w' : World) (h : Below w4.heap.size w4 w') => held_cn (s := nam0 xs k) (HX.out.next HB4.out) HNW.out HN4.out hs4 (by omega) h)
          have HD := Lib.hid (below_drew w4)
          have HO2 := Lib.hid (fun (w' : World) (h : Below w4.heap.size w4 w') => HO.out.block ((below_next hb4 h).block _ hsr))
          obtain ⟨x0, x1, x2, x3, x4, x5, y0, y1⟩ := HH.out _ (Below.refl _ _)
          clear hw4 hb4 hb'
          rcases famI_ok HK.out.cd (nam0 xs k) with ⟨h1, h2⟩ | ⟨h1, h2, h3⟩
          · have HV := Lib.hid (cntG_no h2)
            have HV0 := Lib.hid (famV_no h2)
            clear h1 h2
            clear x0 x1 x2 x3 x4 x5 y0 y1
            go_region_held3 (fun w' => w'.cell? ⟨w.heap.size, 0, none⟩ = some (.slice A x.els.length c) ∧ w'.cell? ⟨w.heap.size, 1, none⟩ = some (.slice L x.lims.length d) ∧ w'.cell? ⟨w.heap.size, 2, none⟩ = some (.int .i64 x.rep) ∧ w'.cell? ⟨w.heap.size, 3, none⟩ = some (.int .i64 x.bon) ∧ w'.cell? ⟨w.heap.size, 4, none⟩ = some (.int .i64 x.kee) ∧ w'.cell? ⟨w.heap.size, 5, none⟩ = some (.int .i64 x.fal) ∧ w'.cell? ⟨wr.heap.size, 0, none⟩ = some (.slice (some ⟨b', o', none⟩) (it xs k).ns.length (it xs k).c) ∧ w'.cell? ⟨b', o', none⟩ = some (.string (nam0 xs k)))
              (first | exact HH.out _ HD.out | exact HH.out _ HE.out)
              (first
                | (go_at_call 162; refine (familyOfName_any A L c d x (nam0 xs k) _ (HR.out.below (Below_next HB4.out HD.out)) HL.out).mono ?_; rintro e w5 ⟨he, hb⟩; rw [HV0.out] at he; subst he; have HE := Lib.hid (Below_next HD.out hb); clear hb)
                )
            go_wp2
            go_roundw
            case rel => exact ⟨k + 1, by omega, by go_num, by rw [HV.out]; exact Lib.hid (HO2.out _ HE.out), by have := HE.out.size; omega, Lib.hid (Below_next HB4.out HE.out)⟩
            case measure => simp [intOf]; omega
          · obtain ⟨n, hn⟩ : ∃ n : Nat, famI x (nam0 xs k) = (n : Int) := ⟨_, (Int.toNat_of_nonneg h1).symm⟩
            rw [hn] at h2
            have hn5 : n < (cntG x xs k).length := by rw [cntG_len]; omega
            have HV0 := Lib.hid (hn ▸ famV_yes h3)
            have HV := Lib.hid (show (cntG x xs k).set n (it (cntG x xs k) n + 1) = cntG x xs (k + 1) by rw [cntG_yes h3, hn]; rfl)
            obtain ⟨s1, s2⟩ := HS.out k n hn5
            clear h1 h3 hn
            clear x0 x1 x2 x3 x4 x5 y0 y1
            go_region_held3 (fun w' => w'.cell? ⟨w.heap.size, 0, none⟩ = some (.slice A x.els.length c) ∧ w'.cell? ⟨w.heap.size, 1, none⟩ = some (.slice L x.lims.length d) ∧ w'.cell? ⟨w.heap.size, 2, none⟩ = some (.int .i64 x.rep) ∧ w'.cell? ⟨w.heap.size, 3, none⟩ = some (.int .i64 x.bon) ∧ w'.cell? ⟨w.heap.size, 4, none⟩ = some (.int .i64 x.kee) ∧ w'.cell? ⟨w.heap.size, 5, none⟩ = some (.int .i64 x.fal) ∧ w'.cell? ⟨wr.heap.size, 0, none⟩ = some (.slice (some ⟨b', o', none⟩) (it xs k).ns.length (it xs k).c) ∧ w'.cell? ⟨b', o', none⟩ = some (.string (nam0 xs k)))
              (first | exact HH.out _ HD.out | exact HH.out _ HE.out)
              (first
                | (go_at_call 162; refine (familyOfName_any A L c d x (nam0 xs k) _ (HR.out.below (Below_next HB4.out HD.out)) HL.out).mono ?_; rintro e w5 ⟨he, hb⟩; rw [HV0.out] at he; subst he; have HE := Lib.hid (Below_next HD.out hb); clear hb)
                )
            obtain ⟨d0, f0⟩ := (HO2.out _ HE.out).int0 n hn5
            have HP2 := Lib.hid ((HO2.out _ HE.out).putInt0 n (it (cntG x xs k) n + 1) hn5)
            rw [HV.out] at HP2
            go_wp2
            go_roundw
            case rel => exact ⟨k + 1, by omega, by go_num, HP2, by have := HE.out.size; simp [World.setCell]; omega, Lib.hid ((Below_next HB4.out HE.out).setCell (by have := HB2.out.size; exact this) _)⟩
            case measure => simp [intOf]; omega
        · obtain rfl : k = xs.length := by omega
          have hs0 := HB.out.size
          have hs1 := HB2.out.size
          go_wp2
          go_returns
          rw [pB_yes HK.out, fcF_yes HK.out, cntG_len]
          exact ⟨⟨_, 5, rfl, fun _ => ⟨w2.heap.size, 0, rfl, ⟨by omega, hsr⟩, hsr, HO.out⟩⟩, Below_next HB.out HBR.out⟩
    · rw [pB_no hls] at he
      subst he
      have hno : ¬ PgAsk x xs := fun h => hls h.ls
      have HK := Lib.hid hno
      clear hls hno hcd
      go_wp2
      go_returns
      rw [pB_no HK.out, fcF_no HK.out]
      exact ⟨⟨none, 0, rfl, Owned.nil _ _ _⟩, Below_next HB.out HB2.out⟩
  · rw [pB_no hcd] at he
    subst he
    have hno : ¬ PgAsk x xs := fun h => hcd h.cd
    have HK := Lib.hid hno
    clear hcd hno
    go_wp2
    go_returns
    rw [pB_no HK.out, fcF_no HK.out]
    exact ⟨⟨none, 0, rfl, Owned.nil _ _ _⟩, Below_next HB.out HB1.out⟩
end Go.Proofs.YtnlcdfaojcnkpaaGreatDoor

namespace Go.Proofs.YtnlcdfaojcnkpaaGreatDoor
open Go.ChangeShapes Go.WideShapes Go.ChangeAt Go.RowKit
set_option linter.unusedVariables false

/-- The first k of the differences laid over a list. -/
def rmG (ls cs base : List Int) : Nat → List Int
  | 0 => base
  | k + 1 => (rmG ls cs base k).set k (it ls k - it cs k)
theorem rmG_len (ls cs base : List Int) : ∀ k, (rmG ls cs base k).length = base.length
  | 0 => rfl
  | k + 1 => by rw [rmG, List.length_set, rmG_len ls cs base k]
theorem rmG_ge (ls cs base : List Int) : ∀ k j, k ≤ j → it (rmG ls cs base k) j = it base j
  | 0, _, _ => rfl
  | k + 1, j, h => by
    rw [rmG]
    by_cases hk : k < (rmG ls cs base k).length
    · rw [it_set _ _ _ _ hk, if_neg (by omega)]
      exact rmG_ge ls cs base k j (by omega)
    · rw [List.set_eq_of_length_le (by omega)]
      exact rmG_ge ls cs base k j (by omega)
theorem rmG_full (ls cs base : List Int) (h : base.length = 5) : rmG ls cs base 5 = [it ls 0 - it cs 0, it ls 1 - it cs 1, it ls 2 - it cs 2, it ls 3 - it cs 3, it ls 4 - it cs 4] := by
  match base, h with
  | [a, b, c, d, e], _ => rfl
/-- What RoomIn answers. -/
noncomputable def rmF (x : Cd) (xs : List Im) : List Int := @ite _ (PgAsk x xs) (Classical.propDecidable _) (rmG x.lims (cntG x xs xs.length) (cntG x xs xs.length) 5) []
theorem rmF_yes {x : Cd} {xs : List Im} (h : PgAsk x xs) : rmF x xs = rmG x.lims (cntG x xs xs.length) (cntG x xs xs.length) 5 := by unfold rmF; rw [if_pos h]
theorem rmF_yes' {x : Cd} {xs : List Im} (h : PgAsk x xs) : rmF x xs = rmG x.lims (cntG x xs xs.length) (List.replicate 5 0) 5 := by rw [rmF_yes h, rmG_full _ _ _ (cntG_len _ _ _), rmG_full _ _ _ rfl]
theorem rmF_no {x : Cd} {xs : List Im} (h : ¬ PgAsk x xs) : rmF x xs = [] := by unfold rmF; rw [if_neg h]
theorem rmF_same {x : Cd} {xs ys : List Im} (h : SameS xs ys) : rmF x ys = rmF x xs := by
  by_cases k : PgAsk x xs
  · rw [rmF_yes k, rmF_yes (k.same h), h.len, cntG_same h _ (Nat.le_refl _)]
  · rw [rmF_no k, rmF_no (fun q => k (q.same h.symm))]
theorem rmF_len5 {x : Cd} {xs : List Im} (h : PgAsk x xs) : (rmF x xs).length = 5 := by rw [rmF_yes h, rmG_len, cntG_len]
theorem rmF_len (x : Cd) (xs : List Im) : (rmF x xs).length ≤ 1048576 := by
  by_cases k : PgAsk x xs
  · rw [rmF_len5 k]; decide
  · rw [rmF_no k]; decide

set_option maxRecDepth 20000 in
set_option maxHeartbeats 4000000 in
theorem iRoomIn_any (A L : Option Addr) (c d : Nat) (x : Cd) (P : Option Addr) (c1 : Nat) (xs : List Im) (w : World) (hr : CdAt w A L x) (hl : CdFits x) (hp : Ims w w.heap.size P xs) (hq : ImsFits xs) (ht : Tab w) :
    Calls Tryz.prog 146 #[x.val A c L d, .slice P xs.length c1] w fun e w' => (∃ R d, e = .returned (.tuple #[.slice R (rmF x xs).length d, .bool (pB (PgAsk x xs))]) ∧ Owned (fun i => w.heap.size ≤ i ∧ i < w'.heap.size) w' R (rmF x xs)) ∧ Below w.heap.size w w' := by
  obtain ⟨W, hW, hB⟩ := boxed 38 w A c L d x
  have HB := Lib.hid hB.below
  have HX := Lib.hid hB.at_
  have HR := Lib.hid (hr.below hB.below)
  have HP := Lib.hid (hp.next hB.below)
  have HT := Lib.hid (ht.next hB.below)
  have HL := Lib.hid hl
  have HQ := Lib.hid hq
  clear hr hl hp hq hB ht
  unfold boxCd at hW
  unfold Cd.val
  go_enter Tryz.func146, Tryz.ntmps146
  go_wp2_with fail
  rw [← hW]
  clear hW
  refine (iFamilyCounts_any A L c d x P c1 xs W HR.out HL.out HP.out HQ.out HT.out).mono ?_
  rintro e w1 ⟨⟨R1, d1, he, ho⟩, hb1⟩
  have HB1 := Lib.hid hb1
  clear hb1
  by_cases hok : PgAsk x xs
  · rw [pB_yes hok, fcF_yes hok, cntG_len] at he
    rw [fcF_yes hok] at ho
    obtain ⟨g, o, rfl, hg1, hg2, hg3⟩ := ho (by rw [cntG_len]; decide)
    subst he
    have HK := Lib.hid hok
    have HLM := Lib.hid hok.cd.lims
    have hl5 := hok.cd.lims.len
    have h14 := hok.ls.len
    obtain ⟨cs, hcs⟩ : ∃ cs, cs = cntG x xs xs.length := ⟨_, rfl⟩
    rw [← hcs] at hg3
    have HO := Lib.hid hg3
    have HSM := Lib.hid (hcs ▸ small_cntG x xs xs.length)
    have hc5 : cs.length = 5 := by rw [hcs, cntG_len]
    have HCS := Lib.hid hcs
    have hs0 := HB.out.size
    have hs1 := HB1.out.size
    obtain ⟨i0, hi, hz0, hz1, hz2⟩ := info_parts Tryz.infoInt
    have HZ := Lib.hid (made_flat (α := Int) #[.int .i64 0] 0 5 rfl (by decide))
    clear hok hg1 hg3 hcs
    go_wp2_with (first | (at_make; refine wpList_make_full _ rfl (.const (.int .i64 5)) (.const (.int .i64 5)) 23 rfl w1.heap.size 3 i0 (.int .i64 0) 1 Tryz.underlying23 hi hz0 hz1 .i64 .i64 _ _ 5 rfl rfl rfl rfl (by rw [hz2]; omega) (by unfold maxLen; omega) (Nat.le_refl _) ?_; intro w2 hown hgrow))
    have HW := Lib.hid (show OwnAt w2 w1.heap.size 0 (rmG x.lims cs (List.replicate 5 0) 0) from own_of_row (α := Int) (cap := 5) (e := 3) (base := w1.heap.size) (List.replicate 5 (0 : Int)) (by rw [← HZ.out]; exact hown))
    have hb2 : Below w1.heap.size w1 w2 := (Below.refl _ _).grown hgrow (Nat.le_refl _) (fun k e => by cases e)
    have hs2 := (hown.lt w1.heap.size rfl).2
    have HB2 := Lib.hid hb2
    clear hown hgrow hb2 hi hz0 hz1 hz2
    go_loopw [22] (fun i wr => ∃ k : Nat, k ≤ 5 ∧ i = .int .i64 k ∧ Hid (OwnAt wr w1.heap.size 0 (rmG x.lims cs (List.replicate 5 0) k)) ∧ w1.heap.size < wr.heap.size ∧ Hid (Below w1.heap.size w1 wr)) (fun i _ => 5 - (intOf i).toNat)
    case atStart => exact ⟨0, Nat.zero_le _, rfl, HW, hs2, HB2⟩
    case round =>
      obtain ⟨k, hk, rfl, HG, hsr, HBR⟩ := hrel
      by_cases hlt : k < 5
      · have hk5 : k < (rmG x.lims cs (List.replicate 5 0) k).length := by rw [rmG_len]; simpa using hlt
        obtain ⟨d0, f0⟩ := HG.out.int0 k hk5
        obtain ⟨e0, _⟩ := (HO.out.block (HBR.out.block _ hg2)).int k (by omega)
        obtain ⟨s1, s2⟩ := HSM.out k (by omega)
        obtain ⟨l1, l2⟩ := HLM.out.lim k (by omega)
        have HBW := Lib.hid (Below_next HB1.out HBR.out)
        obtain ⟨b, o2, rfl, hbl, hc⟩ := (HR.out.below HBW.out).lims.int (by omega)
        have m0 := hc k (by omega)
        obtain ⟨x0, x1, x2, x3, x4, x5⟩ := (HX.out.next HBW.out).box
        have HP2 := Lib.hid (HG.out.putInt0 k (it x.lims k - it cs k) hk5)
        rw [show (rmG x.lims cs (List.replicate 5 0) k).set k (it x.lims k - it cs k) = rmG x.lims cs (List.replicate 5 0) (k + 1) from rfl] at HP2
        rw [hl5] at x1
        clear hc hbl hk5 hl5
        go_wp2
        go_roundw
        case rel => exact ⟨k + 1, by omega, by go_num, HP2, by simpa [World.setCell] using hsr, Lib.hid (HBR.out.setCell (Nat.le_refl _) _)⟩
        case measure => simp [intOf]; omega
      · obtain rfl : k = 5 := by omega
        go_wp2
        go_returns
        rw [pB_yes HK.out, rmF_len5 HK.out]
        exact ⟨⟨_, 5, rfl, fun _ => ⟨w1.heap.size, 0, rfl, ⟨by omega, hsr⟩, hsr, by rw [rmF_yes' HK.out, ← HCS.out]; exact HG.out⟩⟩, Below_next HB.out (Below_next HB1.out HBR.out)⟩
  · rw [pB_no hok, fcF_no hok] at he
    subst he
    have HK := Lib.hid hok
    clear hok ho
    go_wp2
    go_returns
    rw [pB_no HK.out, rmF_no HK.out]
    exact ⟨⟨none, 0, rfl, Owned.nil _ _ _⟩, Below_next HB.out HB1.out⟩
end Go.Proofs.YtnlcdfaojcnkpaaGreatDoor
