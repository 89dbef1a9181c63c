/- What elements and items are worth, as the program has it. Repeats, as the program counts them in a map. KnowsItems, ElementWorth and places of a known list, in the program. RepeatsOf, ItemBase, BaseValues and ProgrammeBase in the program. The family and the full base of an item alone, and what it gains by being late, in the program. -/
import Derived.Test.YtnlcdfaojcnkpaaDoorBk
import Derived.Test.YtnlcdfaojcnkpaaDoorBf
import Derived.Deep.RegionHeld3
import Derived.Test.YtnlcdfaojcnkpaaDoorBj
import Derived.Test.YtnlcdfaojcnkpaaDoorPgB
import Derived.Test.YtnlcdfaojcnkpaaDoorBl
import Derived.RegionTactic
import Derived.BigRegion
import Derived.Deep.Cut
import Derived.Deep.CutRange
import Derived.Deep.DeepCutAuto
namespace Go.Proofs.YtnlcdfaojcnkpaaDoor
open Go.ChangeShapes Go.WideShapes Go.ChangeAt Go.RowKit
set_option linter.unusedVariables false

set_option maxHeartbeats 1000000 in
theorem worthOf_any (A L : Option Addr) (c d : Nat) (x : Cd) (b m : Int) (w : World) (hok : CdOk x) (h1 : 1 ≤ b) (h2 : b ≤ 2000) :
    Calls Tryd.prog 110 #[x.val A c L d, .int .i64 b, .int .i64 m] w fun e w' => e = .returned (.int .i64 (wrtB x b m)) ∧ Below w.heap.size w w' := by
  have hkk := hok.kee
  clear hok
  unfold Cd.val
  have hm1 : 0 ≤ b * x.kee := Int.mul_nonneg (by omega) (by omega)
  have hm2 : b * x.kee ≤ 2000 * 100 := Int.mul_le_mul h2 hkk.2 (by omega) (by omega)
  have m4 : IntKind.i64.wrap (b * x.kee) = b * x.kee := IntWalk.i64_in _ (by omega)
  have m5 : (b * x.kee).tdiv 100 = b * x.kee / 100 := Int.tdiv_eq_ediv_of_nonneg hm1
  have m6 : (b * 9).tdiv 10 = b * 9 / 10 := Int.tdiv_eq_ediv_of_nonneg (by omega)
  have m7 : IntKind.i64.wrap (b * x.kee / 100) = b * x.kee / 100 := IntWalk.i64_in _ (by omega)
  have m8 : IntKind.i64.wrap (b * 9 / 10) = b * 9 / 10 := IntWalk.i64_in _ (by omega)
  clear hkk
  by_cases e1 : m = 1
  · have HW := Lib.hid (show wrtB x b m = b * x.kee / 100 from by unfold wrtB; rw [if_pos e1])
    subst e1
    go_enter Tryd.func110, Tryd.ntmps110
    go_wp2
    go_ret
    exact ⟨by rw [HW.out]; rfl, below_alloc _ _⟩
  by_cases e2 : m = 2
  · have HW := Lib.hid (show wrtB x b m = b * 9 / 10 from by unfold wrtB; rw [if_neg e1, if_pos e2])
    subst e2
    go_enter Tryd.func110, Tryd.ntmps110
    go_wp2
    go_ret
    exact ⟨by rw [HW.out]; rfl, below_alloc _ _⟩
  by_cases e3 : m = 3
  · have HW := Lib.hid (show wrtB x b m = 0 from by unfold wrtB; rw [if_neg e1, if_neg e2, if_pos e3])
    subst e3
    go_enter Tryd.func110, Tryd.ntmps110
    go_wp2
    go_ret
    exact ⟨by rw [HW.out]; rfl, below_alloc _ _⟩
  · have HW := Lib.hid (show wrtB x b m = b from by unfold wrtB; rw [if_neg e1, if_neg e2, if_neg e3])
    have f1 : (m == 1) = false := by simp; exact e1
    have f2 : (m == 2) = false := by simp; exact e2
    have f3 : (m == 3) = false := by simp; exact e3
    clear e1 e2 e3
    go_enter Tryd.func110, Tryd.ntmps110
    go_wp2
    go_ret
    exact ⟨by rw [HW.out]; rfl, below_alloc _ _⟩

theorem bsFloor_any (a b : Int) (w : World) (ha1 : -10000000000000 ≤ a) (ha2 : a ≤ 10000000000000) (hb : 1 ≤ b) :
    Calls Tryd.prog 166 #[.int .i64 a, .int .i64 b] w fun e w' => e = .returned (.int .i64 (a / b)) ∧ w = w' := by
  have hq := bs_tdiv a b
  by_cases h : a.tmod b < 0
  · have h2 : -1 + a.tdiv b ≤ 10000000000000 := by omega
    go_enter Tryd.func166, Tryd.ntmps166
    go_wp2
    go_ret
    exact ⟨by rw [← bs_floor_neg hb h]; rfl, rfl⟩
  · go_enter Tryd.func166, Tryd.ntmps166
    go_wp2
    go_ret
    exact ⟨by rw [← bs_floor_pos hb (by omega)]; rfl, rfl⟩
theorem bsRoundI_any (a : Int) (w : World) (ha1 : 0 ≤ a) (ha2 : a ≤ 1000000000) :
    Calls Tryd.prog 129 #[.int .i64 a, .int .i64 100, .int .i64 0] w fun e w' => e = .returned (.tuple #[.int .i64 ((2 * a + 100) / 200), .bool true]) ∧ w = w' := by
  go_enter Tryd.func129, Tryd.ntmps129
  go_wp2_with (first | (go_at_call 166; refine (bsFloor_any _ _ _ (by omega) (by omega) (by omega)).mono ?_; rintro e w' ⟨rfl, rfl⟩) | go_in)
  go_ret2
  exact ⟨rfl, rfl⟩
theorem bsPoints_any (a : Int) (w : World) (h1 : -1000000 ≤ a) (h2 : a ≤ 1000000) :
    Calls Tryd.prog 128 #[.int .i64 a] w fun e w' => e = .returned (.bool true) ∧ w = w' := by
  go_enter Tryd.func128, Tryd.ntmps128
  go_wp2
  go_ret
  exact ⟨rfl, rfl⟩
theorem bsPercent_any (n p : Int) (w : World) (h1 : 0 ≤ n) (h2 : n ≤ 6000) (h3 : 0 ≤ p) (h4 : p ≤ 120) :
    Calls Tryd.prog 111 #[.int .i64 n, .int .i64 p, .int .i64 0] w fun e w' => e = .returned (.tuple #[.int .i64 ((2 * (n * p) + 100) / 200), .bool true]) ∧ w = w' := by
  have e1 : 0 ≤ n * p := Int.mul_nonneg h1 h3
  have e2 : n * p ≤ 6000 * 120 := Int.mul_le_mul h2 h4 h3 (by omega)
  have m1 : IntKind.i64.wrap (n * p) = n * p := IntWalk.i64_in _ (by omega)
  go_enter Tryd.func111, Tryd.ntmps111
  go_wp2_with (first | (go_at_call 129; (with_reducible refine (bsRoundI_any (n * p) _ (by omega) (by omega)).mono ?_); rintro e w' ⟨rfl, rfl⟩) | (go_at_call 128; refine (bsPoints_any _ _ (by omega) (by omega)).mono ?_; rintro e w' ⟨rfl, rfl⟩))
  go_ret2
  exact ⟨rfl, rfl⟩

set_option maxHeartbeats 2000000 in
theorem fullBaseOf_f (A L : Option Addr) (c d : Nat) (x : Cd) (YA : Option Addr) (yc : Nat) (YL : Option Addr) (yd : Nat) (ns : List ByteArray) (ms : List Int) (lt : Bool) (w : World) (hr : CdAt w A L x) (hl : CdFits x) (hok : CdOk x) (hy : ImIn w w.heap.size ⟨YA, yc, YL, yd, ns, ms, lt⟩) (hi : ItOk ns ms) (hkn : ∀ j, j < ns.length → Known x (it ns j)) :
    Calls Tryd.prog 86 #[x.val A c L d, .agg #[.slice YA ns.length yc, .slice YL ms.length yd, .bool lt]] w fun e w' => e = .returned (.int .i64 (fulI x ns ms lt)) ∧ Below w.heap.size w w' := by
  obtain ⟨V, W, hV, hW, hb, hX, hY, hs⟩ := boxed2 31 76 w A c L d x ⟨YA, yc, YL, yd, ns, ms, lt⟩
  have HB := Lib.hid hb
  have HH := Lib.hid (fun (w' : World) (k : Below W.heap.size W w') => show w'.cell? ⟨w.heap.size, 0, none⟩ = some (.slice A x.els.length c) ∧ w'.cell? ⟨w.heap.size, 1, none⟩ = some (.slice L x.lims.length d) ∧ w'.cell? ⟨w.heap.size, 2, none⟩ = some (.int .i64 x.rep) ∧ w'.cell? ⟨w.heap.size, 3, none⟩ = some (.int .i64 x.bon) ∧ w'.cell? ⟨w.heap.size, 4, none⟩ = some (.int .i64 x.kee) ∧ w'.cell? ⟨w.heap.size, 5, none⟩ = some (.int .i64 x.fal) ∧ w'.cell? ⟨w.heap.size + 1, 0, none⟩ = some (.slice YA ns.length yc) ∧ w'.cell? ⟨w.heap.size + 1, 1, none⟩ = some (.slice YL ms.length yd) ∧ w'.cell? ⟨w.heap.size + 1, 2, none⟩ = some (.bool lt) from two_boxes hX hY k)
  have HR := Lib.hid (hr.below hb)
  have HI := Lib.hid (hy.next hb)
  have HK := Lib.hid hok
  have HL := Lib.hid hl
  have HN := Lib.hid hkn
  have HS := Lib.hid (fun k => sumI_le hok ns ms k)
  have HSN := Lib.hid (sumI_nonneg hok ns ms ns.length hkn)
  have hn3 := hi.hi
  have hn1 := hi.lo
  have HEQ := Lib.hid hi.eq
  have hbn := hok.bon
  have HIN := Lib.hid (show Lst W W.heap.size YA ns from HI.out.ns)
  have HIM := Lib.hid (show Lst W W.heap.size YL ms from HI.out.ms)
  obtain ⟨b, o, rfl, hbl, hc⟩ := HIN.out.str hn1
  obtain ⟨b2, o2, rfl, hbl2, hc2⟩ := HIM.out.int (show 0 < ms.length by have := HEQ.out; omega)
  have HNS := Lib.hid hc
  have HM := Lib.hid hc2
  clear hr hl hok hy hi hb hX hY hs hc hc2 hkn
  unfold boxCd at hV
  unfold boxIm at hW
  dsimp only at hW
  unfold Cd.val
  go_enter Tryd.func86, Tryd.ntmps86
  go_wp2_with fail
  rw [← hV, ← hW]
  clear hV hW
  obtain ⟨x0, x1, x2, x3, x4, x5, y0, y1, y2⟩ := HH.out W (Below.refl _ _)
  go_wp2_with fail
  clear x0 x1 x2 x3 x4 x5 y0 y1 y2
  go_loopw [5, 13] (fun s i wr => ∃ k : Nat, k ≤ ns.length ∧ i = .int .i64 k ∧ s = .int .i64 (sumI x ns ms k) ∧ Hid (Below W.heap.size W wr)) (fun _ i _ => ns.length - (intOf i).toNat)
  case atStart => exact ⟨0, Nat.zero_le _, rfl, rfl, Lib.hid (Below.refl _ _)⟩
  case round =>
    obtain ⟨k, hk, rfl, rfl, HBR⟩ := hrel
    by_cases hlt : k < ns.length
    · have hv := (HBR.out.cell (p := ⟨b, o + k, none⟩) hbl).trans (HNS.out k hlt)
      obtain ⟨x0, x1, x2, x3, x4, x5, y0, y1, y2⟩ := HH.out _ HBR.out
      have HF := Lib.hid (fndI_first x.els (it ns k))
      have HKN := Lib.hid (HN.out k hlt)
      have hkm : k < ms.length := by have := HEQ.out; omega
      have hs1 := HS.out k
      have hs2 := HS.out (k + 1)
      have HQ0 := Lib.hid (show sumI x ns ms (k + 1) = sumI x ns ms k + wrtI x (it ns k) (it ms k) from rfl)
      rcases fndI_cases x.els (it ns k) with h | ⟨m, h1, h2, h3⟩
      · have := HKN.out
        unfold Known at this
        omega
      have HW := Lib.hid (wrtI_hit (x := x) (n := it ns k) (m := it ms k) h1)
      have HV1 := Lib.hid (show idxV (fndI x.els (it ns k)) = .tuple #[.int .i64 (m : Int), .bool true] from by rw [h1, idxV_yes (by omega)])
      clear h1 h3
      go_wp2_with fail
      clear x0 x1 x2 x3 x4 x5 y0 y1 y2 hv
      refine (indexOf_any A c x.els (it ns k) _ wr (HR.out.below HBR.out).els HL.out.1 HF.out).mono ?_
      rintro e w2 ⟨he, hb⟩
      rw [HV1.out] at he
      subst he
      have HB2 := Lib.hid (Below_next HBR.out hb)
      clear hb
      obtain ⟨be, oe, rfl, hel, hc⟩ := el1 HR.out.els m h2
      have HC := Lib.hid hc
      have hbs := (HK.out.els.el m h2).base
      obtain ⟨hb1, hb2⟩ := hbs
      have hwb := wrtB_le HK.out hb1 hb2 (it ms k)
      have hml := HL.out.1.1
      have HG := Lib.hid (fun (w' : World) (h : Below w2.heap.size w2 w') => show w'.cell? ⟨w.heap.size, 0, none⟩ = some (.slice (some ⟨be, oe, none⟩) x.els.length c) ∧ w'.cell? ⟨w.heap.size, 1, none⟩ = some (.slice L x.lims.length d) ∧ w'.cell? ⟨w.heap.size, 2, none⟩ = some (.int .i64 x.rep) ∧ w'.cell? ⟨w.heap.size, 3, none⟩ = some (.int .i64 x.bon) ∧ w'.cell? ⟨w.heap.size, 4, none⟩ = some (.int .i64 x.kee) ∧ w'.cell? ⟨w.heap.size, 5, none⟩ = some (.int .i64 x.fal) ∧ w'.cell? ⟨w.heap.size + 1, 1, none⟩ = some (.slice (some ⟨b2, o2, none⟩) ms.length yd) ∧ w'.cell? ⟨b2, o2 + k, none⟩ = some (.int .i64 (it ms k)) ∧ w'.cell? ⟨be, oe + m * 4 + 3, none⟩ = some (.int .i64 (it x.els m).base) from by
        obtain ⟨x0, x1, x2, x3, x4, x5, y0, y1, y2⟩ := HH.out _ (Below_next HB2.out h)
        exact ⟨x0, x1, x2, x3, x4, x5, y1, ((Below_next HB2.out h).cell (p := ⟨b2, o2 + k, none⟩) hbl2).trans (HM.out k (by have := HEQ.out; omega)), ((Below_next HB2.out h).cell (p := ⟨be, oe + m * 4 + 3, none⟩) hel).trans HC.out.c3⟩)
      have HD := Lib.hid (below_drew w2)
      rw [HW.out] at HQ0
      have HQ := Lib.hid (show Value.int .i64 (sumI x ns ms (k + 1)) = Value.int .i64 (IntKind.i64.wrap (sumI x ns ms k + wrtB x (it x.els m).base (it ms k))) from by rw [IntWalk.i64_in (sumI x ns ms k + wrtB x (it x.els m).base (it ms k)) (by omega), HQ0.out])
      clear hc HC
      go_wp2_with fail
      go_region_held3 (fun w' => w'.cell? ⟨w.heap.size, 0, none⟩ = some (.slice (some ⟨be, oe, none⟩) x.els.length c) ∧ w'.cell? ⟨w.heap.size, 1, none⟩ = some (.slice L x.lims.length d) ∧ w'.cell? ⟨w.heap.size, 2, none⟩ = some (.int .i64 x.rep) ∧ w'.cell? ⟨w.heap.size, 3, none⟩ = some (.int .i64 x.bon) ∧ w'.cell? ⟨w.heap.size, 4, none⟩ = some (.int .i64 x.kee) ∧ w'.cell? ⟨w.heap.size, 5, none⟩ = some (.int .i64 x.fal) ∧ w'.cell? ⟨w.heap.size + 1, 1, none⟩ = some (.slice (some ⟨b2, o2, none⟩) ms.length yd) ∧ w'.cell? ⟨b2, o2 + k, none⟩ = some (.int .i64 (it ms k)) ∧ w'.cell? ⟨be, oe + m * 4 + 3, none⟩ = some (.int .i64 (it x.els m).base))
        (first | exact HG.out _ HD.out | exact HG.out _ HE.out)
        (first
          | (go_at_call 110; refine (worthOf_any (some ⟨be, oe, none⟩) L c d x (it x.els m).base (it ms k) _ HK.out hb1 hb2).mono ?_; rintro e w3 ⟨rfl, hb⟩; have HE := Lib.hid (Below_next HD.out hb); clear hb)
          )
      go_wp2
      go_roundw
      case rel => exact ⟨k + 1, by omega, by go_num, HQ.out.symm, Lib.hid (Below_next HB2.out HE.out)⟩
      case measure => simp [intOf]; omega
    · obtain rfl : k = ns.length := by omega
      obtain ⟨x0, x1, x2, x3, x4, x5, y0, y1, y2⟩ := HH.out _ HBR.out
      have hs1 := HS.out ns.length
      have hs0 := HSN.out
      cases lt with
      | true =>
        have HV := Lib.hid (fulI_late x ns ms)
        go_wp2_with (go_at_call 111; refine (bsPercent_any _ _ _ (by omega) (by omega) (by omega) (by omega)).mono ?_; rintro e w' ⟨rfl, rfl⟩)
        go_ret
        exact ⟨by rw [HV.out]; rfl, Below_next HB.out HBR.out⟩
      | false =>
        have HV := Lib.hid (fulI_early x ns ms)
        go_wp2
        go_ret
        exact ⟨by rw [HV.out]; rfl, Below_next HB.out HBR.out⟩
theorem fullBaseOf_any (A L : Option Addr) (c d : Nat) (x : Cd) (y : Im) (w : World) (hr : CdAt w A L x) (hl : CdFits x) (hok : CdOk x) (hy : ImIn w w.heap.size y) (hi : ItOk y.ns y.ms) (hkn : ∀ j, j < y.ns.length → Known x (it y.ns j)) :
    Calls Tryd.prog 86 #[x.val A c L d, y.val] w fun e w' => e = .returned (.int .i64 (fulI x y.ns y.ms y.late)) ∧ Below w.heap.size w w' := by
  obtain ⟨YA, yc, YL, yd, ns, ms, lt⟩ := y
  exact fullBaseOf_f A L c d x YA yc YL yd ns ms lt w hr hl hok hy hi hkn

end Go.Proofs.YtnlcdfaojcnkpaaDoor

namespace Go.Proofs.YtnlcdfaojcnkpaaDoor
open Go.ChangeShapes Go.WideShapes Go.ChangeAt Go.RowKit Go.PlainAid Go.WideMaps Go.Maps
set_option linter.unusedVariables false

/-- A list of n numbers, written place by place. -/
def setTo (f : Nat → Int) (n : Nat) : Nat → List Int
  | 0 => List.replicate n 0
  | k + 1 => (setTo f n k).set k (f k)
theorem setTo_len (f : Nat → Int) (n : Nat) : ∀ k, (setTo f n k).length = n
  | 0 => by simp [setTo]
  | k + 1 => by rw [setTo, List.length_set, setTo_len f n k]
theorem setTo_it (f : Nat → Int) (n : Nat) : ∀ k j, j < n → it (setTo f n k) j = if j < k then f j else 0
  | 0, j, hj => by
    unfold setTo it
    rw [List.getD_eq_getElem?_getD, List.getElem?_replicate, if_pos hj]
    rfl
  | k + 1, j, hj => by
    rw [setTo]
    by_cases e : j = k
    · subst e
      simp [it, List.getD_eq_getElem?_getD, setTo_len, hj]
    · have h := setTo_it f n k j hj
      have h2 : it ((setTo f n k).set k (f k)) j = it (setTo f n k) j := by
        unfold it
        rw [List.getD_eq_getElem?_getD, List.getD_eq_getElem?_getD, List.getElem?_set_ne (fun q => e q.symm)]
      rw [h2, h]
      by_cases h3 : j < k
      · rw [if_pos h3, if_pos (by omega)]
      · rw [if_neg h3, if_neg (by omega)]
theorem ints_ext {l m : List Int} (h : l.length = m.length) (e : ∀ j, j < l.length → it l j = it m j) : l = m := by
  apply List.ext_getElem h
  intro j h1 h2
  have := e j h1
  unfold it at this
  rw [List.getD_eq_getElem?_getD, List.getD_eq_getElem?_getD, List.getElem?_eq_getElem h1, List.getElem?_eq_getElem h2] at this
  exact this
theorem setTo_keep {f : Nat → Int} {n k : Nat} (hk : k < n) (h : f k = 0) : setTo f n (k + 1) = setTo f n k := by
  refine ints_ext (by rw [setTo_len, setTo_len]) (fun j hj => ?_)
  rw [setTo_len] at hj
  rw [setTo_it f n _ j hj, setTo_it f n _ j hj]
  by_cases e : j = k
  · subst e
    rw [if_pos (by omega), if_neg (by omega), h]
  · by_cases h3 : j < k
    · rw [if_pos h3, if_pos (by omega)]
    · rw [if_neg h3, if_neg (by omega)]
/-- How often a name has come among the first j items. -/
theorem rep_step {D : DataW Unit} {xs : List Im} {k : Nat} (h : Nums D (fun s => (repI s xs k : Int))) (e : ¬ it (it xs k).ms 0 = 3) : Nums (D.put (strL (it (it xs k).ns 0)) (.lit (.int .i64 ((repI (it (it xs k).ns 0) xs k : Int) + 1)))) (fun s => (repI s xs (k + 1) : Int)) := by
  refine nums_same (nums_put h _ _) (fun s => ?_)
  by_cases q : s = it (it xs k).ns 0
  · rw [if_pos q, q, repI_yes rfl e]
    omega
  · rw [if_neg q, repI_no (fun p => q p.symm)]
theorem rep_skip {D : DataW Unit} {xs : List Im} {k : Nat} (h : Nums D (fun s => (repI s xs k : Int))) (e : it (it xs k).ms 0 = 3) : Nums D (fun s => (repI s xs (k + 1) : Int)) := nums_same h (fun s => by rw [repI_void e])
theorem rep_start (xs : List Im) : Nums (.map []) (fun s => (repI s xs 0 : Int)) := nums_none

/-- The map of counts: block b, at most n of them. -/
def CountMap (w : World) (b n : Nat) (D : DataW Unit) : Prop := w.ownsMap Tryd.prog 9 (plainElem Tryd.prog 3) b n D
theorem count_set {w : World} {b n g o : Nat} {D : DataW Unit} (h : CountMap w b n D) (hne : b ≠ g) (u : Value) : CountMap (w.setCell ⟨g, o, none⟩ u) b n D := World.ownsMap.setCell h hne u
theorem zeroInt (w : World) : (zeroValue 3).run Tryd.prog w = .ok (.int .i64 0) w := by kernel_rfl

set_option maxRecDepth 100000 in
set_option maxHeartbeats 2000000 in
theorem repeatsIn_any (P : Option Addr) (c : Nat) (xs : List Im) (w : World) (hr : Ims w w.heap.size P xs) (hok : ListOk xs) :
    Calls Tryd.prog 85 #[.slice P xs.length c] w fun e w' => (∃ R d, e = .returned (.slice R xs.length d) ∧ Owned (fun i => w.heap.size ≤ i ∧ i < w'.heap.size) w' R (setTo (fun k => (rptI xs k : Int)) xs.length xs.length)) ∧ Below w.heap.size w w' := by
  have hmm := @run_makeMap Tryd.prog
  obtain ⟨i0, hi, hz0, hz1, hz2⟩ := info_parts Tryd.infoInt
  have HZ := Lib.hid (made_flat (α := Int) #[.int .i64 0] 0 xs.length rfl (by decide))
  have HR := Lib.hid hr
  have HK := Lib.hid hok
  have h14 := hok.len
  clear hr hok
  go_enter Tryd.func85, Tryd.ntmps85
  go_wp2_with (at_make; refine wpList_make_full _ rfl (.tmp 9) (.tmp 9) 23 rfl w.heap.size 3 i0 (.int .i64 0) 1 Tryd.underlying23 hi hz0 hz1 .i64 .i64 _ _ xs.length rfl rfl rfl rfl (by rw [hz2]; omega) (by unfold maxLen; omega) (Nat.le_refl _) ?_; intro w1 hown hgrow)
  have HW := Lib.hid (show OwnAt w1 w.heap.size 0 (setTo (fun k => (rptI xs k : Int)) xs.length 0) from own_of_row (α := Int) (cap := xs.length) (e := 3) (base := w.heap.size) (List.replicate xs.length (0 : Int)) (by rw [← HZ.out, List.length_replicate]; exact hown))
  have hb1 : Below w.heap.size w w1 := (Below.refl _ _).grown hgrow (Nat.le_refl _) (fun k e => by cases e)
  have hs1 := (hown.lt w.heap.size rfl).2
  have HB1 := Lib.hid hb1
  clear hown hgrow hb1 hi hz0 hz1 hz2
  generalize hw2 : World.alloc w1 _ = w2
  have hb2 : Below w1.heap.size w1 w2 := by
    rw [← hw2]
    exact below_alloc _ _
  have hs2 : w1.heap.size < w2.heap.size := by
    rw [← hw2]
    simp
  have HO2 := Lib.hid (show CountMap w2 w1.heap.size 0 (.map []) from by
    rw [← hw2]
    exact World.ownsMap_made _ _ _ _)
  have HW2 := Lib.hid (HW.out.block (hb2.block _ hs1))
  have HB2 := Lib.hid (Below_next HB1.out hb2)
  clear hw2 hb2 hmm HW
  go_loopw [14] (fun i wr => ∃ (k : Nat) (D : DataW Unit), k ≤ xs.length ∧ i = .int .i64 k ∧ Hid (OwnAt wr w.heap.size 0 (setTo (fun k => (rptI xs k : Int)) xs.length k)) ∧ Hid (Nums D (fun s => (repI s xs k : Int))) ∧ Hid (CountMap wr w1.heap.size k D) ∧ w1.heap.size < wr.heap.size ∧ Hid (Below w.heap.size w wr)) (fun i _ => xs.length - (intOf i).toNat)
  case atStart => exact ⟨0, .map [], Nat.zero_le _, rfl, HW2, Lib.hid (rep_start xs), HO2, hs2, HB2⟩
  case round =>
    obtain ⟨k, D, hk, rfl, HOK, HD, HM, hsr, HBR⟩ := hrel
    have hlk := setTo_len (fun k => (rptI xs k : Int)) xs.length k
    by_cases hlt : k < xs.length
    · obtain ⟨b, o, rfl, hbl, hc⟩ := HR.out.out.im (by omega)
      obtain ⟨c0, c1', c2⟩ := (hc k hlt).below HBR.out hbl
      have hp0 : 0 < (it xs k).ns.length := (HK.out.each k hlt).lo
      have hp1 : 0 < (it xs k).ms.length := by have := (HK.out.each k hlt).eq; omega
      obtain ⟨b', o', hA, hb', hn'⟩ := str1 (HR.out.each k hlt).ns hp0
      obtain ⟨b3, o3, hA3, hbl3, hv3⟩ := (HR.out.each k hlt).ms.int hp1
      have hkey := name_key (show (it (it xs k).ns 0).size ≤ 1048576 by have := ((HK.out.each k hlt).nm 0 hp0).hi; omega)
      rw [hA] at c0
      rw [hA3] at c1'
      have hY := imBox_new wr 76 (it xs k)
      have y0 := hY.c0
      have y1 := hY.c1
      rw [hA, hA3] at y0 y1
      have hbx := below_alloc wr (.cells #[.slice (some ⟨b', o', none⟩) (it xs k).ns.length (it xs k).c, .slice (some ⟨b3, o3, none⟩) (it xs k).ms.length (it xs k).d, .bool (it xs k).late] 76)
      have HY0 := Lib.hid y0
      have HY1 := Lib.hid y1
      have HV2 := Lib.hid ((HBR.out.cell (p := ⟨b', o', none⟩) hb').trans hn')
      have HV3 := Lib.hid ((HBR.out.cell (p := ⟨b3, o3, none⟩) hbl3).trans (hv3 0 hp1))
      clear hA hA3 hn' hv3 y0 y1 hY hc
      go_upto_region 6 with fail
      clear c0 c1' c2
      generalize hw4 : World.alloc wr _ = w4 at hbx HY0 HY1 ⊢
      have hs4 : wr.heap.size < w4.heap.size := by
        rw [← hw4]
        simp
      clear hw4
      have HB4 := Lib.hid (Below_next HBR.out hbx)
      have y0 := HY0.out
      have y1 := HY1.out
      have g2 := (hbx.cell (p := ⟨b', o', none⟩) (Nat.lt_of_lt_of_le hb' HBR.out.size)).trans HV2.out
      have g3 := (hbx.cell (p := ⟨b3, o3, none⟩) (Nat.lt_of_lt_of_le hbl3 HBR.out.size)).trans HV3.out
      have HM4 := Lib.hid (show CountMap w4 w1.heap.size k D from map_next HM.out hbx)
      have HO4 := Lib.hid (HOK.out.block (hbx.block _ (by omega)))
      obtain ⟨d0, f0⟩ := HO4.out.int0 k (by omega)
      have hrl := repI_le (it (it xs k).ns 0) xs k
      have HRV := Lib.hid (show (rptI xs k : Int) = (repI (it (it xs k).ns 0) xs k : Int) from rfl)
      have hn1 : wr.heap.size ≠ w.heap.size := by omega
      have hn2 : b3 ≠ w.heap.size := by omega
      have HM5 := Lib.hid (fun (u : Value) => count_set (o := k) HM4.out (show w1.heap.size ≠ w.heap.size by omega) u)
      have HP5 := Lib.hid (HO4.out.putInt0 k (repI (it (it xs k).ns 0) xs k : Int) (by omega))
      have HB5 := Lib.hid (fun (u : Value) => HB4.out.setCell (p := ⟨w.heap.size, k, none⟩) (Nat.le_refl _) u)
      clear hbx
      by_cases em : it (it xs k).ms 0 = 3
      · rw [em] at g3
        have HD5 := Lib.hid (rep_skip HD.out em)
        clear em
        go_wp2_with (first
          | (at_lookup; refine wpList_lookup_own_int _ rfl _ _ 136 rfl 9 3 .i64 lawStr Tryd.underlying136 Tryd.underlying3 (zeroInt _) w1.heap.size k D rfl HM4.out _ _ rfl hkey ?_; intro q hat hwq; obtain rfl : q = (repI (it (it xs k).ns 0) xs k : Int) := nums_get HD.out hat; clear hat hwq))
        go_roundw
        case rel => exact ⟨k + 1, D, by omega, by go_num, HP5, HD5, Lib.hid (World.ownsMap.mono (HM5.out _) (Nat.le_succ _)), by simp [World.setCell]; omega, Lib.hid (HB5.out _)⟩
        case measure => simp [intOf]; omega
      · have HD5 := Lib.hid (rep_step HD.out em)
        have hm : (it (it xs k).ms 0 == 3) = false := by simp; exact em
        clear em
        go_wp2_with (first
          | (at_lookup; refine wpList_lookup_own_int _ rfl _ _ 136 rfl 9 3 .i64 lawStr Tryd.underlying136 Tryd.underlying3 (zeroInt _) w1.heap.size k D rfl HM4.out _ _ rfl hkey ?_; intro q hat hwq; obtain rfl : q = (repI (it (it xs k).ns 0) xs k : Int) := nums_get HD.out hat; clear hat hwq)
          | (at_lookup; refine wpList_lookup_own_int _ rfl _ _ 136 rfl 9 3 .i64 lawStr Tryd.underlying136 Tryd.underlying3 (zeroInt _) w1.heap.size k D rfl (HM5.out _) _ _ rfl hkey ?_; intro q hat hwq; obtain rfl : q = (repI (it (it xs k).ns 0) xs k : Int) := nums_get HD.out hat; clear hat hwq)
          | (at_mapUpdate; refine wpList_mapUpdate_own _ rfl _ _ _ 136 rfl 9 3 lawStr Tryd.underlying136 _ w1.heap.size k _ rfl (HM5.out _) (by unfold maxLen; omega) _ _ _ rfl rfl hkey _ [] (plainElem_int Tryd.underlying3 (WalkArith.wf_i64 (by omega))) ?_; intro w6 hown hgrow))
        have HO6 := Lib.hid (HP5.out.block (hgrow.block w.heap.size (by simp [World.setCell]; omega) (by simp; omega)))
        have HB6 := Lib.hid ((HB5.out _).grown hgrow (by simp [World.setCell]; omega) (fun q e => by have h1 := Option.some.inj e; omega))
        have hs6 := hgrow.size
        simp [World.setCell] at hs6
        have HM6 := Lib.hid (show CountMap w6 w1.heap.size (k + 1) _ from hown)
        clear hown hgrow
        go_wp2
        go_roundw
        case rel => exact ⟨k + 1, _, by omega, by go_num, HO6, HD5, HM6, by omega, HB6⟩
        case measure => simp [intOf]; omega
    · obtain rfl : k = xs.length := by omega
      go_wp2
      go_ret
      exact ⟨⟨_, _, rfl, fun _ => ⟨w.heap.size, 0, rfl, ⟨Nat.le_refl _, by omega⟩, by omega, HOK.out⟩⟩, HBR.out⟩
end Go.Proofs.YtnlcdfaojcnkpaaDoor

namespace Go.Proofs.YtnlcdfaojcnkpaaDoor
open Go.ChangeShapes Go.WideShapes Go.ChangeAt Go.RowKit Go.PlainAid
set_option linter.unusedVariables false

set_option maxHeartbeats 1000000 in
theorem iKnowsItems_any (A L : Option Addr) (c d : Nat) (x : Cd) (P : Option Addr) (c1 : Nat) (xs : List Im) (w : World) (hr : CdAt w A L x) (hl : CdFits x) (hp : Ims w w.heap.size P xs) (hq : ImsFits xs) (ht : Tab w) :
    Calls Tryd.prog 82 #[x.val A c L d, .slice P xs.length c1] w fun e w' => e = .returned (kiV x xs) ∧ Below w.heap.size w w' := by
  obtain ⟨W, hW, hB⟩ := boxed 31 w A c L d x
  have HB := Lib.hid hB.below
  have HX := Lib.hid hB.at_
  have HR := Lib.hid (hr.below hB.below)
  have HP := Lib.hid (hp.next hB.below)
  have HT := Lib.hid (ht.next hB.below)
  have HL := Lib.hid hl
  have HQ := Lib.hid hq
  clear hr hl hp hq hB ht
  unfold boxCd at hW
  unfold Cd.val
  go_enter Tryd.func82, Tryd.ntmps82
  go_wp2_with fail
  rw [← hW]
  clear hW
  refine (iIsCode_any A L c d x W HR.out HL.out HT.out).mono ?_
  rintro e w1 ⟨he, hb1⟩
  have HB1 := Lib.hid hb1
  clear hb1
  by_cases hok : CdOk x
  rotate_left
  · rw [pB_no hok] at he
    subst he
    have HV := Lib.hid (kiV_no (fun q : PgAsk x xs => hok q.cd))
    clear hok
    go_wp2
    go_returns
    exact ⟨by rw [HV.out] <;> rfl, Below_next HB.out HB1.out⟩
  rw [pB_yes hok] at he
  subst he
  go_wp2_with fail
  refine (iAreItems_any P c1 xs w1 (HP.out.next HB1.out) HQ.out).mono ?_
  rintro e w2 ⟨he, hb2⟩
  have HB2 := Lib.hid (Below_next HB1.out hb2)
  clear hb2
  by_cases h2 : ListOk xs
  rotate_left
  · rw [pB_no h2] at he
    subst he
    have HV := Lib.hid (kiV_no (fun q : PgAsk x xs => h2 q.ls))
    clear hok h2
    go_wp2
    go_returns
    exact ⟨by rw [HV.out] <;> rfl, Below_next HB.out HB2.out⟩
  rw [pB_yes h2] at he
  subst he
  have HV := Lib.hid (kiV_yes (show PgAsk x xs from ⟨hok, h2⟩))
  have HK := Lib.hid h2
  clear hok h2
  obtain ⟨x0, x1, x2, x3, x4, x5⟩ := (HX.out.next HB2.out).box
  go_wp2_with fail
  clear x0 x1 x2 x3 x4 x5
  refine (hasKnownNames_any A L c d x P c1 xs w2 (HR.out.below HB2.out) HL.out (HP.out.next HB2.out) HK.out).mono ?_
  rintro e w3 ⟨rfl, hb3⟩
  have HB3 := Lib.hid (Below_next HB2.out hb3)
  clear hb3
  go_wp2
  go_returns
  exact ⟨by rw [HV.out]; rfl, Below_next HB.out HB3.out⟩

end Go.Proofs.YtnlcdfaojcnkpaaDoor

namespace Go.Proofs.YtnlcdfaojcnkpaaDoor
open Go.ChangeShapes Go.WideShapes Go.ChangeAt Go.RowKit Go.PlainAid
set_option linter.unusedVariables false

theorem basTo_set (x : Cd) (xs : List Im) (n : Nat) : basTo x xs n = setTo (basI x xs) n n := ints_ext (by rw [basTo_len, setTo_len]) (fun j hj => by
  rw [basTo_len] at hj
  rw [basTo_it x xs n j hj, setTo_it _ _ _ _ hj, if_pos hj])
set_option maxRecDepth 20000 in
set_option maxHeartbeats 4000000 in
theorem basesIn_any (A L : Option Addr) (c d : Nat) (x : Cd) (P : Option Addr) (c1 : Nat) (xs : List Im) (w : World) (hr : CdAt w A L x) (hl : CdFits x) (hp : Ims w w.heap.size P xs) (h : BsOk x xs) :
    Calls Tryd.prog 52 #[x.val A c L d, .slice P xs.length c1] w fun e w' => (∃ R d, e = .returned (.slice R (basTo x xs xs.length).length d) ∧ Owned (fun i => w.heap.size ≤ i ∧ i < w'.heap.size) w' R (basTo x xs xs.length)) ∧ Below w.heap.size w w' := by
  obtain ⟨W, hW, hB⟩ := boxed 31 w A c L d x
  have HB := Lib.hid hB.below
  have HX := Lib.hid hB.at_
  have HR := Lib.hid (hr.below hB.below)
  have HP := Lib.hid (hp.next hB.below)
  have HL := Lib.hid hl
  have HK := Lib.hid h
  have hrp := h.cd.rep
  have h14 := h.list.len
  have HSW := Lib.hid hB.size
  obtain ⟨i0, hi, hz0, hz1, hz2⟩ := info_parts Tryd.infoInt
  have HZ := Lib.hid (made_flat (α := Int) #[.int .i64 0] 0 xs.length rfl (by decide))
  clear hr hl hp hB h
  unfold boxCd at hW
  unfold Cd.val
  go_enter Tryd.func52, Tryd.ntmps52
  go_wp2_with (first | (at_make; rw [← hW]; refine wpList_make_full _ rfl (.tmp 10) (.tmp 10) 23 rfl W.heap.size 3 i0 (.int .i64 0) 1 Tryd.underlying23 hi hz0 hz1 .i64 .i64 _ _ xs.length rfl rfl rfl rfl (by rw [hz2]; omega) (by unfold maxLen; omega) (Nat.le_refl _) ?_; intro w2 hown hgrow))
  have HW := Lib.hid (show OwnAt w2 W.heap.size 0 (setTo (basI x xs) xs.length 0) from own_of_row (α := Int) (cap := xs.length) (e := 3) (base := W.heap.size) (List.replicate xs.length (0 : Int)) (by rw [← HZ.out, List.length_replicate]; exact hown))
  have hb2 : Below W.heap.size W w2 := (Below.refl _ _).grown hgrow (Nat.le_refl _) (fun k e => by cases e)
  have hs2 := (hown.lt W.heap.size rfl).2
  have HB2 := Lib.hid hb2
  clear hown hgrow hW hb2 hi hz0 hz1 hz2
  refine (repeatsIn_any P c1 xs w2 (HP.out.next HB2.out) HK.out.list).mono ?_
  rintro e w3 ⟨⟨R, d1, rfl, ho⟩, hb3⟩
  have HW3 := Lib.hid (HW.out.block (hb3.block _ hs2))
  have HRP := Lib.hid ho.lst
  have HRG := Lib.hid ho
  have HB3 := Lib.hid (Below_next HB2.out hb3)
  have hs3 : W.heap.size < w3.heap.size := Nat.lt_of_lt_of_le hs2 hb3.size
  clear hb3 ho HW
  rw [HSW.out] at HW3 hs3
  go_wp2_with fail
  go_loopw [15] (fun i wr => ∃ k : Nat, k ≤ xs.length ∧ i = .int .i64 k ∧ Hid (OwnAt wr (w.heap.size + 1) 0 (setTo (basI x xs) xs.length k)) ∧ Hid (Only (fun i => i = w.heap.size + 1) w3 wr)) (fun i _ => xs.length - (intOf i).toNat)
  case atStart => exact ⟨0, Nat.zero_le _, rfl, HW3, Lib.hid (Only.refl _ _)⟩
  case round =>
    obtain ⟨k, hk, rfl, HOK, HON⟩ := hrel
    have hlk := setTo_len (basI x xs) xs.length k
    have HBR := Lib.hid (HB3.out.trans (HON.out.below HB3.out.size (fun i e => by have := HSW.out; omega)))
    have hsr : w.heap.size + 1 < wr.heap.size := Nat.lt_of_lt_of_le hs3 HON.out.size
    by_cases hlt : k < xs.length
    · obtain ⟨b, o, rfl, hbl, hc⟩ := HP.out.out.im (by omega)
      obtain ⟨br, or, hRR, hSb, hbr, hOr⟩ := HRG.out (by rw [setTo_len]; omega)
      have hv0 := (hOr.int k (by rw [setTo_len]; omega)).1
      rw [setTo_it _ _ _ _ hlt, if_pos hlt] at hv0
      have hv : wr.cell? ⟨br, or + k, none⟩ = some (.int .i64 (rptI xs k : Int)) := (World.cell?_of_block (a := ⟨br, or + k, none⟩) (HON.out.block br hbr (fun e => by have := HSW.out; have := hSb.1; omega))).trans hv0
      have HG := Lib.hid (fun (w' : World) (h : Below wr.heap.size wr w') => show w'.cell? ⟨w.heap.size, 0, none⟩ = some (.slice A x.els.length c) ∧ w'.cell? ⟨w.heap.size, 1, none⟩ = some (.slice L x.lims.length d) ∧ w'.cell? ⟨w.heap.size, 2, none⟩ = some (.int .i64 x.rep) ∧ w'.cell? ⟨w.heap.size, 3, none⟩ = some (.int .i64 x.bon) ∧ w'.cell? ⟨w.heap.size, 4, none⟩ = some (.int .i64 x.kee) ∧ w'.cell? ⟨w.heap.size, 5, none⟩ = some (.int .i64 x.fal) ∧ w'.cell? ⟨b, o + k * 3, none⟩ = some (.slice (it xs k).A (it xs k).ns.length (it xs k).c) ∧ w'.cell? ⟨b, o + k * 3 + 1, none⟩ = some (.slice (it xs k).L (it xs k).ms.length (it xs k).d) ∧ w'.cell? ⟨b, o + k * 3 + 2, none⟩ = some (.bool (it xs k).late) from by
        obtain ⟨x0, x1, x2, x3, x4, x5⟩ := (HX.out.next (Below_next HBR.out h)).box
        obtain ⟨c0, c1', c2⟩ := (hc k hlt).below (Below_next HBR.out h) hbl
        exact ⟨x0, x1, x2, x3, x4, x5, c0, c1', c2⟩)
      have HD := Lib.hid (below_drew wr)
      have hf1 := fulI_le HK.out.cd (it xs k).ns (it xs k).ms (it xs k).late (HK.out.list.each k hlt).hi
      have hf0 := fulI_nonneg HK.out.cd (it xs k).ns (it xs k).ms (it xs k).late (fun j hj => HK.out.know k hlt j hj)
      have hrl : rptI xs k ≤ k := repI_le (it (it xs k).ns 0) xs k
      have HU := Lib.hid (show basI x xs k = if (rptI xs k : Int) < x.rep then fulI x (it xs k).ns (it xs k).ms (it xs k).late else if (rptI xs k : Int) = x.rep then fulI x (it xs k).ns (it xs k).ms (it xs k).late * 7 / 10 else 0 from rfl)
      subst hRR
      clear hc hv0 hOr hSb
      go_wp2_with fail
      clear hv
      go_region_held3 (fun w' => w'.cell? ⟨w.heap.size, 0, none⟩ = some (.slice A x.els.length c) ∧ w'.cell? ⟨w.heap.size, 1, none⟩ = some (.slice L x.lims.length d) ∧ w'.cell? ⟨w.heap.size, 2, none⟩ = some (.int .i64 x.rep) ∧ w'.cell? ⟨w.heap.size, 3, none⟩ = some (.int .i64 x.bon) ∧ w'.cell? ⟨w.heap.size, 4, none⟩ = some (.int .i64 x.kee) ∧ w'.cell? ⟨w.heap.size, 5, none⟩ = some (.int .i64 x.fal) ∧ w'.cell? ⟨b, o + k * 3, none⟩ = some (.slice (it xs k).A (it xs k).ns.length (it xs k).c) ∧ w'.cell? ⟨b, o + k * 3 + 1, none⟩ = some (.slice (it xs k).L (it xs k).ms.length (it xs k).d) ∧ w'.cell? ⟨b, o + k * 3 + 2, none⟩ = some (.bool (it xs k).late))
        (first | exact HG.out _ HD.out | exact HG.out _ HE.out)
        (first
          | (go_at_call 86; refine (fullBaseOf_any A L c d x (it xs k) _ (HR.out.below (Below_next HBR.out HD.out)) HL.out HK.out.cd ((HP.out.next (Below_next HBR.out HD.out)).each k hlt) (HK.out.list.each k hlt) (fun j hj => HK.out.know k hlt j hj)).mono ?_; rintro e w5 ⟨rfl, hb⟩; have HE := Lib.hid (Below_next HD.out hb); clear hb)
          )
      have HO5 := Lib.hid (HOK.out.block (HE.out.block _ hsr))
      obtain ⟨d0, f0⟩ := HO5.out.int0 k (by omega)
      obtain ⟨x0, x1, x2, x3, x4, x5⟩ := (HX.out.next (Below_next HBR.out HE.out)).box
      have HON5 := Lib.hid (HON.out.trans (Only.of_below HE.out (Nat.le_refl _)))
      have HON6 := Lib.hid (fun (u : Value) => HON5.out.setCell (p := ⟨w.heap.size + 1, k, none⟩) rfl u)
      by_cases e1 : (rptI xs k : Int) < x.rep
      · have HV := Lib.hid (HO5.out.putInt0 k (basI x xs k) (by omega))
        rw [HU.out, if_pos e1] at HV
        have HV2 := Lib.hid (show (setTo (basI x xs) xs.length k).set k (fulI x (it xs k).ns (it xs k).ms (it xs k).late) = setTo (basI x xs) xs.length (k + 1) from by rw [setTo, HU.out, if_pos e1])
        rw [HV2.out] at HV
        go_wp2
        go_roundw
        case rel => exact ⟨k + 1, by omega, by go_num, HV, Lib.hid (HON6.out _)⟩
        case measure => simp [intOf]; omega
      by_cases e2 : (rptI xs k : Int) = x.rep
      · have HV := Lib.hid (HO5.out.putInt0 k (fulI x (it xs k).ns (it xs k).ms (it xs k).late * 7 / 10) (by omega))
        have HV2 := Lib.hid (show (setTo (basI x xs) xs.length k).set k (fulI x (it xs k).ns (it xs k).ms (it xs k).late * 7 / 10) = setTo (basI x xs) xs.length (k + 1) from by rw [setTo, HU.out, if_neg e1, if_pos e2])
        rw [HV2.out] at HV
        have m5 : (fulI x (it xs k).ns (it xs k).ms (it xs k).late * 7).tdiv 10 = fulI x (it xs k).ns (it xs k).ms (it xs k).late * 7 / 10 := Int.tdiv_eq_ediv_of_nonneg (by omega)
        have m6 : IntKind.i64.wrap (fulI x (it xs k).ns (it xs k).ms (it xs k).late * 7 / 10) = fulI x (it xs k).ns (it xs k).ms (it xs k).late * 7 / 10 := IntWalk.i64_in _ (by omega)
        have m7 : ((rptI xs k : Int) == x.rep) = true := by simp; exact e2
        go_wp2
        go_roundw
        case rel => exact ⟨k + 1, by omega, by go_num, HV, Lib.hid (HON6.out _)⟩
        case measure => simp [intOf]; omega
      · have HV := Lib.hid (show OwnAt _ (w.heap.size + 1) 0 (setTo (basI x xs) xs.length (k + 1)) from by
          rw [setTo_keep hlt (by rw [HU.out, if_neg e1, if_neg e2])]
          exact HO5.out)
        have m7 : ((rptI xs k : Int) == x.rep) = false := by simp; exact e2
        go_wp2
        go_roundw
        case rel => exact ⟨k + 1, by omega, by go_num, HV, HON5⟩
        case measure => simp [intOf]; omega
    · obtain rfl : k = xs.length := by omega
      have hsz := HB.out.size
      have HE0 := Lib.hid (basTo_set x xs xs.length)
      go_wp2
      go_ret
      rw [HE0.out, hlk]
      exact ⟨⟨_, _, rfl, fun _ => ⟨w.heap.size + 1, 0, rfl, ⟨by omega, hsr⟩, hsr, HOK.out⟩⟩, Below_next HB.out HBR.out⟩

set_option maxHeartbeats 1000000 in
theorem iBaseValues_any (A L : Option Addr) (c d : Nat) (x : Cd) (P : Option Addr) (c1 : Nat) (xs : List Im) (w : World) (hr : CdAt w A L x) (hl : CdFits x) (hp : Ims w w.heap.size P xs) (hq : ImsFits xs) (ht : Tab w) :
    Calls Tryd.prog 50 #[x.val A c L d, .slice P xs.length c1] w fun e w' => (∃ R d, e = .returned (.tuple #[.slice R (bvF x xs).length d, .bool (pB (BsOk x xs))]) ∧ Owned (fun i => w.heap.size ≤ i ∧ i < w'.heap.size) w' R (bvF x xs)) ∧ Below w.heap.size w w' := by
  obtain ⟨W, hW, hB⟩ := boxed 31 w A c L d x
  have HB := Lib.hid hB.below
  have HX := Lib.hid hB.at_
  have HR := Lib.hid (hr.below hB.below)
  have HP := Lib.hid (hp.next hB.below)
  have HT := Lib.hid (ht.next hB.below)
  have HL := Lib.hid hl
  have HQ := Lib.hid hq
  clear hr hl hp hq hB ht
  unfold boxCd at hW
  unfold Cd.val
  go_enter Tryd.func50, Tryd.ntmps50
  obtain ⟨x0, x1, x2, x3, x4, x5⟩ := HX.out.box
  rw [hW] at x0 x1 x2 x3 x4 x5
  go_wp2_with fail
  rw [← hW]
  clear hW x0 x1 x2 x3 x4 x5
  refine (iKnowsItems_any A L c d x P c1 xs W HR.out HL.out HP.out HQ.out HT.out).mono ?_
  rintro e w1 ⟨he, hb1⟩
  have HB1 := Lib.hid hb1
  clear hb1
  unfold kiV at he
  by_cases hok : BsOk x xs
  · rw [pB_yes hok] at he
    subst he
    have HK := Lib.hid hok
    clear hok
    obtain ⟨x0, x1, x2, x3, x4, x5⟩ := (HX.out.next HB1.out).box
    go_wp2_with fail
    clear x0 x1 x2 x3 x4 x5
    refine (basesIn_any A L c d x P c1 xs w1 (HR.out.below HB1.out) HL.out (HP.out.next HB1.out) HK.out).mono ?_
    rintro e w2 ⟨⟨R, d1, rfl, ho⟩, hb2⟩
    have HB2 := Lib.hid (Below_next HB1.out hb2)
    have hs := (Below_next HB.out HB1.out).size
    have HO := Lib.hid (ho.mono (T := fun i => w.heap.size ≤ i ∧ i < w2.heap.size) (fun i hi => ⟨by omega, hi.2⟩))
    clear hb2 ho
    go_wp2
    go_returns
    rw [pB_yes HK.out, bvF_yes HK.out]
    exact ⟨⟨R, d1, rfl, HO.out⟩, Below_next HB.out HB2.out⟩
  · rw [pB_no hok] at he
    subst he
    have HK := Lib.hid hok
    clear hok
    go_wp2
    go_returns
    rw [pB_no HK.out, bvF_no HK.out]
    exact ⟨⟨none, 0, rfl, Owned.nil _ _ _⟩, Below_next HB.out HB1.out⟩

end Go.Proofs.YtnlcdfaojcnkpaaDoor

namespace Go.Proofs.YtnlcdfaojcnkpaaDoor
open Go.ChangeShapes Go.WideShapes Go.ChangeAt Go.RowKit Go.PlainAid
set_option linter.unusedVariables false

/-- Two copies of an item in blocks of their own. -/
structure Twins (w1 wx : World) (bl be : Nat) (y : Im) : Prop where
  ne : bl ≠ be
  lo1 : w1.heap.size ≤ bl
  lo2 : w1.heap.size ≤ be
  l : ImBox wx bl y
  e : ImBox wx be y
  fl : wx.frozen? ⟨bl, 2, none⟩ = false
  fe : wx.frozen? ⟨be, 2, none⟩ = false
  below : Below w1.heap.size w1 wx
theorem Twins.flags {w1 wx : World} {bl be : Nat} {y : Im} (h : Twins w1 wx bl be y) : wx.cell? ⟨bl, 2, none⟩ = some (.bool y.late) ∧ wx.cell? ⟨be, 2, none⟩ = some (.bool y.late) ∧ wx.frozen? ⟨bl, 2, none⟩ = false ∧ wx.frozen? ⟨be, 2, none⟩ = false := ⟨h.l.c2, h.e.c2, h.fl, h.fe⟩
theorem twins_12 (w : World) (t : TypeId) (y : Im) : Twins w ((w.alloc (.cells #[.slice y.A y.ns.length y.c, .slice y.L y.ms.length y.d, .bool y.late] t)).alloc (.cells #[.slice y.A y.ns.length y.c, .slice y.L y.ms.length y.d, .bool y.late] t)).drew w.heap.size (w.heap.size + 1) y := by
  constructor
  · omega
  · omega
  · omega
  · constructor <;> (first | (simp; done) | (simp; omega))
  · constructor <;> (first | (simp; done) | (simp; omega))
  · simp
  · simp
  · exact below_next (below_next (below_alloc _ _) (below_alloc _ _)) (below_drew _)
theorem twins_21 (w : World) (t : TypeId) (y : Im) : Twins w ((w.alloc (.cells #[.slice y.A y.ns.length y.c, .slice y.L y.ms.length y.d, .bool y.late] t)).alloc (.cells #[.slice y.A y.ns.length y.c, .slice y.L y.ms.length y.d, .bool y.late] t)).drew (w.heap.size + 1) w.heap.size y := by
  constructor
  · omega
  · omega
  · omega
  · constructor <;> (first | (simp; done) | (simp; omega))
  · constructor <;> (first | (simp; done) | (simp; omega))
  · simp
  · simp
  · exact below_next (below_next (below_alloc _ _) (below_alloc _ _)) (below_drew _)
def lateI (y : Im) (b : Bool) : Im := ⟨y.A, y.c, y.L, y.d, y.ns, y.ms, b⟩
theorem Twins.flagged {w1 wx : World} {bl be : Nat} {y : Im} (h : Twins w1 wx bl be y) : ImBox ((wx.setCell ⟨bl, 2, none⟩ (.bool true)).setCell ⟨be, 2, none⟩ (.bool false)) bl (lateI y true) ∧ ImBox ((wx.setCell ⟨bl, 2, none⟩ (.bool true)).setCell ⟨be, 2, none⟩ (.bool false)) be (lateI y false) ∧ Below w1.heap.size w1 ((wx.setCell ⟨bl, 2, none⟩ (.bool true)).setCell ⟨be, 2, none⟩ (.bool false)) := by
  have hne := h.ne
  have hne2 : be ≠ bl := fun q => hne q.symm
  have a0 := h.l.c0
  have a1 := h.l.c1
  have a2 := h.l.c2
  have b0 := h.e.c0
  have b1 := h.e.c1
  have b2 := h.e.c2
  refine ⟨⟨?_, ?_, ?_, ?_⟩, ⟨?_, ?_, ?_, ?_⟩, ?_⟩
  · simp [World.setCell]; exact h.l.lt
  · unfold lateI; go_simp
  · unfold lateI; go_simp
  · unfold lateI; go_simp
  · simp [World.setCell]; exact h.e.lt
  · unfold lateI; go_simp
  · unfold lateI; go_simp
  · unfold lateI; go_simp
  · exact (h.below.setCell h.lo1 _).setCell h.lo2 _
end Go.Proofs.YtnlcdfaojcnkpaaDoor
