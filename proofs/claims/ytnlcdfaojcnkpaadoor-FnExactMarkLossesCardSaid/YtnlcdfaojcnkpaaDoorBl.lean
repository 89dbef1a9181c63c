/- The bases of all items, and the answers of the model about places of a list. ElementWorth and KnowsItems in the model. ProgrammeBase in the model. The family and the full base of an item alone, and what it gains by being late, in the model. -/
import Derived.Test.YtnlcdfaojcnkpaaDoorBk
import Derived.Test.YtnlcdfaojcnkpaaDoorPgB
import Derived.Test.YtnlcdfaojcnkpaaDoorBd
import Derived.Deep.RegionHeld3
import Derived.Deep.QuietTactic
import Derived.BigQuiet
namespace Go.Proofs.YtnlcdfaojcnkpaaDoor
open Go.ChangeShapes Go.WideShapes Go.ChangeAt Go.RowKit Go.PlainAid
set_option linter.unusedVariables false

set_option maxHeartbeats 1000000 in
theorem bsAll_any (A L : Option Addr) (c d : Nat) (x : Cd) (P : Option Addr) (c1 : Nat) (xs : List Im) (w : World) (hr : CdAt w A L x) (hp : Ims w w.heap.size P xs) (hk : BsOk x xs) (hcp : xs.length ≤ c1 ∧ c1 ≤ 9223372036854775807) :
    Calls Tryd.prog 48 #[x.val A c L d, .slice P xs.length c1] w fun e w' => (∃ R d, e = .returned (.slice R (basTo x xs xs.length).length d) ∧ Owned (fun i => w.heap.size ≤ i ∧ i < w'.heap.size) w' R (basTo x xs xs.length)) ∧ Below w.heap.size w w' := by
  have HCP := Lib.hid hcp
  clear hcp
  obtain ⟨i0, hi, hz0, hz1, hz2⟩ := info_parts Tryd.infoInt
  have HZ := Lib.hid (And.intro hi (And.intro hz0 (And.intro hz1 hz2)))
  obtain ⟨W, hW, hB⟩ := boxed 31 w A c L d x
  have HB := Lib.hid hB.below
  have HX := Lib.hid hB.at_
  have HR := Lib.hid (hr.below hB.below)
  have HP := Lib.hid (hp.next hB.below)
  have HK := Lib.hid hk
  have h14 := hk.list.len
  clear hr hp hB hk hi hz0 hz1 hz2
  unfold boxCd at hW
  unfold Cd.val
  go_enter Tryd.func48, Tryd.ntmps48
  go_wp2_with fail
  rw [← hW]
  clear hW
  go_loopw [5, 9] (fun v i wr => ∃ k : Nat, k ≤ xs.length ∧ i = .int .i64 k ∧ Hid (Below W.heap.size W wr) ∧ Hid (wr.ownsRow W.heap.size 3 1 v (basTo x xs k).length ((basTo x xs k).map (Value.int .i64)))) (fun _ i _ => xs.length - (intOf i).toNat)
  case atStart => exact ⟨0, Nat.zero_le _, rfl, Lib.hid (Below.refl _ _), Lib.hid ⟨rfl, .inl ⟨rfl, rfl⟩⟩⟩
  case round =>
    obtain ⟨k, hk, rfl, HBR, HO⟩ := hrel
    by_cases hlt : k < xs.length
    · obtain ⟨x0, x1, x2, x3, x4, x5⟩ := (HX.out.next HBR.out).box
      have hle := basTo_len x xs k
      have HC := Lib.hid (bsItem_any A L c d x P c1 xs k wr (HR.out.below HBR.out) (HP.out.next HBR.out) HK.out hlt HCP.out)
      go_wp2_with fail
      clear x0 x1 x2 x3 x4 x5
      refine HC.out.mono ?_
      rintro e w2 ⟨rfl, hb2⟩
      have HB2 := Lib.hid (Below_next HBR.out hb2)
      have HOW := Lib.hid (own_next HO.out hb2)
      have hbs := HB2.out.size
      clear hb2 HC
      go_wp2_with (at_builtin; refine wpList_append_src _ rfl (.tmp 12) (.tmp 17) 23 rfl W.heap.size 3 i0 (.int .i64 0) 8 Tryd.underlying23 HZ.out.1 HZ.out.2.1 HZ.out.2.2.1 HZ.out.2.2.2 rfl _ (basTo x xs k).length ((basTo x xs k).map (Value.int .i64)) rfl (HOW.out.alloc _) (some ⟨w2.heap.size, 0, none⟩) 1 1 ([basI x xs k].map (Value.int .i64)) rfl rfl (fun _ => ⟨_, rfl, int_news (by simp)⟩) (int_ones _) (by unfold maxLen; omega) (by omega) (by simp; omega) ?_; intro v1 w4 hown hgrow hat)
      have hb4 : Below W.heap.size W w4 := Below.grown (below_next HB2.out (below_alloc _ _)) hgrow (by simp; omega) (fun m e => (HOW.out.lt m e).1)
      have HB4 := Lib.hid hb4
      have HOWN := Lib.hid (show w4.ownsRow W.heap.size 3 1 v1 (basTo x xs (k + 1)).length ((basTo x xs (k + 1)).map (Value.int .i64)) from by
        rw [basTo, List.length_append, List.map_append]
        exact hown)
      clear hown hgrow hat hb4
      go_wp2
      go_roundw
      case rel => exact ⟨k + 1, by omega, by go_num, HB4, HOWN⟩
      case measure => simp [intOf]; omega
    · obtain rfl : k = xs.length := by omega
      obtain ⟨R, d1, rfl, ho⟩ := own_formI _ HO.out
      have hs := HB.out.size
      have HOO := Lib.hid (ho.mono (T := fun i => w.heap.size ≤ i ∧ i < wr.heap.size) (fun i hi => ⟨by omega, hi.2⟩))
      clear ho
      go_wp2
      go_returns
      exact ⟨⟨R, d1, rfl, HOO.out⟩, Below_next HB.out HBR.out⟩
end Go.Proofs.YtnlcdfaojcnkpaaDoor

namespace Go.Proofs.YtnlcdfaojcnkpaaDoor
open Go.ChangeShapes Go.WideShapes Go.ChangeAt Go.RowKit Go.PlainAid
set_option linter.unusedVariables false

theorem ewV_form (x : Cd) (n : ByteArray) (m : Int) : ∃ (a : Int) (b : Bool), ewV x n m = .tuple #[.int .i64 a, .bool b] := ansV_form _ _
end Go.Proofs.YtnlcdfaojcnkpaaDoor

namespace Go.Proofs.YtnlcdfaojcnkpaaDoor
open Go.ChangeShapes Go.WideShapes Go.ChangeAt Go.RowKit Go.PlainAid
set_option linter.unusedVariables false

theorem basTo_it (x : Cd) (xs : List Im) : ∀ n k, k < n → it (basTo x xs n) k = basI x xs k
  | n + 1, k, hk => by
    unfold it
    rw [basTo]
    rcases Nat.lt_or_ge k n with h | h
    · rw [List.getD_eq_getElem?_getD, List.getElem?_append_left (by rw [basTo_len]; exact h), ← List.getD_eq_getElem?_getD]
      exact basTo_it x xs n k h
    · obtain rfl : k = n := by omega
      rw [List.getD_eq_getElem?_getD, List.getElem?_append_right (by rw [basTo_len]; exact Nat.le_refl _), basTo_len]
      simp
theorem sumB_le {x : Cd} {xs : List Im} (h : BsOk x xs) : ∀ k : Nat, k ≤ xs.length → -(4 * (k : Int)) ≤ sumB (basTo x xs xs.length) k ∧ sumB (basTo x xs xs.length) k ≤ 7201 * (k : Int)
  | 0, _ => by simp [sumB]
  | k + 1, hk => by
    have h1 := sumB_le h k (by omega)
    have h2 := basI_le h (show k < xs.length by omega)
    rw [sumB, basTo_it x xs xs.length k (by omega)]
    omega
end Go.Proofs.YtnlcdfaojcnkpaaDoor

namespace Go.Proofs.YtnlcdfaojcnkpaaDoor
open Go.ChangeShapes Go.WideShapes Go.ChangeAt Go.RowKit Go.PlainAid
set_option linter.unusedVariables false

/-- A list of one item, laid in a block of its own. -/
theorem ims_one {w : World} {b : Nat} {y : Im} (h : ImIn w w.heap.size y) (hb : ImBox w b y) : Ims w w.heap.size (some ⟨b, 0, none⟩) [y] := ⟨fun _ => ⟨b, 0, rfl, hb.lt, fun i hi => by
    obtain rfl : i = 0 := by
      have : i < 1 := hi
      omega
    intro j v hj
    match j, hj with
    | 0, hj => rw [show v = .slice y.A y.ns.length y.c from (Option.some.inj hj).symm]; exact hb.c0
    | 1, hj => rw [show v = .slice y.L y.ms.length y.d from (Option.some.inj hj).symm]; exact hb.c1
    | 2, hj => rw [show v = .bool y.late from (Option.some.inj hj).symm]; exact hb.c2⟩, fun i hi => by
  obtain rfl : i = 0 := by
    have : i < 1 := hi
    omega
  exact h⟩
theorem fits_one {y : Im} (h : ItFits y) : ImsFits [y] := ⟨by simp, fun i hi => by
  obtain rfl : i = 0 := by
    have : i < 1 := hi
    omega
  exact h⟩
theorem bsOk_one {x : Cd} {y : Im} (h : BsOk x [y]) : ItOk y.ns y.ms ∧ ∀ j, j < y.ns.length → Known x (it y.ns j) := ⟨h.list.each 0 (by simp), fun j hj => h.know 0 (by simp) j hj⟩

end Go.Proofs.YtnlcdfaojcnkpaaDoor
