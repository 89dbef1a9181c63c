/- The bases of all items, and the answers of the model about places of a list. ElementWorth and KnowsItems in the model. ProgrammeBase in the model. The family and the full base of an item alone, and what it gains by being late, in the model. -/
import Derived.Test.YtejchpieokaplaaDoorBk
import Derived.Test.YtejchpieokaplaaDoorPgB
import Derived.Test.YtejchpieokaplaaDoorBd
import Derived.Deep.RegionHeld3
import Derived.Deep.QuietTactic
import Derived.BigQuiet
namespace Go.Proofs.YtejchpieokaplaaDoor
open Go.ChangeShapes Go.WideShapes Go.ChangeAt Go.RowKit Go.PlainAid
set_option linter.unusedVariables false

set_option maxHeartbeats 1000000 in
theorem bsAll_any (A L : Option Addr) (c d : Nat) (x : Cd) (P : Option Addr) (c1 : Nat) (xs : List Im) (w : World) (hr : CdAt w A L x) (hp : Ims w w.heap.size P xs) (hk : BsOk x xs) (hcp : xs.length ≤ c1 ∧ c1 ≤ 9223372036854775807) :
    Calls Tryd.prog 83 #[x.val A c L d, .slice P xs.length c1] w fun e w' => (∃ R d, e = .returned (.slice R (basTo x xs xs.length).length d) ∧ Owned (fun i => w.heap.size ≤ i ∧ i < w'.heap.size) w' R (basTo x xs xs.length)) ∧ Below w.heap.size w w' := by
  have HCP := Lib.hid hcp
  clear hcp
  obtain ⟨i0, hi, hz0, hz1, hz2⟩ := info_parts Tryd.infoInt
  have HZ := Lib.hid (And.intro hi (And.intro hz0 (And.intro hz1 hz2)))
  obtain ⟨W, hW, hB⟩ := boxed 31 w A c L d x
  have HB := Lib.hid hB.below
  have HX := Lib.hid hB.at_
  have HR := Lib.hid (hr.below hB.below)
  have HP := Lib.hid (hp.next hB.below)
  have HK := Lib.hid hk
  have h14 := hk.list.len
  clear hr hp hB hk hi hz0 hz1 hz2
  unfold boxCd at hW
  unfold Cd.val
  go_enter Tryd.func83, Tryd.ntmps83
  go_wp2_with fail
  rw [← hW]
  clear hW
  go_loopw [5, 9] (fun v i wr => ∃ k : Nat, k ≤ xs.length ∧ i = .int .i64 k ∧ Hid (Below W.heap.size W wr) ∧ Hid (wr.ownsRow W.heap.size 3 1 v (basTo x xs k).length ((basTo x xs k).map (Value.int .i64)))) (fun _ i _ => xs.length - (intOf i).toNat)
  case atStart => exact ⟨0, Nat.zero_le _, rfl, Lib.hid (Below.refl _ _), Lib.hid ⟨rfl, .inl ⟨rfl, rfl⟩⟩⟩
  case round =>
    obtain ⟨k, hk, rfl, HBR, HO⟩ := hrel
    by_cases hlt : k < xs.length
    · obtain ⟨x0, x1, x2, x3, x4, x5⟩ := (HX.out.next HBR.out).box
      have hle := basTo_len x xs k
      have HC := Lib.hid (bsItem_any A L c d x P c1 xs k wr (HR.out.below HBR.out) (HP.out.next HBR.out) HK.out hlt HCP.out)
      go_wp2_with fail
      clear x0 x1 x2 x3 x4 x5
      refine HC.out.mono ?_
      rintro e w2 ⟨rfl, hb2⟩
      have HB2 := Lib.hid (Below_next HBR.out hb2)
      have HOW := Lib.hid (own_next HO.out hb2)
      have hbs := HB2.out.size
      clear hb2 HC
      go_wp2_with (at_builtin; refine wpList_append_src _ rfl (.tmp 12) (.tmp 17) 23 rfl W.heap.size 3 i0 (.int .i64 0) 8 Tryd.underlying23 HZ.out.1 HZ.out.2.1 HZ.out.2.2.1 HZ.out.2.2.2 rfl _ (basTo x xs k).length ((basTo x xs k).map (Value.int .i64)) rfl (HOW.out.alloc _) (some ⟨w2.heap.size, 0, none⟩) 1 1 ([basI x xs k].map (Value.int .i64)) rfl rfl (fun _ => ⟨_, rfl, int_news (by simp)⟩) (int_ones _) (by unfold maxLen; omega) (by omega) (by simp; omega) ?_; intro v1 w4 hown hgrow hat)
      have hb4 : Below W.heap.size W w4 := Below.grown (below_next HB2.out (below_alloc _ _)) hgrow (by simp; omega) (fun m e => (HOW.out.lt m e).1)
      have HB4 := Lib.hid hb4
      have HOWN := Lib.hid (show w4.ownsRow W.heap.size 3 1 v1 (basTo x xs (k + 1)).length ((basTo x xs (k + 1)).map (Value.int .i64)) from by
        rw [basTo, List.length_append, List.map_append]
        exact hown)
      clear hown hgrow hat hb4
      go_wp2
      go_roundw
      case rel => exact ⟨k + 1, by omega, by go_num, HB4, HOWN⟩
      case measure => simp [intOf]; omega
    · obtain rfl : k = xs.length := by omega
      obtain ⟨R, d1, rfl, ho⟩ := own_formI _ HO.out
      have hs := HB.out.size
      have HOO := Lib.hid (ho.mono (T := fun i => w.heap.size ≤ i ∧ i < wr.heap.size) (fun i hi => ⟨by omega, hi.2⟩))
      clear ho
      go_wp2
      go_returns
      exact ⟨⟨R, d1, rfl, HOO.out⟩, Below_next HB.out HBR.out⟩
set_option maxHeartbeats 1000000 in
theorem sBaseValues_any (A L : Option Addr) (c d : Nat) (x : Cd) (P : Option Addr) (c1 : Nat) (xs : List Im) (w : World) (hr : CdAt w A L x) (hl : CdFits x) (hp : Ims w w.heap.size P xs) (hq : ImsFits xs) (hcp : xs.length ≤ c1 ∧ c1 ≤ 9223372036854775807) :
    Calls Tryd.prog 36 #[x.val A c L d, .slice P xs.length c1] w fun e w' => (∃ R d, e = .returned (.tuple #[.slice R (bvF x xs).length d, .bool (pB (BsOk x xs))]) ∧ Owned (fun i => w.heap.size ≤ i ∧ i < w'.heap.size) w' R (bvF x xs)) ∧ Below w.heap.size w w' := by
  have HCP := Lib.hid hcp
  clear hcp
  obtain ⟨W, hW, hB⟩ := boxed 31 w A c L d x
  have HB := Lib.hid hB.below
  have HX := Lib.hid hB.at_
  have HR := Lib.hid (hr.below hB.below)
  have HP := Lib.hid (hp.next hB.below)
  have HL := Lib.hid hl
  have HQ := Lib.hid hq
  clear hr hl hp hq hB
  unfold boxCd at hW
  unfold Cd.val
  go_enter Tryd.func36, Tryd.ntmps36
  obtain ⟨x0, x1, x2, x3, x4, x5⟩ := HX.out.box
  rw [hW] at x0 x1 x2 x3 x4 x5
  go_wp2_with fail
  rw [← hW]
  clear hW x0 x1 x2 x3 x4 x5
  refine (bsGood_any A L c d x P c1 xs W HR.out HL.out HP.out HQ.out).mono ?_
  rintro e w1 ⟨he, hb1⟩
  have HB1 := Lib.hid hb1
  clear hb1
  by_cases hok : BsOk x xs
  · rw [pB_yes hok] at he
    subst he
    have HK := Lib.hid hok
    clear hok
    obtain ⟨x0, x1, x2, x3, x4, x5⟩ := (HX.out.next HB1.out).box
    go_wp2_with fail
    clear x0 x1 x2 x3 x4 x5
    refine (bsAll_any A L c d x P c1 xs w1 (HR.out.below HB1.out) (HP.out.next HB1.out) HK.out HCP.out).mono ?_
    rintro e w2 ⟨⟨R, d1, rfl, ho⟩, hb2⟩
    have HB2 := Lib.hid (Below_next HB1.out hb2)
    have hs := (Below_next HB.out HB1.out).size
    have HO := Lib.hid (ho.mono (T := fun i => w.heap.size ≤ i ∧ i < w2.heap.size) (fun i hi => ⟨by omega, hi.2⟩))
    clear hb2 ho
    go_wp2
    go_returns
    rw [pB_yes HK.out, bvF_yes HK.out]
    exact ⟨⟨R, d1, rfl, HO.out⟩, Below_next HB.out HB2.out⟩
  · rw [pB_no hok] at he
    subst he
    have HK := Lib.hid hok
    clear hok
    go_wp2
    go_returns
    rw [pB_no HK.out, bvF_no HK.out]
    exact ⟨⟨none, 0, rfl, Owned.nil _ _ _⟩, Below_next HB.out HB1.out⟩
set_option maxHeartbeats 1000000 in
theorem bsHas_any (A L : Option Addr) (c d : Nat) (x : Cd) (P : Option Addr) (c1 : Nat) (xs : List Im) (r : Int) (w : World) (hr : CdAt w A L x) (hl : CdFits x) (hp : Ims w w.heap.size P xs) (hq : ImsFits xs) :
    Calls Tryd.prog 77 #[x.val A c L d, .slice P xs.length c1, .int .i64 r] w fun e w' => e = .returned (.bool (pB (BsAt x xs r))) ∧ Below w.heap.size w w' := by
  obtain ⟨W, hW, hB⟩ := boxed 31 w A c L d x
  have HB := Lib.hid hB.below
  have HX := Lib.hid hB.at_
  have HR := Lib.hid (hr.below hB.below)
  have HP := Lib.hid (hp.next hB.below)
  have HL := Lib.hid hl
  have HQ := Lib.hid hq
  clear hr hl hp hq hB
  unfold boxCd at hW
  unfold Cd.val
  go_enter Tryd.func77, Tryd.ntmps77
  obtain ⟨x0, x1, x2, x3, x4, x5⟩ := HX.out.box
  rw [hW] at x0 x1 x2 x3 x4 x5
  go_wp2_with fail
  rw [← hW]
  clear hW x0 x1 x2 x3 x4 x5
  refine (bsGood_any A L c d x P c1 xs W HR.out HL.out HP.out HQ.out).mono ?_
  rintro e w1 ⟨he, hb1⟩
  have HB1 := Lib.hid hb1
  clear hb1
  by_cases hok : BsOk x xs
  · rw [pB_yes hok] at he
    subst he
    have h14 := hok.list.len
    by_cases hin : 0 ≤ r ∧ r < xs.length
    · have HV := Lib.hid (pB_yes (show BsAt x xs r from ⟨hok, hin.1, hin.2⟩))
      have h1 : 0 ≤ r := hin.1
      have h2 : r ≤ (xs.length : Int) - 1 := by omega
      clear hok hin
      go_wp2_with (go_at_call 56; refine (l1In_yes _ _ _ _ (by omega) (by omega)).mono ?_; rintro e w2 ⟨rfl, rfl⟩)
      go_ret
      exact ⟨by rw [HV.out]; rfl, Below_next HB.out HB1.out⟩
    · have HV := Lib.hid (pB_no (fun q : BsAt x xs r => hin ⟨q.lo, q.hi⟩))
      have h1 : ¬ (0 ≤ r ∧ r ≤ (xs.length : Int) - 1) := by omega
      clear hok hin
      go_wp2_with (go_at_call 56; refine (l1In_no _ _ _ _ (by omega)).mono ?_; rintro e w2 ⟨rfl, rfl⟩)
      go_ret
      exact ⟨by rw [HV.out]; rfl, Below_next HB.out HB1.out⟩
  · rw [pB_no hok] at he
    subst he
    have HV := Lib.hid (pB_no (fun q : BsAt x xs r => hok q.ok))
    clear hok
    go_wp2
    go_ret
    exact ⟨by rw [HV.out]; rfl, Below_next HB.out HB1.out⟩
set_option maxHeartbeats 1000000 in
theorem sRepeatsOf_any (A L : Option Addr) (c d : Nat) (x : Cd) (P : Option Addr) (c1 : Nat) (xs : List Im) (r : Int) (w : World) (hr : CdAt w A L x) (hl : CdFits x) (hp : Ims w w.heap.size P xs) (hq : ImsFits xs) (hcp : xs.length ≤ c1 ∧ c1 ≤ 9223372036854775807) :
    Calls Tryd.prog 32 #[x.val A c L d, .slice P xs.length c1, .int .i64 r] w fun e w' => e = .returned (rpV x xs r) ∧ Below w.heap.size w w' := by
  have HCP := Lib.hid hcp
  clear hcp
  obtain ⟨W, hW, hB⟩ := boxed 31 w A c L d x
  have HB := Lib.hid hB.below
  have HX := Lib.hid hB.at_
  have HR := Lib.hid (hr.below hB.below)
  have HP := Lib.hid (hp.next hB.below)
  have HL := Lib.hid hl
  have HQ := Lib.hid hq
  clear hr hl hp hq hB
  unfold boxCd at hW
  unfold Cd.val
  go_enter Tryd.func32, Tryd.ntmps32
  obtain ⟨x0, x1, x2, x3, x4, x5⟩ := HX.out.box
  rw [hW] at x0 x1 x2 x3 x4 x5
  go_wp2_with fail
  rw [← hW]
  clear hW x0 x1 x2 x3 x4 x5
  refine (bsHas_any A L c d x P c1 xs r W HR.out HL.out HP.out HQ.out).mono ?_
  rintro e w1 ⟨he, hb1⟩
  have HB1 := Lib.hid hb1
  clear hb1
  by_cases hok : BsAt x xs r
  · rw [pB_yes hok] at he
    subst he
    have HV := Lib.hid (show rpV x xs r = _ from ansV_yes hok)
    have HK := Lib.hid hok
    obtain ⟨k, rfl⟩ : ∃ k : Nat, r = (k : Int) := ⟨r.toNat, by have := hok.lo; omega⟩
    have hkl : k < xs.length := by have := hok.hi; omega
    clear hok
    rw [Int.toNat_natCast] at HV
    obtain ⟨x0, x1, x2, x3, x4, x5⟩ := (HX.out.next HB1.out).box
    go_wp2_with fail
    clear x0 x1 x2 x3 x4 x5
    refine (bsRepeats_any P c1 xs k w1 (HP.out.next HB1.out) HK.out.ok.list hkl HCP.out).mono ?_
    rintro e w2 ⟨rfl, hb2⟩
    have HB2 := Lib.hid (Below_next HB1.out hb2)
    clear hb2
    go_wp2
    go_returns
    exact ⟨by rw [HV.out] <;> rfl, Below_next HB.out HB2.out⟩
  · rw [pB_no hok] at he
    subst he
    have HV := Lib.hid (show rpV x xs r = _ from ansV_no hok)
    clear hok
    go_wp2
    go_returns
    exact ⟨by rw [HV.out] <;> rfl, Below_next HB.out HB1.out⟩
set_option maxHeartbeats 1000000 in
theorem sItemBase_any (A L : Option Addr) (c d : Nat) (x : Cd) (P : Option Addr) (c1 : Nat) (xs : List Im) (r : Int) (w : World) (hr : CdAt w A L x) (hl : CdFits x) (hp : Ims w w.heap.size P xs) (hq : ImsFits xs) (hcp : xs.length ≤ c1 ∧ c1 ≤ 9223372036854775807) :
    Calls Tryd.prog 34 #[x.val A c L d, .slice P xs.length c1, .int .i64 r] w fun e w' => e = .returned (ibV x xs r) ∧ Below w.heap.size w w' := by
  have HCP := Lib.hid hcp
  clear hcp
  obtain ⟨W, hW, hB⟩ := boxed 31 w A c L d x
  have HB := Lib.hid hB.below
  have HX := Lib.hid hB.at_
  have HR := Lib.hid (hr.below hB.below)
  have HP := Lib.hid (hp.next hB.below)
  have HL := Lib.hid hl
  have HQ := Lib.hid hq
  clear hr hl hp hq hB
  unfold boxCd at hW
  unfold Cd.val
  go_enter Tryd.func34, Tryd.ntmps34
  obtain ⟨x0, x1, x2, x3, x4, x5⟩ := HX.out.box
  rw [hW] at x0 x1 x2 x3 x4 x5
  go_wp2_with fail
  rw [← hW]
  clear hW x0 x1 x2 x3 x4 x5
  refine (bsHas_any A L c d x P c1 xs r W HR.out HL.out HP.out HQ.out).mono ?_
  rintro e w1 ⟨he, hb1⟩
  have HB1 := Lib.hid hb1
  clear hb1
  by_cases hok : BsAt x xs r
  · rw [pB_yes hok] at he
    subst he
    have HV := Lib.hid (show ibV x xs r = _ from ansV_yes hok)
    have HK := Lib.hid hok
    obtain ⟨k, rfl⟩ : ∃ k : Nat, r = (k : Int) := ⟨r.toNat, by have := hok.lo; omega⟩
    have hkl : k < xs.length := by have := hok.hi; omega
    clear hok
    rw [Int.toNat_natCast] at HV
    obtain ⟨x0, x1, x2, x3, x4, x5⟩ := (HX.out.next HB1.out).box
    go_wp2_with fail
    clear x0 x1 x2 x3 x4 x5
    refine (bsItem_any A L c d x P c1 xs k w1 (HR.out.below HB1.out) (HP.out.next HB1.out) HK.out.ok hkl HCP.out).mono ?_
    rintro e w2 ⟨rfl, hb2⟩
    have HB2 := Lib.hid (Below_next HB1.out hb2)
    clear hb2
    go_wp2
    go_returns
    exact ⟨by rw [HV.out] <;> rfl, Below_next HB.out HB2.out⟩
  · rw [pB_no hok] at he
    subst he
    have HV := Lib.hid (show ibV x xs r = _ from ansV_no hok)
    clear hok
    go_wp2
    go_returns
    exact ⟨by rw [HV.out] <;> rfl, Below_next HB.out HB1.out⟩
end Go.Proofs.YtejchpieokaplaaDoor

namespace Go.Proofs.YtejchpieokaplaaDoor
open Go.ChangeShapes Go.WideShapes Go.ChangeAt Go.RowKit Go.PlainAid
set_option linter.unusedVariables false

theorem ewV_form (x : Cd) (n : ByteArray) (m : Int) : ∃ (a : Int) (b : Bool), ewV x n m = .tuple #[.int .i64 a, .bool b] := ansV_form _ _
set_option maxHeartbeats 1000000 in
theorem sElementWorth_any (A L : Option Addr) (c d : Nat) (x : Cd) (n : ByteArray) (m : Int) (w : World) (hr : CdAt w A L x) (hl : CdFits x) (hm : n.size ≤ 1048576) :
    Calls Tryd.prog 16 #[x.val A c L d, .string n, .int .i64 m] w fun e w' => e = .returned (ewV x n m) ∧ Below w.heap.size w w' := by
  obtain ⟨W, hW, hB⟩ := boxed 31 w A c L d x
  have HB := Lib.hid hB.below
  have HX := Lib.hid hB.at_
  have HR := Lib.hid (hr.below hB.below)
  have HL := Lib.hid hl
  clear hr hl hB
  unfold boxCd at hW
  unfold Cd.val
  go_enter Tryd.func16, Tryd.ntmps16
  obtain ⟨x0, x1, x2, x3, x4, x5⟩ := HX.out.box
  rw [hW] at x0 x1 x2 x3 x4 x5
  go_wp2_with fail
  rw [← hW]
  clear hW x0 x1 x2 x3 x4 x5
  refine (cdGood_any A L c d x W HR.out HL.out).mono ?_
  rintro e w1 ⟨he, hb1⟩
  have HB1 := Lib.hid hb1
  clear hb1
  by_cases hok : CdOk x
  rotate_left
  · rw [pB_no hok] at he
    subst he
    have HV := Lib.hid (show ewV x n m = _ from ansV_no (fun q => hok q.cd))
    clear hok
    go_wp2
    go_returns
    exact ⟨by rw [HV.out] <;> rfl, Below_next HB.out HB1.out⟩
  rw [pB_yes hok] at he
  subst he
  have HK := Lib.hid hok
  clear hok
  by_cases hin : 0 ≤ m ∧ m ≤ 3
  rotate_left
  · have HV := Lib.hid (show ewV x n m = _ from ansV_no (fun q => hin ⟨q.lo, q.hi⟩))
    go_wp2_with (go_at_call 56; refine (l1In_no _ _ _ _ hin).mono ?_; rintro e w2 ⟨rfl, rfl⟩)
    go_returns
    exact ⟨by rw [HV.out] <;> rfl, Below_next HB.out HB1.out⟩
  obtain ⟨h1, h2⟩ := hin
  obtain ⟨x0, x1, x2, x3, x4, x5⟩ := (HX.out.next HB1.out).box
  go_wp2_with (go_at_call 56; refine (l1In_yes _ _ _ _ h1 h2).mono ?_; rintro e w2 ⟨rfl, rfl⟩)
  clear x0 x1 x2 x3 x4 x5
  refine (bsWorth_any A L c d x n m _ (HR.out.below HB1.out) HK.out).mono ?_
  rintro e w2 ⟨rfl, hb2⟩
  have HB2 := Lib.hid (Below_next HB1.out hb2)
  clear hb2
  by_cases hn : Known x n
  · have hw := wrtI_known HK.out hn m
    have HV := Lib.hid (show ewV x n m = _ from ansV_yes ⟨HK.out, h1, h2, hn⟩)
    obtain ⟨x0, x1, x2, x3, x4, x5⟩ := (HX.out.next HB2.out).box
    go_wp2_with fail
    clear x0 x1 x2 x3 x4 x5
    refine (bsWorth_any A L c d x n m _ (HR.out.below HB2.out) HK.out).mono ?_
    rintro e w3 ⟨rfl, hb3⟩
    have HB3 := Lib.hid (Below_next HB2.out hb3)
    clear hb3
    go_wp2
    go_returns
    exact ⟨by rw [HV.out] <;> rfl, Below_next HB.out HB3.out⟩
  · have HV := Lib.hid (show ewV x n m = _ from ansV_no (fun q => hn q.know))
    have hw : wrtI x n m = -1 := wrtI_no hn
    rw [hw]
    go_wp2
    go_returns
    exact ⟨by rw [HV.out] <;> rfl, Below_next HB.out HB2.out⟩
set_option maxHeartbeats 1000000 in
theorem sKnowsItems_any (A L : Option Addr) (c d : Nat) (x : Cd) (P : Option Addr) (c1 : Nat) (xs : List Im) (w : World) (hr : CdAt w A L x) (hl : CdFits x) (hp : Ims w w.heap.size P xs) (hq : ImsFits xs) :
    Calls Tryd.prog 21 #[x.val A c L d, .slice P xs.length c1] w fun e w' => e = .returned (kiV x xs) ∧ Below w.heap.size w w' := by
  obtain ⟨W, hW, hB⟩ := boxed 31 w A c L d x
  have HB := Lib.hid hB.below
  have HX := Lib.hid hB.at_
  have HR := Lib.hid (hr.below hB.below)
  have HP := Lib.hid (hp.next hB.below)
  have HL := Lib.hid hl
  have HQ := Lib.hid hq
  clear hr hl hp hq hB
  unfold boxCd at hW
  unfold Cd.val
  go_enter Tryd.func21, Tryd.ntmps21
  obtain ⟨x0, x1, x2, x3, x4, x5⟩ := HX.out.box
  rw [hW] at x0 x1 x2 x3 x4 x5
  go_wp2_with fail
  rw [← hW]
  clear hW x0 x1 x2 x3 x4 x5
  refine (cdGood_any A L c d x W HR.out HL.out).mono ?_
  rintro e w1 ⟨he, hb1⟩
  have HB1 := Lib.hid hb1
  clear hb1
  by_cases hok : CdOk x
  rotate_left
  · rw [pB_no hok] at he
    subst he
    have HV := Lib.hid (kiV_no (fun q : PgAsk x xs => hok q.cd))
    clear hok
    go_wp2
    go_returns
    exact ⟨by rw [HV.out] <;> rfl, Below_next HB.out HB1.out⟩
  rw [pB_yes hok] at he
  subst he
  go_wp2_with fail
  refine (itList_any P c1 xs w1 (HP.out.next HB1.out) HQ.out).mono ?_
  rintro e w2 ⟨he, hb2⟩
  have HB2 := Lib.hid (Below_next HB1.out hb2)
  clear hb2
  by_cases h2 : ListOk xs
  rotate_left
  · rw [pB_no h2] at he
    subst he
    have HV := Lib.hid (kiV_no (fun q : PgAsk x xs => h2 q.ls))
    clear hok h2
    go_wp2
    go_returns
    exact ⟨by rw [HV.out] <;> rfl, Below_next HB.out HB2.out⟩
  rw [pB_yes h2] at he
  subst he
  have HV := Lib.hid (kiV_yes (show PgAsk x xs from ⟨hok, h2⟩))
  have HK := Lib.hid h2
  clear hok h2
  obtain ⟨x0, x1, x2, x3, x4, x5⟩ := (HX.out.next HB2.out).box
  go_wp2_with fail
  clear x0 x1 x2 x3 x4 x5
  refine (bsKnows_any A L c d x P c1 xs w2 (HR.out.below HB2.out) HL.out (HP.out.next HB2.out) HK.out).mono ?_
  rintro e w3 ⟨rfl, hb3⟩
  have HB3 := Lib.hid (Below_next HB2.out hb3)
  clear hb3
  go_wp2
  go_returns
  exact ⟨by rw [HV.out] <;> rfl, Below_next HB.out HB3.out⟩
end Go.Proofs.YtejchpieokaplaaDoor

namespace Go.Proofs.YtejchpieokaplaaDoor
open Go.ChangeShapes Go.WideShapes Go.ChangeAt Go.RowKit Go.PlainAid
set_option linter.unusedVariables false

theorem basTo_it (x : Cd) (xs : List Im) : ∀ n k, k < n → it (basTo x xs n) k = basI x xs k
  | n + 1, k, hk => by
    unfold it
    rw [basTo]
    rcases Nat.lt_or_ge k n with h | h
    · rw [List.getD_eq_getElem?_getD, List.getElem?_append_left (by rw [basTo_len]; exact h), ← List.getD_eq_getElem?_getD]
      exact basTo_it x xs n k h
    · obtain rfl : k = n := by omega
      rw [List.getD_eq_getElem?_getD, List.getElem?_append_right (by rw [basTo_len]; exact Nat.le_refl _), basTo_len]
      simp
theorem sumB_le {x : Cd} {xs : List Im} (h : BsOk x xs) : ∀ k : Nat, k ≤ xs.length → -(4 * (k : Int)) ≤ sumB (basTo x xs xs.length) k ∧ sumB (basTo x xs xs.length) k ≤ 7201 * (k : Int)
  | 0, _ => by simp [sumB]
  | k + 1, hk => by
    have h1 := sumB_le h k (by omega)
    have h2 := basI_le h (show k < xs.length by omega)
    rw [sumB, basTo_it x xs xs.length k (by omega)]
    omega
theorem bsSum_any (A : Option Addr) (c : Nat) (l : List Int) (w : World) (hr : Lst w w.heap.size A l) (hl : l.length ≤ 60) (hs : ∀ k, k ≤ l.length → -1000000 ≤ sumB l k ∧ sumB l k ≤ 1000000) :
    Calls Tryd.prog 86 #[.slice A l.length c] w fun e w' => e = .returned (.int .i64 (sumB l l.length)) ∧ w = w' := by
  have HR := Lib.hid hr
  have HS := Lib.hid hs
  have HN := Lib.hid (fun k => show sumB l (k + 1) = sumB l k + it l k from rfl)
  clear hr hs
  go_enter Tryd.func86, Tryd.ntmps86
  go_wp2
  go_loop [3, 5, 8] (fun s _ i => ∃ k : Nat, k ≤ l.length ∧ i = .int .i64 k ∧ s = .int .i64 (sumB l k)) (fun _ _ i => l.length - (intOf i).toNat)
  case atStart => exact ⟨0, Nat.zero_le _, rfl, rfl⟩
  case round =>
    obtain ⟨k, hk, rfl, rfl⟩ := hrel
    by_cases hlt : k < l.length
    · obtain ⟨b, o, rfl, hb, hc⟩ := HR.out.int (by omega)
      have h1 := HS.out k hk
      have h2 := HS.out (k + 1) (by omega)
      have h3 := HN.out k
      have hck := hc k hlt
      clear hc
      go_wp2
      go_round
      case rel => exact ⟨k + 1, by omega, by go_num, by rw [h3]⟩
      case measure => simp [intOf]; omega
    · obtain rfl : k = l.length := by omega
      go_wp2
      go_ret
      exact ⟨rfl, rfl⟩
set_option maxHeartbeats 1000000 in
theorem sProgrammeBase_any (A L : Option Addr) (c d : Nat) (x : Cd) (P : Option Addr) (c1 : Nat) (xs : List Im) (w : World) (hr : CdAt w A L x) (hl : CdFits x) (hp : Ims w w.heap.size P xs) (hq : ImsFits xs) (hcp : xs.length ≤ c1 ∧ c1 ≤ 9223372036854775807) :
    Calls Tryd.prog 43 #[x.val A c L d, .slice P xs.length c1] w fun e w' => e = .returned (pbV x xs) ∧ Below w.heap.size w w' := by
  have HCP := Lib.hid hcp
  clear hcp
  obtain ⟨W, hW, hB⟩ := boxed 31 w A c L d x
  have HB := Lib.hid hB.below
  have HX := Lib.hid hB.at_
  have HR := Lib.hid (hr.below hB.below)
  have HP := Lib.hid (hp.next hB.below)
  have HL := Lib.hid hl
  have HQ := Lib.hid hq
  clear hr hl hp hq hB
  unfold boxCd at hW
  unfold Cd.val
  go_enter Tryd.func43, Tryd.ntmps43
  obtain ⟨x0, x1, x2, x3, x4, x5⟩ := HX.out.box
  rw [hW] at x0 x1 x2 x3 x4 x5
  go_wp2_with fail
  rw [← hW]
  clear hW x0 x1 x2 x3 x4 x5
  refine (bsGood_any A L c d x P c1 xs W HR.out HL.out HP.out HQ.out).mono ?_
  rintro e w1 ⟨he, hb1⟩
  have HB1 := Lib.hid hb1
  clear hb1
  by_cases hok : BsOk x xs
  · rw [pB_yes hok] at he
    subst he
    have HK := Lib.hid hok
    have h14 := hok.list.len
    have HV := Lib.hid (show pbV x xs = _ from ansV_yes hok)
    clear hok
    obtain ⟨x0, x1, x2, x3, x4, x5⟩ := (HX.out.next HB1.out).box
    go_wp2_with fail
    clear x0 x1 x2 x3 x4 x5
    refine (bsAll_any A L c d x P c1 xs w1 (HR.out.below HB1.out) (HP.out.next HB1.out) HK.out HCP.out).mono ?_
    rintro e w2 ⟨⟨R, d1, rfl, ho⟩, hb2⟩
    have HB2 := Lib.hid (Below_next HB1.out hb2)
    have HO := Lib.hid ho.lst
    have HLE := Lib.hid (basTo_len x xs xs.length)
    clear hb2 ho
    go_wp2_with fail
    refine (bsSum_any R d1 (basTo x xs xs.length) w2 HO.out (by have := HLE.out; omega) (fun k hk => by have := HLE.out; have := sumB_le HK.out k (by omega); omega)).mono ?_
    rintro e w3 ⟨rfl, rfl⟩
    go_wp2
    go_returns
    have HV2 : pbV x xs = .tuple #[.int .i64 (sumB (basTo x xs xs.length) (basTo x xs xs.length).length), .bool true] := by rw [HV.out, HLE.out]
    exact ⟨by rw [HV2] <;> rfl, Below_next HB.out HB2.out⟩
  · rw [pB_no hok] at he
    subst he
    have HV := Lib.hid (show pbV x xs = _ from ansV_no hok)
    clear hok
    go_wp2
    go_returns
    exact ⟨by rw [HV.out] <;> rfl, Below_next HB.out HB1.out⟩
end Go.Proofs.YtejchpieokaplaaDoor

namespace Go.Proofs.YtejchpieokaplaaDoor
open Go.ChangeShapes Go.WideShapes Go.ChangeAt Go.RowKit Go.PlainAid
set_option linter.unusedVariables false

/-- A list of one item, laid in a block of its own. -/
theorem ims_one {w : World} {b : Nat} {y : Im} (h : ImIn w w.heap.size y) (hb : ImBox w b y) : Ims w w.heap.size (some ⟨b, 0, none⟩) [y] := ⟨fun _ => ⟨b, 0, rfl, hb.lt, fun i hi => by
    obtain rfl : i = 0 := by
      have : i < 1 := hi
      omega
    intro j v hj
    match j, hj with
    | 0, hj => rw [show v = .slice y.A y.ns.length y.c from (Option.some.inj hj).symm]; exact hb.c0
    | 1, hj => rw [show v = .slice y.L y.ms.length y.d from (Option.some.inj hj).symm]; exact hb.c1
    | 2, hj => rw [show v = .bool y.late from (Option.some.inj hj).symm]; exact hb.c2⟩, fun i hi => by
  obtain rfl : i = 0 := by
    have : i < 1 := hi
    omega
  exact h⟩
theorem fits_one {y : Im} (h : ItFits y) : ImsFits [y] := ⟨by simp, fun i hi => by
  obtain rfl : i = 0 := by
    have : i < 1 := hi
    omega
  exact h⟩
theorem bsOk_one {x : Cd} {y : Im} (h : BsOk x [y]) : ItOk y.ns y.ms ∧ ∀ j, j < y.ns.length → Known x (it y.ns j) := ⟨h.list.each 0 (by simp), fun j hj => h.know 0 (by simp) j hj⟩

set_option maxHeartbeats 1000000 in
theorem sFullBase_any (A L : Option Addr) (c d : Nat) (x : Cd) (y : Im) (w : World) (hr : CdAt w A L x) (hl : CdFits x) (hy : ImIn w w.heap.size y) (hz : ItFits y) :
    Calls Tryd.prog 30 #[x.val A c L d, y.val] w fun e w' => e = .returned (fbV x y) ∧ Below w.heap.size w w' := by
  obtain ⟨V, W, hV, hW, hb, hX, hY, hs⟩ := boxed2 31 48 w A c L d x y
  obtain ⟨U, hU, hI⟩ := boxedI 48 W y
  have HB := Lib.hid hb
  have HBU := Lib.hid hI.below
  have HBX := Lib.hid (show ImBox U (w.heap.size + 1 + 1) y from by
    have h := hI.box
    rw [hs] at h
    exact h)
  have HH := Lib.hid (fun (w' : World) (k : Below W.heap.size W w') => two_boxes hX hY k)
  have HR := Lib.hid (hr.below hb)
  have HI := Lib.hid (hy.next hb)
  have HL := Lib.hid hl
  have HZ := Lib.hid hz
  clear hr hl hy hz hb hX hY hs hI
  unfold boxCd at hV
  unfold boxIm at hW hU
  unfold Cd.val Im.val
  go_enter Tryd.func30, Tryd.ntmps30
  obtain ⟨x0, x1, x2, x3, x4, x5, y0, y1, y2⟩ := HH.out W (Below.refl _ _)
  rw [hW, hV] at x0 x1 x2 x3 x4 x5 y0 y1 y2
  go_wp2_with fail
  rw [← hV, ← hW, ← hU]
  clear hV hW hU x0 x1 x2 x3 x4 x5 y0 y1 y2
  refine (bsGood_any A L c d x (some ⟨w.heap.size + 1 + 1, 0, none⟩) 1 [y] U (HR.out.below HBU.out) HL.out (ims_one (HI.out.next HBU.out) HBX.out) (fits_one HZ.out)).mono ?_
  rintro e w1 ⟨he, hb1⟩
  have HB1 := Lib.hid (Below_next HBU.out hb1)
  clear hb1
  by_cases hok : BsOk x [y]
  rotate_left
  · rw [pB_no hok] at he
    subst he
    have HV := Lib.hid (show fbV x y = _ from ansV_no hok)
    clear hok
    go_wp2
    go_returns
    exact ⟨by rw [HV.out] <;> rfl, Below_next HB.out HB1.out⟩
  rw [pB_yes hok] at he
  subst he
  have HV := Lib.hid (show fbV x y = _ from ansV_yes hok)
  have HK := Lib.hid hok
  clear hok
  obtain ⟨x0, x1, x2, x3, x4, x5, y0, y1, y2⟩ := HH.out _ HB1.out
  go_wp2_with fail
  clear x0 x1 x2 x3 x4 x5 y0 y1 y2
  refine (bsFull_any A L c d x y _ (HR.out.below HB1.out) HK.out.cd (HI.out.next HB1.out) (bsOk_one HK.out).1).mono ?_
  rintro e w2 ⟨rfl, hb2⟩
  have HB2 := Lib.hid (Below_next HB1.out hb2)
  clear hb2
  go_wp2
  go_returns
  exact ⟨by rw [HV.out] <;> rfl, Below_next HB.out HB2.out⟩

set_option maxHeartbeats 1000000 in
theorem bsFamily_any (A L : Option Addr) (c d : Nat) (x : Cd) (y : Im) (w : World) (hr : CdAt w A L x) (hl : CdFits x) (hy : ImIn w w.heap.size y) (hp : 0 < y.ns.length) (hk : Known x (it y.ns 0)) :
    Calls Tryd.prog 71 #[x.val A c L d, y.val] w fun e w' => e = .returned (.int .i64 (famI x (it y.ns 0))) ∧ Below w.heap.size w w' := by
  obtain ⟨YA, yc, YL, yd, ns, ms, lt⟩ := y
  obtain ⟨V, W, hV, hW, hb, hX, hY, hs⟩ := boxed2 31 48 w A c L d x ⟨YA, yc, YL, yd, ns, ms, lt⟩
  obtain ⟨b, o, rfl, hbl, hn⟩ := str1 (show Lst w w.heap.size YA ns from hy.ns) hp
  rcases fndI_cases x.els (it ns 0) with h | ⟨m, h1, h2, h3⟩
  · unfold Known at hk
    have : fndI x.els (it ns 0) = -1 := h
    have h0 : 0 ≤ fndI x.els (it ns 0) := hk
    omega
  obtain ⟨be, oe, rfl, hel, hc⟩ := el1 hr.els m h2
  have HV := Lib.hid (famI_hit (x := x) (n := it ns 0) h1)
  have HB := Lib.hid hb
  have HG := Lib.hid (fun (w' : World) (h : Below W.heap.size W w') => show w'.cell? ⟨w.heap.size, 0, none⟩ = some (.slice (some ⟨be, oe, none⟩) x.els.length c) ∧ w'.cell? ⟨w.heap.size, 1, none⟩ = some (.slice L x.lims.length d) ∧ w'.cell? ⟨w.heap.size, 2, none⟩ = some (.int .i64 x.rep) ∧ w'.cell? ⟨w.heap.size, 3, none⟩ = some (.int .i64 x.bon) ∧ w'.cell? ⟨w.heap.size, 4, none⟩ = some (.int .i64 x.kee) ∧ w'.cell? ⟨w.heap.size, 5, none⟩ = some (.int .i64 x.fal) ∧ w'.cell? ⟨w.heap.size + 1, 0, none⟩ = some (.slice (some ⟨b, o, none⟩) ns.length yc) ∧ w'.cell? ⟨b, o, none⟩ = some (.string (it ns 0)) ∧ w'.cell? ⟨be, oe + m * 4 + 1, none⟩ = some (.int .i64 (it x.els m).fam) from by
    obtain ⟨x0, x1, x2, x3, x4, x5, y0, y1, y2⟩ := two_boxes hX hY h
    have hbw := Below_next hb h
    exact ⟨x0, x1, x2, x3, x4, x5, y0, (hbw.cell (p := ⟨b, o, none⟩) hbl).trans hn, (hbw.cell (p := ⟨be, oe + m * 4 + 1, none⟩) hel).trans hc.c1⟩)
  have HR := Lib.hid (hr.below hb)
  have HL := Lib.hid hl
  have HF := Lib.hid (fndI_first x.els (it ns 0))
  have HM := Lib.hid h1
  have hkl := hl.1.1
  have hp' : 0 < ns.length := hp
  clear hr hl hy hb hX hY hs hn hc h1 h3 hk hp
  unfold boxCd at hV
  unfold boxIm at hW
  dsimp only at hW
  unfold Cd.val Im.val
  dsimp only
  go_enter Tryd.func71, Tryd.ntmps71
  go_wp2_with fail
  rw [← hV, ← hW]
  clear hV hW
  have HD := Lib.hid (below_drew W)
  go_region_held3 (fun w' => w'.cell? ⟨w.heap.size, 0, none⟩ = some (.slice (some ⟨be, oe, none⟩) x.els.length c) ∧ w'.cell? ⟨w.heap.size, 1, none⟩ = some (.slice L x.lims.length d) ∧ w'.cell? ⟨w.heap.size, 2, none⟩ = some (.int .i64 x.rep) ∧ w'.cell? ⟨w.heap.size, 3, none⟩ = some (.int .i64 x.bon) ∧ w'.cell? ⟨w.heap.size, 4, none⟩ = some (.int .i64 x.kee) ∧ w'.cell? ⟨w.heap.size, 5, none⟩ = some (.int .i64 x.fal) ∧ w'.cell? ⟨w.heap.size + 1, 0, none⟩ = some (.slice (some ⟨b, o, none⟩) ns.length yc) ∧ w'.cell? ⟨b, o, none⟩ = some (.string (it ns 0)) ∧ w'.cell? ⟨be, oe + m * 4 + 1, none⟩ = some (.int .i64 (it x.els m).fam))
    (first | exact HG.out _ HD.out | exact HG.out _ HE.out)
    (first
      | (go_at_call 96; refine (cdFind_any (some ⟨be, oe, none⟩) L c d x (it ns 0) _ _ (HR.out.below HD.out) HL.out HF.out).mono ?_; rintro e w2 ⟨rfl, hb⟩; rw [HM.out]; have HE := Lib.hid (Below_next HD.out hb); clear hb)
      )
  go_wp2
  go_ret
  exact ⟨by rw [HV.out] <;> rfl, Below_next HB.out HE.out⟩

set_option maxHeartbeats 1000000 in
theorem sItemFamily_any (A L : Option Addr) (c d : Nat) (x : Cd) (y : Im) (w : World) (hr : CdAt w A L x) (hl : CdFits x) (hy : ImIn w w.heap.size y) (hz : ItFits y) :
    Calls Tryd.prog 26 #[x.val A c L d, y.val] w fun e w' => e = .returned (ifV x y) ∧ Below w.heap.size w w' := by
  obtain ⟨V, W, hV, hW, hb, hX, hY, hs⟩ := boxed2 31 48 w A c L d x y
  obtain ⟨U, hU, hI⟩ := boxedI 48 W y
  have HB := Lib.hid hb
  have HBU := Lib.hid hI.below
  have HBX := Lib.hid (show ImBox U (w.heap.size + 1 + 1) y from by
    have h := hI.box
    rw [hs] at h
    exact h)
  have HH := Lib.hid (fun (w' : World) (k : Below W.heap.size W w') => two_boxes hX hY k)
  have HR := Lib.hid (hr.below hb)
  have HI := Lib.hid (hy.next hb)
  have HL := Lib.hid hl
  have HZ := Lib.hid hz
  clear hr hl hy hz hb hX hY hs hI
  unfold boxCd at hV
  unfold boxIm at hW hU
  unfold Cd.val Im.val
  go_enter Tryd.func26, Tryd.ntmps26
  obtain ⟨x0, x1, x2, x3, x4, x5, y0, y1, y2⟩ := HH.out W (Below.refl _ _)
  rw [hW, hV] at x0 x1 x2 x3 x4 x5 y0 y1 y2
  go_wp2_with fail
  rw [← hV, ← hW, ← hU]
  clear hV hW hU x0 x1 x2 x3 x4 x5 y0 y1 y2
  refine (bsGood_any A L c d x (some ⟨w.heap.size + 1 + 1, 0, none⟩) 1 [y] U (HR.out.below HBU.out) HL.out (ims_one (HI.out.next HBU.out) HBX.out) (fits_one HZ.out)).mono ?_
  rintro e w1 ⟨he, hb1⟩
  have HB1 := Lib.hid (Below_next HBU.out hb1)
  clear hb1
  by_cases hok : BsOk x [y]
  rotate_left
  · rw [pB_no hok] at he
    subst he
    have HV := Lib.hid (show ifV x y = _ from ansV_no hok)
    clear hok
    go_wp2
    go_returns
    exact ⟨by rw [HV.out] <;> rfl, Below_next HB.out HB1.out⟩
  rw [pB_yes hok] at he
  subst he
  have HV := Lib.hid (show ifV x y = _ from ansV_yes hok)
  have HK := Lib.hid hok
  clear hok
  obtain ⟨x0, x1, x2, x3, x4, x5, y0, y1, y2⟩ := HH.out _ HB1.out
  go_wp2_with fail
  clear x0 x1 x2 x3 x4 x5 y0 y1 y2
  refine (bsFamily_any A L c d x y _ (HR.out.below HB1.out) HL.out (HI.out.next HB1.out) (bsOk_one HK.out).1.lo ((bsOk_one HK.out).2 0 (bsOk_one HK.out).1.lo)).mono ?_
  rintro e w2 ⟨rfl, hb2⟩
  have HB2 := Lib.hid (Below_next HB1.out hb2)
  clear hb2
  go_wp2
  go_returns
  exact ⟨by rw [HV.out] <;> rfl, Below_next HB.out HB2.out⟩

set_option maxRecDepth 20000 in
set_option maxHeartbeats 4000000 in
theorem sLateGain_any (A L : Option Addr) (c d : Nat) (x : Cd) (P : Option Addr) (c1 : Nat) (xs : List Im) (r : Int) (w : World) (hr : CdAt w A L x) (hl : CdFits x) (hp : Ims w w.heap.size P xs) (hq : ImsFits xs) :
    Calls Tryd.prog 47 #[x.val A c L d, .slice P xs.length c1, .int .i64 r] w fun e w' => e = .returned (lgV x xs r) ∧ Below w.heap.size w w' := by
  obtain ⟨W, hW, hB⟩ := boxed 31 w A c L d x
  have HB := Lib.hid hB.below
  have HX := Lib.hid hB.at_
  have HR := Lib.hid (hr.below hB.below)
  have HP := Lib.hid (hp.next hB.below)
  have HL := Lib.hid hl
  have HQ := Lib.hid hq
  clear hr hl hp hq hB
  unfold boxCd at hW
  unfold Cd.val
  go_enter Tryd.func47, Tryd.ntmps47
  obtain ⟨x0, x1, x2, x3, x4, x5⟩ := HX.out.box
  rw [hW] at x0 x1 x2 x3 x4 x5
  go_wp2_with fail
  rw [← hW]
  clear hW x0 x1 x2 x3 x4 x5
  refine (bsHas_any A L c d x P c1 xs r W HR.out HL.out HP.out HQ.out).mono ?_
  rintro e w1 ⟨he, hb1⟩
  have HB1 := Lib.hid hb1
  clear hb1
  by_cases hok : BsAt x xs r
  rotate_left
  · rw [pB_no hok] at he
    subst he
    have HV := Lib.hid (show lgV x xs r = _ from ansV_no hok)
    clear hok
    go_wp2
    go_returns
    exact ⟨by rw [HV.out] <;> rfl, Below_next HB.out HB1.out⟩
  rw [pB_yes hok] at he
  subst he
  have HV := Lib.hid (show lgV x xs r = _ from ansV_yes hok)
  have HK := Lib.hid hok
  obtain ⟨k, rfl⟩ : ∃ k : Nat, r = (k : Int) := ⟨r.toNat, by have := hok.lo; omega⟩
  have hkl : k < xs.length := by have := hok.hi; omega
  have h14 := hok.ok.list.len
  clear hok
  rw [Int.toNat_natCast] at HV
  obtain ⟨b, o, rfl, hbl, hc⟩ := HP.out.out.im (by omega)
  obtain ⟨c0, c1', c2⟩ := (hc k hkl).below HB1.out hbl
  have HC := Lib.hid hc
  clear hc
  go_upto_region 5 with fail
  clear c0 c1' c2
  generalize hw2 : World.alloc w1 _ = w2
  have hb2 : Below w1.heap.size w1 w2 := by
    rw [← hw2]
    exact below_alloc _ _
  have HL2 := Lib.hid (show ImBox w2 w1.heap.size ⟨(it xs k).A, (it xs k).c, (it xs k).L, (it xs k).d, (it xs k).ns, (it xs k).ms, true⟩ from by
    rw [← hw2]
    exact imBox_new w1 _ ⟨(it xs k).A, (it xs k).c, (it xs k).L, (it xs k).d, (it xs k).ns, (it xs k).ms, true⟩)
  have HB2 := Lib.hid (Below_next HB1.out hb2)
  clear hw2 hb2
  obtain ⟨c0, c1', c2⟩ := (HC.out k hkl).below HB2.out hbl
  go_wp2_with fail
  clear c0 c1' c2
  generalize hw3 : World.alloc w2 _ = w3
  have hb3 : Below w2.heap.size w2 w3 := by
    rw [← hw3]
    exact below_alloc _ _
  have HL3 := Lib.hid (show ImBox w3 w2.heap.size ⟨(it xs k).A, (it xs k).c, (it xs k).L, (it xs k).d, (it xs k).ns, (it xs k).ms, false⟩ from by
    rw [← hw3]
    exact imBox_new w2 _ ⟨(it xs k).A, (it xs k).c, (it xs k).L, (it xs k).d, (it xs k).ns, (it xs k).ms, false⟩)
  have HB3 := Lib.hid (Below_next HB2.out hb3)
  have HG := Lib.hid (fun (w' : World) (h : Below w3.heap.size w3 w') => show w'.cell? ⟨w.heap.size, 0, none⟩ = some (.slice A x.els.length c) ∧ w'.cell? ⟨w.heap.size, 1, none⟩ = some (.slice L x.lims.length d) ∧ w'.cell? ⟨w.heap.size, 2, none⟩ = some (.int .i64 x.rep) ∧ w'.cell? ⟨w.heap.size, 3, none⟩ = some (.int .i64 x.bon) ∧ w'.cell? ⟨w.heap.size, 4, none⟩ = some (.int .i64 x.kee) ∧ w'.cell? ⟨w.heap.size, 5, none⟩ = some (.int .i64 x.fal) ∧ w'.cell? ⟨w1.heap.size, 0, none⟩ = some (.slice (it xs k).A (it xs k).ns.length (it xs k).c) ∧ w'.cell? ⟨w1.heap.size, 1, none⟩ = some (.slice (it xs k).L (it xs k).ms.length (it xs k).d) ∧ w'.cell? ⟨w1.heap.size, 2, none⟩ = some (.bool true) ∧ w'.cell? ⟨w2.heap.size, 0, none⟩ = some (.slice (it xs k).A (it xs k).ns.length (it xs k).c) ∧ w'.cell? ⟨w2.heap.size, 1, none⟩ = some (.slice (it xs k).L (it xs k).ms.length (it xs k).d) ∧ w'.cell? ⟨w2.heap.size, 2, none⟩ = some (.bool false) from by
    obtain ⟨x0, x1, x2, x3, x4, x5⟩ := (HX.out.next (Below_next HB3.out h)).box
    obtain ⟨_, y0, y1, y2⟩ := HL2.out.next (below_next hb3 h)
    obtain ⟨_, z0, z1, z2⟩ := HL3.out.next h
    exact ⟨x0, x1, x2, x3, x4, x5, y0, y1, y2, z0, z1, z2⟩)
  have HD := Lib.hid (below_drew w3)
  have HI := Lib.hid (fun (w' : World) (lt : Bool) (h : Below W.heap.size W w') => show ImIn w' w'.heap.size ⟨(it xs k).A, (it xs k).c, (it xs k).L, (it xs k).d, (it xs k).ns, (it xs k).ms, lt⟩ from ⟨((HP.out.each k hkl).next h).ns, ((HP.out.each k hkl).next h).ms⟩)
  have hf1 := fulI_le HK.out.ok.cd (it xs k).ns (it xs k).ms true (HK.out.ok.list.each k hkl).hi
  have hf2 := fulI_le HK.out.ok.cd (it xs k).ns (it xs k).ms false (HK.out.ok.list.each k hkl).hi
  have m1 : IntKind.i64.wrap (fulI x (it xs k).ns (it xs k).ms true - fulI x (it xs k).ns (it xs k).ms false) = fulI x (it xs k).ns (it xs k).ms true - fulI x (it xs k).ns (it xs k).ms false := IntWalk.i64_in _ (by omega)
  clear hw3 hb3
  go_region_held3 (fun w' => w'.cell? ⟨w.heap.size, 0, none⟩ = some (.slice A x.els.length c) ∧ w'.cell? ⟨w.heap.size, 1, none⟩ = some (.slice L x.lims.length d) ∧ w'.cell? ⟨w.heap.size, 2, none⟩ = some (.int .i64 x.rep) ∧ w'.cell? ⟨w.heap.size, 3, none⟩ = some (.int .i64 x.bon) ∧ w'.cell? ⟨w.heap.size, 4, none⟩ = some (.int .i64 x.kee) ∧ w'.cell? ⟨w.heap.size, 5, none⟩ = some (.int .i64 x.fal) ∧ w'.cell? ⟨w1.heap.size, 0, none⟩ = some (.slice (it xs k).A (it xs k).ns.length (it xs k).c) ∧ w'.cell? ⟨w1.heap.size, 1, none⟩ = some (.slice (it xs k).L (it xs k).ms.length (it xs k).d) ∧ w'.cell? ⟨w1.heap.size, 2, none⟩ = some (.bool true) ∧ w'.cell? ⟨w2.heap.size, 0, none⟩ = some (.slice (it xs k).A (it xs k).ns.length (it xs k).c) ∧ w'.cell? ⟨w2.heap.size, 1, none⟩ = some (.slice (it xs k).L (it xs k).ms.length (it xs k).d) ∧ w'.cell? ⟨w2.heap.size, 2, none⟩ = some (.bool false))
    (first | exact HG.out _ HD.out | exact HG.out _ HE.out | exact HG.out _ HF.out)
    (first
      | (go_at_call 75; (with_reducible refine (bsFull_f A L c d x (it xs k).A (it xs k).c (it xs k).L (it xs k).d (it xs k).ns (it xs k).ms true _ (HR.out.below (Below_next HB3.out HD.out)) HK.out.ok.cd (HI.out _ true (Below_next HB3.out HD.out)) (HK.out.ok.list.each k hkl)).mono ?_); rintro e w4 ⟨rfl, hb⟩; have HE := Lib.hid (Below_next HD.out hb); clear hb)
      | (go_at_call 75; (with_reducible refine (bsFull_f A L c d x (it xs k).A (it xs k).c (it xs k).L (it xs k).d (it xs k).ns (it xs k).ms false _ (HR.out.below (Below_next HB3.out HE.out)) HK.out.ok.cd (HI.out _ false (Below_next HB3.out HE.out)) (HK.out.ok.list.each k hkl)).mono ?_); rintro e w5 ⟨rfl, hb⟩; have HF := Lib.hid (Below_next HE.out hb); clear hb)
      )
  go_wp2
  go_returns
  exact ⟨by rw [HV.out] <;> rfl, Below_next HB.out (Below_next HB3.out HF.out)⟩
end Go.Proofs.YtejchpieokaplaaDoor
