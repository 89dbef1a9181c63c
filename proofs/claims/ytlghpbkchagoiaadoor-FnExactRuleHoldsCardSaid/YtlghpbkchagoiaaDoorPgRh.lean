/- RuleHolds, in the model and in the program. -/
import Derived.Test.YtlghpbkchagoiaaDoorBh
namespace Go.Proofs.YtlghpbkchagoiaaDoor
open Go.ChangeShapes Go.WideShapes Go.ChangeAt Go.RowKit Go.PlainAid
set_option linter.unusedVariables false

/-- What RuleHolds answers. -/
structure RhAsk (x : Cd) (xs : List Im) (r : Int) : Prop where
  ask : PgAsk x xs
  lo : 1 ≤ r
  hi : r ≤ 8
noncomputable def rhV (x : Cd) (xs : List Im) (r : Int) : Value := @ite _ (RhAsk x xs r) (Classical.propDecidable _) (.tuple #[.bool (pB (RuleP x xs r.toNat)), .bool true]) (.tuple #[.bool false, .bool false])
theorem rhV_yes {x : Cd} {xs : List Im} {r : Int} (h : RhAsk x xs r) : rhV x xs r = .tuple #[.bool (pB (RuleP x xs r.toNat)), .bool true] := by unfold rhV; exact @if_pos _ (Classical.propDecidable _) h _ _ _
theorem rhV_no {x : Cd} {xs : List Im} {r : Int} (h : ¬ RhAsk x xs r) : rhV x xs r = .tuple #[.bool false, .bool false] := by unfold rhV; exact @if_neg _ (Classical.propDecidable _) h _ _ _
theorem rhV_form (x : Cd) (xs : List Im) (r : Int) : ∃ p q : Bool, rhV x xs r = .tuple #[.bool p, .bool q] := by
  by_cases h : RhAsk x xs r
  · exact ⟨_, true, rhV_yes h⟩
  · exact ⟨false, false, rhV_no h⟩
theorem rhV_same {x : Cd} {xs ys : List Im} (h : SameS xs ys) (r : Int) : rhV x ys r = rhV x xs r := by
  by_cases k : RhAsk x xs r
  · rw [rhV_yes k, rhV_yes ⟨k.ask.same h, k.lo, k.hi⟩, pB_iff (ruleP_same h r.toNat)]
  · rw [rhV_no k, rhV_no (fun q => k ⟨q.ask.same h.symm, q.lo, q.hi⟩)]

set_option maxHeartbeats 1000000 in
theorem sRuleHolds_any (A L : Option Addr) (c d : Nat) (x : Cd) (P : Option Addr) (c1 : Nat) (xs : List Im) (r : Int) (w : World) (hr : CdAt w A L x) (hl : CdFits x) (hp : Ims w w.heap.size P xs) (hq : ImsFits xs) :
    Calls Tryd.prog 6 #[x.val A c L d, .slice P xs.length c1, .int .i64 r] w fun e w' => e = .returned (rhV x xs r) ∧ Below w.heap.size w w' := by
  obtain ⟨W, hW, hB⟩ := boxed 33 w A c L d x
  have HB := Lib.hid hB.below
  have HX := Lib.hid hB.at_
  have HR := Lib.hid (hr.below hB.below)
  have HP := Lib.hid (hp.next hB.below)
  have HL := Lib.hid hl
  have HQ := Lib.hid hq
  clear hr hl hp hq hB
  unfold boxCd at hW
  unfold Cd.val
  go_enter Tryd.func6, Tryd.ntmps6
  obtain ⟨x0, x1, x2, x3, x4, x5⟩ := HX.out.box
  rw [hW] at x0 x1 x2 x3 x4 x5
  go_wp2_with fail
  rw [← hW]
  clear hW x0 x1 x2 x3 x4 x5
  refine (pgAsked_any A L c d x P c1 xs W HR.out HL.out HP.out HQ.out).mono ?_
  rintro e w1 ⟨he, hb1⟩
  have HB1 := Lib.hid hb1
  clear hb1
  by_cases hok : PgAsk x xs
  · rw [pB_yes hok] at he
    subst he
    have HK := Lib.hid hok
    clear hok
    by_cases hrr : 1 ≤ r ∧ r ≤ 8
    · obtain ⟨h1, h8⟩ := hrr
      have HV := Lib.hid (rhV_yes (⟨HK.out, h1, h8⟩ : RhAsk x xs r))
      obtain ⟨k, rfl⟩ : ∃ k : Nat, r = (k : Int) := ⟨r.toNat, by omega⟩
      rw [Int.toNat_natCast] at HV
      obtain ⟨x0, x1, x2, x3, x4, x5⟩ := (HX.out.next HB1.out).box
      go_wp2_with (first | (go_at_call 16; refine (l1In_yes _ _ _ _ h1 h8).mono ?_; rintro e w2 ⟨rfl, rfl⟩) | fail)
      clear x0 x1 x2 x3 x4 x5
      refine (pgHolds_any A L c d x P c1 xs k w1 (HR.out.below HB1.out) HL.out (HP.out.next HB1.out) HQ.out HK.out (by omega) (by omega)).mono ?_
      rintro e w2 ⟨rfl, hb2⟩
      have HB2 := Lib.hid (Below_next HB1.out hb2)
      clear hb2
      go_wp2
      go_ret2
      exact ⟨by rw [HV.out]; rfl, Below_next HB.out HB2.out⟩
    · have HV := Lib.hid (rhV_no (fun q : RhAsk x xs r => hrr ⟨q.lo, q.hi⟩))
      go_wp2_with (first | (go_at_call 16; refine (l1In_no _ _ _ _ hrr).mono ?_; rintro e w2 ⟨rfl, rfl⟩) | fail)
      go_ret2
      exact ⟨by rw [HV.out]; rfl, Below_next HB.out HB1.out⟩
  · rw [pB_no hok] at he
    subst he
    have HV := Lib.hid (rhV_no (fun q : RhAsk x xs r => hok q.ask))
    clear hok
    go_wp2
    go_ret2
    exact ⟨by rw [HV.out]; rfl, Below_next HB.out HB1.out⟩

theorem box1 {w : World} {b : Nat} {A L : Option Addr} {c d : Nat} {x : Cd} (h : BoxAt w b A c L d x) :
    w.cell? ⟨b, 0, none⟩ = some (.slice A x.els.length c) ∧ w.cell? ⟨b, 1, none⟩ = some (.slice L x.lims.length d) ∧ w.cell? ⟨b, 2, none⟩ = some (.int .i64 x.rep) ∧ w.cell? ⟨b, 3, none⟩ = some (.int .i64 x.bon) ∧ w.cell? ⟨b, 4, none⟩ = some (.int .i64 x.kee) ∧ w.cell? ⟨b, 5, none⟩ = some (.int .i64 x.fal) :=
  ⟨h.box.c0, h.box.c1, h.box.c2, h.box.c3, h.box.c4, h.box.c5⟩
set_option maxHeartbeats 4000000 in
set_option maxRecDepth 20000 in
theorem iRuleHolds_any (A L : Option Addr) (c d : Nat) (x : Cd) (P : Option Addr) (c1 : Nat) (xs : List Im) (r : Int) (w : World) (hr : CdAt w A L x) (hl : CdFits x) (hp : Ims w w.heap.size P xs) (hq : ImsFits xs) (ht : Tab w) :
    Calls Tryd.prog 9 #[x.val A c L d, .slice P xs.length c1, .int .i64 r] w fun e w' => e = .returned (rhV x xs r) ∧ Below w.heap.size w w' := by
  obtain ⟨W, hW, hB⟩ := boxed 33 w A c L d x
  have HB := Lib.hid hB.below
  have HX := Lib.hid hB.at_
  have HR := Lib.hid (hr.below hB.below)
  have HP := Lib.hid (hp.next hB.below)
  have HT := Lib.hid (ht.next hB.below)
  have HL := Lib.hid hl
  have HQ := Lib.hid hq
  clear hr hl hp hq hB ht
  unfold boxCd at hW
  unfold Cd.val
  go_enter Tryd.func9, Tryd.ntmps9
  obtain ⟨x0, x1, x2, x3, x4, x5⟩ := HX.out.box
  rw [hW] at x0 x1 x2 x3 x4 x5
  go_wp2_with fail
  rw [← hW]
  clear hW x0 x1 x2 x3 x4 x5
  refine (iIsCode_any A L c d x W HR.out HL.out HT.out).mono ?_
  rintro e w1 ⟨he, hb1⟩
  have HB1 := Lib.hid hb1
  clear hb1
  by_cases hok : CdOk x
  · rw [pB_yes hok] at he
    subst he
    have HK := Lib.hid hok
    clear hok
    go_wp2_with fail
    refine (iAreItems_any P c1 xs w1 (HP.out.next HB1.out) HQ.out).mono ?_
    rintro e w2 ⟨he, hb2⟩
    have HB2 := Lib.hid (Below_next HB1.out hb2)
    clear hb2
    by_cases hls : ListOk xs
    · rw [pB_yes hls] at he
      subst he
      have HA := Lib.hid (⟨HK.out, hls⟩ : PgAsk x xs)
      clear hls
      by_cases h1 : 1 ≤ r
      · by_cases h8 : r ≤ 8
        · have HV := Lib.hid (rhV_yes (⟨HA.out, h1, h8⟩ : RhAsk x xs r))
          obtain ⟨k, rfl⟩ : ∃ k : Nat, r = (k : Int) + 1 := ⟨(r - 1).toNat, by omega⟩
          have hk8 : k < 8 := by omega
          rw [show ((k : Int) + 1).toNat = k + 1 by omega] at HV
          have HC := Lib.hid (ruleCall_any A L c d x P c1 xs k hk8 HL.out HQ.out HA.out)
          have HT8 := Lib.hid (fun w g h => (ruleTab (w := w) (g := g) h k hk8).2)
          have heg := rule_enters k hk8
          have HX2 := Lib.hid (HX.out.next HB2.out)
          obtain ⟨x0, x1, x2, x3, x4, x5⟩ := box1 HX2.out
          have hw1 : IntKind.i64.wrap ((k : Int) + 1 - 1) = (k : Int) := by rw [show (k : Int) + 1 - 1 = k by omega]; exact IntWalk.i64_in _ (by omega)
          have hw2 : IntKind.i64.wrap (k : Int) = (k : Int) := IntWalk.i64_in _ (by omega)
          have q1 : (0 : Int) ≤ (k : Int) := by omega
          have q2 : (k : Int) < 8 := by omega
          go_wp2_with fail
          go_region_with (first
                | (go_at_call 23; refine (programmeRules_any _).mono ?_; rintro e w3 ⟨⟨g, dd, rfl, g1, g2, g3⟩, hb⟩; have HB3 := Lib.hid (Below_next HB2.out (below_next (below_drew w2) hb)); have f0 := HT8.out _ _ g3; obtain ⟨y0, y1, y2, y3, y4, y5⟩ := box1 (HX.out.next HB3.out); clear hb g3 g1)
                | (refine (HC.out _ (HR.out.below HB3.out) (HP.out.next HB3.out) (HT.out.next HB3.out)).mono ?_; rintro e w4 ⟨rfl, hb⟩; have HB4 := Lib.hid (Below_next HB3.out hb); clear hb)
                | fail)
          all_goals
            go_wp2
            go_ret2
            exact ⟨by rw [HV.out]; rfl, Below_next HB.out HB4.out⟩
        · have HV := Lib.hid (rhV_no (fun q : RhAsk x xs r => h8 q.hi))
          have h8' : 8 < r := by omega
          go_wp2
          go_ret2
          exact ⟨by rw [HV.out]; rfl, Below_next HB.out HB2.out⟩
      · have HV := Lib.hid (rhV_no (fun q : RhAsk x xs r => h1 q.lo))
        have h1' : r < 1 := by omega
        go_wp2
        go_ret2
        exact ⟨by rw [HV.out]; rfl, Below_next HB.out HB2.out⟩
    · rw [pB_no hls] at he
      subst he
      have HV := Lib.hid (rhV_no (fun q : RhAsk x xs r => hls q.ask.ls))
      clear hls
      go_wp2
      go_ret2
      exact ⟨by rw [HV.out]; rfl, Below_next HB.out HB2.out⟩
  · rw [pB_no hok] at he
    subst he
    have HV := Lib.hid (rhV_no (fun q : RhAsk x xs r => hok q.ask.cd))
    clear hok
    go_wp2
    go_ret2
    exact ⟨by rw [HV.out]; rfl, Below_next HB.out HB1.out⟩
end Go.Proofs.YtlghpbkchagoiaaDoor
