/- BrokenRules and IsProgramme in the program. -/
import Derived.Test.YtnlcdfaojcnkpaaGreatDoorPgB
import Derived.Laws.EntriesVeiled
namespace Go.Proofs.YtnlcdfaojcnkpaaGreatDoor
open Go.ChangeShapes Go.WideShapes Go.ChangeAt Go.RowKit Go.PlainAid
set_option linter.unusedVariables false

set_option maxHeartbeats 4000000 in
set_option maxRecDepth 20000 in
theorem iBrokenRules_any (A L : Option Addr) (c d : Nat) (x : Cd) (P : Option Addr) (c1 : Nat) (xs : List Im) (w : World) (hr : CdAt w A L x) (hl : CdFits x) (hp : Ims w w.heap.size P xs) (hq : ImsFits xs) (ht : Tab w) :
    Calls Tryz.prog 73 #[x.val A c L d, .slice P xs.length c1] w fun e w' => (∃ R d, e = .returned (.tuple #[.slice R (bfF x xs).length d, .bool (pB (PgAsk x xs))]) ∧ Owned (fun i => w.heap.size ≤ i ∧ i < w'.heap.size) w' R (bfF x xs)) ∧ Below w.heap.size w w' := by
  obtain ⟨i0, hi, hz0, hz1, hz2⟩ := info_parts Tryz.infoInt
  have HZ := Lib.hid (And.intro hi (And.intro hz0 (And.intro hz1 hz2)))
  obtain ⟨W, hW, hB⟩ := boxed 38 w A c L d x
  have HB := Lib.hid hB.below
  have HX := Lib.hid hB.at_
  have HR := Lib.hid (hr.below hB.below)
  have HP := Lib.hid (hp.next hB.below)
  have HT := Lib.hid (ht.next hB.below)
  have HL := Lib.hid hl
  have HQ := Lib.hid hq
  clear hr hl hp hq hB ht hi hz0 hz1 hz2
  unfold boxCd at hW
  unfold Cd.val
  go_enter Tryz.func73, Tryz.ntmps73
  obtain ⟨x0, x1, x2, x3, x4, x5⟩ := HX.out.box
  rw [hW] at x0 x1 x2 x3 x4 x5
  go_wp2_with fail
  rw [← hW]
  clear hW x0 x1 x2 x3 x4 x5
  refine (iIsCode_any A L c d x W HR.out HL.out HT.out).mono ?_
  rintro e w1 ⟨he, hb1⟩
  have HB1 := Lib.hid hb1
  clear hb1
  by_cases hok : CdOk x
  · rw [pB_yes hok] at he
    subst he
    go_wp2_with fail
    refine (iAreItems_any P c1 xs w1 (HP.out.next HB1.out) HQ.out).mono ?_
    rintro e w2 ⟨he, hb2⟩
    have HB2 := Lib.hid (Below_next HB1.out hb2)
    clear hb2
    by_cases hls : ListOk xs
    · rw [pB_yes hls] at he
      subst he
      have HA := Lib.hid (⟨hok, hls⟩ : PgAsk x xs)
      clear hls hok
      go_wp2_with fail
      refine (programmeRules_any w2).mono ?_
      rintro e w3 ⟨⟨g, dd, rfl, g1, g2, g3⟩, hb3⟩
      have HB3 := Lib.hid (Below_next HB2.out hb3)
      have HG := Lib.hid g3
      have hs3 := HB3.out.size
      clear hb3 g3
      go_wp2_with fail
      go_loopw [6, 19] (fun v i wr => ∃ k : Nat, k ≤ 8 ∧ i = .int .i64 k ∧ Hid (Below w3.heap.size w3 wr) ∧ Hid (wr.ownsRow w3.heap.size 3 1 v (brk x xs k).length ((brk x xs k).map (Value.int .i64)))) (fun _ i _ => 8 - (intOf i).toNat)
      case atStart => exact ⟨0, Nat.zero_le _, rfl, Lib.hid (Below.refl _ _), Lib.hid ⟨rfl, .inl ⟨rfl, rfl⟩⟩⟩
      case round =>
        obtain ⟨k, hk, rfl, HBR, HO⟩ := hrel
        by_cases hlt : k < 8
        · have HBW := Lib.hid (Below_next HB3.out HBR.out)
          have hle := brk_len x xs k
          have hbs := HBR.out.size
          have HC := Lib.hid (ruleCall_any A L c d x P c1 xs k hlt HL.out HQ.out HA.out)
          obtain ⟨x0, x1, x2, x3, x4, x5⟩ := (HX.out.next HBW.out).box
          obtain ⟨n0, f0⟩ := ruleTab (HG.out.block (HBR.out.block g g2)) k hlt
          have hxl := (HX.out.next HBW.out).lt
          have heg := rule_enters k hlt
          go_wp2_with fail
          clear x0 x1 x2 x3 x4 x5 n0 f0 hxl
          generalize hw4 : World.alloc wr _ = w4
          have hb4 : Below wr.heap.size wr w4 := by
            rw [← hw4]
            exact below_alloc _ _
          have HB4 := Lib.hid (below_next HBR.out hb4)
          have HN4 := Lib.hid (show w4.cell? ⟨wr.heap.size, 0, none⟩ = some (.int .i64 ((k : Int) + 1)) by rw [← hw4]; simp)
          have hs4 : wr.heap.size < w4.heap.size := by rw [← hw4]; simp
          have HW4 := Lib.hid (Below_next HB3.out HB4.out)
          clear hw4
          refine (HC.out w4 (HR.out.below HW4.out) (HP.out.next HW4.out) (HT.out.next HW4.out)).mono ?_
          rintro e w5 ⟨he, hb5⟩
          have HB5 := Lib.hid (below_next HB4.out hb5)
          have n5 := (hb5.cell (p := ⟨wr.heap.size, 0, none⟩) hs4).trans HN4.out
          have HOW := Lib.hid (own_next HO.out (below_next hb4 hb5))
          have hbs5 := HB5.out.size
          clear hb5 hb4 hs4 heg
          by_cases hq : RuleP x xs (k + 1)
          · rw [pB_yes hq] at he
            subst he
            have HV := Lib.hid (brk_yes hq)
            clear hq
            go_wp2
            go_roundw
            case rel => exact ⟨k + 1, by omega, by go_num, HB5, by rw [HV.out]; exact HOW⟩
            case measure => simp [intOf]; omega
          · rw [pB_no hq] at he
            subst he
            have HV := Lib.hid (brk_no hq)
            clear hq
            go_wp2_with (at_builtin; refine wpList_append_src _ rfl (.tmp 29) (.tmp 32) 23 rfl w3.heap.size 3 i0 (.int .i64 0) 8 Tryz.underlying23 HZ.out.1 HZ.out.2.1 HZ.out.2.2.1 HZ.out.2.2.2 rfl _ (brk x xs k).length ((brk x xs k).map (Value.int .i64)) rfl (HOW.out.alloc _) (some ⟨w5.heap.size, 0, none⟩) 1 1 ([(k : Int) + 1].map (Value.int .i64)) rfl rfl (fun _ => ⟨_, rfl, int_news (by simp)⟩) (int_ones _) (by unfold maxLen; omega) (by omega) (by simp; omega) ?_; intro v1 w6 hown hgrow hat)
            have hb6 : Below w3.heap.size w3 w6 := Below.grown (below_next HB5.out (below_alloc _ _)) hgrow (by simp; omega) (fun m e => (HOW.out.lt m e).1)
            have HB6 := Lib.hid hb6
            have HOWN := Lib.hid (show w6.ownsRow w3.heap.size 3 1 v1 (brk x xs (k + 1)).length ((brk x xs (k + 1)).map (Value.int .i64)) from by
              rw [HV.out, List.length_append, List.map_append]
              exact hown)
            clear hown hgrow hat hb6
            go_wp2
            go_roundw
            case rel => exact ⟨k + 1, by omega, by go_num, HB6, HOWN⟩
            case measure => simp [intOf]; omega
        · obtain rfl : k = 8 := by omega
          obtain ⟨R, d1, rfl, ho⟩ := own_formI _ HO.out
          have hs := (Below_next HB.out HB3.out).size
          have HOO := Lib.hid (ho.mono (T := fun i => w.heap.size ≤ i ∧ i < wr.heap.size) (fun i hi => ⟨by omega, hi.2⟩))
          clear ho
          go_wp2
          go_returns
          rw [pB_yes HA.out, bfF_yes HA.out]
          exact ⟨⟨R, d1, rfl, HOO.out⟩, Below_next HB.out (Below_next HB3.out HBR.out)⟩
    · rw [pB_no hls] at he
      have hn : ¬ PgAsk x xs := fun q => hls q.ls
      subst he
      have HK := Lib.hid hn
      clear hls hok hn
      go_wp2
      go_returns
      rw [pB_no HK.out, bfF_no HK.out]
      exact ⟨⟨none, 0, rfl, Owned.nil _ _ _⟩, Below_next HB.out HB2.out⟩
  · rw [pB_no hok] at he
    have hn : ¬ PgAsk x xs := fun q => hok q.cd
    subst he
    have HK := Lib.hid hn
    clear hok hn
    go_wp2
    go_returns
    rw [pB_no HK.out, bfF_no HK.out]
    exact ⟨⟨none, 0, rfl, Owned.nil _ _ _⟩, Below_next HB.out HB1.out⟩

set_option maxHeartbeats 1000000 in
theorem iIsProgramme_any (A L : Option Addr) (c d : Nat) (x : Cd) (P : Option Addr) (c1 : Nat) (xs : List Im) (w : World) (hr : CdAt w A L x) (hl : CdFits x) (hp : Ims w w.heap.size P xs) (hq : ImsFits xs) (ht : Tab w) :
    Calls Tryz.prog 42 #[x.val A c L d, .slice P xs.length c1] w fun e w' => e = .returned (ipV x xs) ∧ Below w.heap.size w w' := by
  obtain ⟨W, hW, hB⟩ := boxed 38 w A c L d x
  have HB := Lib.hid hB.below
  have HX := Lib.hid hB.at_
  have HC := Lib.hid (iBrokenRules_any A L c d x P c1 xs W (hr.below hB.below) hl (hp.next hB.below) hq (ht.next hB.below))
  clear hr hl hp hq hB ht
  unfold boxCd at hW
  unfold Cd.val ipV
  go_enter Tryz.func42, Tryz.ntmps42
  obtain ⟨x0, x1, x2, x3, x4, x5⟩ := HX.out.box
  rw [hW] at x0 x1 x2 x3 x4 x5
  go_wp2_with fail
  rw [← hW]
  clear hW x0 x1 x2 x3 x4 x5
  by_cases hok : PgAsk x xs
  · rw [pB_yes hok, bfF_yes hok] at HC
    have HI := Lib.hid (pgOk_iff hok)
    have HV := Lib.hid (pB_yes hok)
    have hle := brk_len x xs 8
    clear hok
    refine HC.out.mono ?_
    rintro e w1 ⟨⟨R, d1, rfl, ho⟩, hb1⟩
    have HB1 := Lib.hid (Below_next HB.out hb1)
    clear hb1 ho HC
    generalize (brk x xs 8).length = n at HI hle ⊢
    by_cases h0 : n = 0
    · have HW := Lib.hid (pB_yes (HI.out.1 h0))
      subst h0
      go_wp2
      go_ret2
      exact ⟨by rw [HV.out, HW.out]; first | rfl | (simp; omega), HB1.out⟩
    · have HW := Lib.hid (pB_no (fun q => h0 (HI.out.2 q)))
      have h0' : ((n : Int) == 0) = false := by simp; omega
      clear h0
      go_wp2
      go_ret2
      exact ⟨by rw [HV.out, HW.out]; first | rfl | (simp; omega), HB1.out⟩
  · rw [pB_no hok, bfF_no hok] at HC
    have HV := Lib.hid (pB_no hok)
    have HW := Lib.hid (pB_no (fun q : PgOk x xs => hok q.ask))
    clear hok
    refine HC.out.mono ?_
    rintro e w1 ⟨⟨R, d1, rfl, ho⟩, hb1⟩
    have HB1 := Lib.hid (Below_next HB.out hb1)
    clear hb1 ho HC
    go_wp2
    go_ret2
    exact ⟨by rw [HV.out, HW.out]; first | rfl | (simp; omega), HB1.out⟩
theorem brk_same {x : Cd} {xs ys : List Im} (h : SameS xs ys) : ∀ k, brk x ys k = brk x xs k
  | 0 => rfl
  | k + 1 => by
    by_cases q : RuleP x xs (k + 1)
    · rw [brk_yes q, brk_yes ((ruleP_same h _).2 q), brk_same h k]
    · rw [brk_no q, brk_no (fun r => q ((ruleP_same h _).1 r)), brk_same h k]
theorem bfF_same {x : Cd} {xs ys : List Im} (h : SameS xs ys) : bfF x ys = bfF x xs := by
  by_cases k : PgAsk x xs
  · rw [bfF_yes k, bfF_yes (k.same h), brk_same h]
  · rw [bfF_no k, bfF_no (fun q => k (q.same h.symm))]
theorem PgOk.same {x : Cd} {xs ys : List Im} (h : SameS xs ys) (k : PgOk x xs) : PgOk x ys := ⟨k.ask.same h, fun j hj => (ruleP_same h _).2 (k.all j hj)⟩
theorem ipV_same {x : Cd} {xs ys : List Im} (h : SameS xs ys) : ipV x ys = ipV x xs := by
  unfold ipV
  rw [pgAsk_same h, pB_iff (show PgOk x ys ↔ PgOk x xs from ⟨fun k => k.same h.symm, fun k => k.same h⟩)]
end Go.Proofs.YtnlcdfaojcnkpaaGreatDoor
