/- MoveItem, in the model and in the program. -/
import Derived.Test.YtnlcdfaojcnkpaaGreatDoorPgMv
namespace Go.Proofs.YtnlcdfaojcnkpaaGreatDoor
open Go.ChangeShapes Go.WideShapes Go.ChangeAt Go.RowKit Go.PlainAid
set_option linter.unusedVariables false

structure MvAsk (x : Cd) (xs : List Im) (r s : Int) : Prop where
  ok : PgOk x xs
  lo : 0 ≤ r
  hi : r < xs.length
  lo2 : 0 ≤ s
  hi2 : s < xs.length
noncomputable def mvF (x : Cd) (xs : List Im) (r s : Int) : List Im := @ite _ (MvAsk x xs r s) (Classical.propDecidable _) (lateS (mv xs r.toNat s.toNat)) []
theorem mvF_yes {x : Cd} {xs : List Im} {r s : Int} (h : MvAsk x xs r s) : mvF x xs r s = lateS (mv xs r.toNat s.toNat) := by unfold mvF; exact @if_pos _ (Classical.propDecidable _) h _ _ _
theorem mvF_no {x : Cd} {xs : List Im} {r s : Int} (h : ¬ MvAsk x xs r s) : mvF x xs r s = [] := by unfold mvF; exact @if_neg _ (Classical.propDecidable _) h _ _ _
theorem mv_same {xs ys : List Im} (h : SameS xs ys) (k j : Nat) (hk : k < xs.length) (hj : j < xs.length) : SameS (mv xs k j) (mv ys k j) :=
  ins_same (erase_same h k) (h.each k hk) j (by rw [erase_len xs k hk]; omega)
theorem MvAsk.same {x : Cd} {xs ys : List Im} {r s : Int} (h : SameS xs ys) (k : MvAsk x xs r s) : MvAsk x ys r s := ⟨k.ok.same h, k.lo, by have := h.len; have := k.hi; omega, k.lo2, by have := h.len; have := k.hi2; omega⟩
theorem mvF_same {x : Cd} {xs ys : List Im} (h : SameS xs ys) (r s : Int) : SameS (mvF x xs r s) (mvF x ys r s) := by
  by_cases k : MvAsk x xs r s
  · rw [mvF_yes k, mvF_yes (k.same h)]
    exact lateS_same (mv_same h _ _ (by have := k.hi; have := k.lo; omega) (by have := k.hi2; have := k.lo2; omega))
  · rw [mvF_no k, mvF_no (fun q => k (q.same h.symm))]
    exact SameS.refl _
theorem mvQ_same {x : Cd} {xs ys : List Im} (h : SameS xs ys) (r s : Int) : pB (MvAsk x ys r s) = pB (MvAsk x xs r s) := pB_iff ⟨fun k => k.same h.symm, fun k => k.same h⟩
theorem mv_fits {xs : List Im} (h : ImsFits xs) (hs : xs.length ≤ 1048575) (k j : Nat) (hk : k < xs.length) (hj : j < xs.length) : ImsFits (mv xs k j) :=
  ins_fits (erase_fits h k hk) (by rw [erase_len xs k hk]; omega) (h.each k hk) j (by rw [erase_len xs k hk]; omega)
theorem mvF_fits {x : Cd} {xs : List Im} (h : ImsFits xs) (r s : Int) : ImsFits (mvF x xs r s) := by
  by_cases k : MvAsk x xs r s
  · rw [mvF_yes k]
    exact lateS_fits (mv_fits h (by have := k.ok.ask.ls.len; omega) _ _ (by have := k.hi; have := k.lo; omega) (by have := k.hi2; have := k.lo2; omega))
  · rw [mvF_no k]; exact ⟨by simp, fun i hi => absurd hi (by simp)⟩
theorem mv_near {xs : List Im} (h : ListOk xs) (k j : Nat) (hk : k < xs.length) (hj : j < xs.length) : Near (mv xs k j) :=
  ins_near (erase_ok h k hk) (h.each k hk) j (by rw [erase_len xs k hk]; omega)

set_option maxRecDepth 20000 in
set_option maxHeartbeats 4000000 in
theorem sMoveItem_any (A L : Option Addr) (c d : Nat) (x : Cd) (P : Option Addr) (c1 : Nat) (xs : List Im) (r s : Int) (w : World) (hr : CdAt w A L x) (hl : CdFits x) (hp : Ims w w.heap.size P xs) (hq : ImsFits xs) (hc : xs.length ≤ c1 ∧ c1 ≤ 9223372036854775807) :
    Calls Tryz.prog 24 #[x.val A c L d, .slice P xs.length c1, .int .i64 r, .int .i64 s] w (ItAns w (mvF x xs r s) (MvAsk x xs r s)) := by
  obtain ⟨W, hW, hB⟩ := boxed 38 w A c L d x
  have HB := Lib.hid hB.below
  have HX := Lib.hid hB.at_
  have HR := Lib.hid (hr.below hB.below)
  have HP := Lib.hid (hp.next hB.below)
  have HL := Lib.hid hl
  have HQ := Lib.hid hq
  have HC := Lib.hid hc
  have hlen := hq.len
  clear hr hl hp hq hB hc
  unfold boxCd at hW
  unfold Cd.val
  go_enter Tryz.func24, Tryz.ntmps24
  obtain ⟨x0, x1, x2, x3, x4, x5⟩ := HX.out.box
  rw [hW] at x0 x1 x2 x3 x4 x5
  go_wp2_with fail
  rw [← hW]
  clear hW x0 x1 x2 x3 x4 x5
  refine (pgGood_any A L c d x P c1 xs W HR.out HL.out HP.out HQ.out).mono ?_
  rintro e w1 ⟨he, hb1⟩
  have HB1 := Lib.hid hb1
  clear hb1
  by_cases hok : PgOk x xs
  · rw [pB_yes hok] at he
    subst he
    have h14 := hok.ask.ls.len
    have hp0 : 0 < xs.length := hok.all 0 (by omega)
    by_cases hrr : 0 ≤ r ∧ r ≤ (xs.length : Int) - 1
    · by_cases hss : 0 ≤ s ∧ s ≤ (xs.length : Int) - 1
      · have HA := Lib.hid (⟨hok, hrr.1, by omega, hss.1, by omega⟩ : MvAsk x xs r s)
        obtain ⟨k, rfl⟩ : ∃ k : Nat, r = (k : Int) := ⟨r.toNat, by omega⟩
        obtain ⟨j, rfl⟩ : ∃ j : Nat, s = (j : Int) := ⟨s.toNat, by omega⟩
        have hk : k < xs.length := by omega
        have hj : j < xs.length := by omega
        have HV := Lib.hid (mvF_yes HA.out)
        have HW := Lib.hid (pB_yes HA.out)
        rw [Int.toNat_natCast, Int.toNat_natCast] at HV
        have HLS := Lib.hid hok.ask.ls
        have HOK := Lib.hid (mv_ok hok k j hk)
        have HEL := Lib.hid (erase_len xs k hk)
        obtain ⟨h0, h1⟩ := hrr
        obtain ⟨h2, h3⟩ := hss
        obtain ⟨b, o, rfl, hbl, hcx⟩ := HP.out.out.im hp0
        have HXP := Lib.hid (fun w' (hb : Below W.heap.size W w') => (hcx k hk).below hb hbl)
        have HBX := Lib.hid (fun w' (hb : Below W.heap.size W w') => (⟨box1 (HX.out.next hb), (HXP.out w' hb).c0, (HXP.out w' hb).c1, (HXP.out w' hb).c2⟩ : (_ ∧ _ ∧ _ ∧ _ ∧ _ ∧ _) ∧ _ ∧ _ ∧ _))
        clear hok hcx
        have HD := Lib.hid (below_drew w1)
        have q1 : (0 : Int) ≤ (k : Int) := by omega
        have q2 : (k : Int) < (xs.length : Int) := by omega
        go_wp2_with (first | (go_at_call 36; (with_reducible refine (l1In_yes _ _ _ _ h0 h1).mono ?_); rintro e w2 ⟨rfl, rfl⟩) | (go_at_call 36; (with_reducible refine (l1In_yes _ _ _ _ h2 h3).mono ?_); rintro e w2 ⟨rfl, rfl⟩) | fail)
        go_region_held3 (fun w' => (w'.cell? ⟨w.heap.size, 0, none⟩ = some (.slice A x.els.length c) ∧ w'.cell? ⟨w.heap.size, 1, none⟩ = some (.slice L x.lims.length d) ∧ w'.cell? ⟨w.heap.size, 2, none⟩ = some (.int .i64 x.rep) ∧ w'.cell? ⟨w.heap.size, 3, none⟩ = some (.int .i64 x.bon) ∧ w'.cell? ⟨w.heap.size, 4, none⟩ = some (.int .i64 x.kee) ∧ w'.cell? ⟨w.heap.size, 5, none⟩ = some (.int .i64 x.fal)) ∧ w'.cell? ⟨b, o + k * 3, none⟩ = some (.slice (it xs k).A (it xs k).ns.length (it xs k).c) ∧ w'.cell? ⟨b, o + k * 3 + 1, none⟩ = some (.slice (it xs k).L (it xs k).ms.length (it xs k).d) ∧ w'.cell? ⟨b, o + k * 3 + 2, none⟩ = some (.bool (it xs k).late))
          (first | (with_reducible exact HBX.out _ (Below_next HB1.out HD.out)) | (with_reducible exact HBX.out _ HB2.out) | (with_reducible exact HBX.out _ HB3.out) | (with_reducible exact HBX.out _ HB4.out) | fail)
          (first
            | (go_at_call 53; refine (pgWithout_any _ c1 xs k _ (HP.out.next (Below_next HB1.out HD.out)) hk (by omega) HC.out).mono ?_; rintro e w2 ⟨⟨R, dd, rfl, hdd, hi⟩, hb⟩; have HB2 := Lib.hid (Below_next HB1.out (below_next HD.out hb)); have HI := Lib.hid hi; have HDD := Lib.hid hdd; clear hdd hi hb)
            | (go_at_call 38; refine (pgInsert_any R dd (xs.eraseIdx k) j (it xs k) _ HI.out ((HP.out.next HB2.out).each k hk) (by have := HEL.out; omega) (by have := HEL.out; omega) HDD.out).mono ?_; rintro e w3 ⟨⟨R3, d3, rfl, hdd, hi⟩, hb⟩; have HB3 := Lib.hid (Below_next HB2.out hb); have HI3 := Lib.hid hi; clear hdd hi hb)
            | (go_at_call 37; refine (pgIf_any A L c d x R3 d3 (mv xs k j) _ (HR.out.below HB3.out) HL.out HI3.out (mv_fits HQ.out (by omega) k j hk hj) (mv_near HLS.out k j hk hj)).mono ?_; rintro e w4 hans; obtain ⟨⟨R2, d2, ys, g, G, rfl, hs, ho⟩, hb⟩ := hans; have HB4 := Lib.hid (Below_next HB3.out hb); have HS4 := Lib.hid hs; have HO4 := Lib.hid ho; clear hs ho hb)
            | fail)
        have hs2 := (Below_next HB.out HB3.out).size
        rw [ifF_yes HOK.out] at HS4
        rw [pB_yes HOK.out]
        go_wp2
        go_returns
        rw [HV.out]
        exact ⟨⟨R2, d2, ys, g, G, by rw [HW.out]; rfl, HS4.out, HO4.out.mono (fun i hi => ⟨by omega, hi.2⟩)⟩, Below_next HB.out HB4.out⟩
      · have hna : ¬ MvAsk x xs r s := fun q => hss ⟨q.lo2, by have := q.hi2; omega⟩
        have HV := Lib.hid (mvF_no hna)
        have HW := Lib.hid (pB_no hna)
        obtain ⟨h0, h1⟩ := hrr
        clear hok hna
        go_wp2_with (first | (go_at_call 36; (with_reducible refine (l1In_yes _ _ _ _ h0 h1).mono ?_); rintro e w2 ⟨rfl, rfl⟩) | (go_at_call 36; (with_reducible refine (l1In_no _ _ _ _ hss).mono ?_); rintro e w2 ⟨rfl, rfl⟩) | fail)
        go_returns
        exact itAns_no HV.out HW.out (Below_next HB.out HB1.out)
    · have hna : ¬ MvAsk x xs r s := fun q => hrr ⟨q.lo, by have := q.hi; omega⟩
      have HV := Lib.hid (mvF_no hna)
      have HW := Lib.hid (pB_no hna)
      clear hok hna
      go_wp2_with (first | (go_at_call 36; (with_reducible refine (l1In_no _ _ _ _ hrr).mono ?_); rintro e w2 ⟨rfl, rfl⟩) | fail)
      go_returns
      exact itAns_no HV.out HW.out (Below_next HB.out HB1.out)
  · rw [pB_no hok] at he
    subst he
    have hna : ¬ MvAsk x xs r s := fun q => hok q.ok
    have HV := Lib.hid (mvF_no hna)
    have HW := Lib.hid (pB_no hna)
    clear hok hna
    go_wp2
    go_returns
    exact itAns_no HV.out HW.out (Below_next HB.out HB1.out)

set_option maxRecDepth 20000 in
set_option maxHeartbeats 4000000 in
theorem iMoveItem_any (A L : Option Addr) (c d : Nat) (x : Cd) (P : Option Addr) (c1 : Nat) (xs : List Im) (r s : Int) (w : World) (hr : CdAt w A L x) (hl : CdFits x) (hp : Ims w w.heap.size P xs) (hq : ImsFits xs) (hc : xs.length ≤ c1 ∧ c1 ≤ 9223372036854775807) (ht : Tab w) :
    Calls Tryz.prog 25 #[x.val A c L d, .slice P xs.length c1, .int .i64 r, .int .i64 s] w (ItAns w (mvF x xs r s) (MvAsk x xs r s)) := by
  obtain ⟨W, hW, hB⟩ := boxed 38 w A c L d x
  have HB := Lib.hid hB.below
  have HX := Lib.hid hB.at_
  have HR := Lib.hid (hr.below hB.below)
  have HP := Lib.hid (hp.next hB.below)
  have HT := Lib.hid (ht.next hB.below)
  have HL := Lib.hid hl
  have HQ := Lib.hid hq
  have HC := Lib.hid hc
  have hlen := hq.len
  clear hr hl hp hq hB hc ht
  unfold boxCd at hW
  unfold Cd.val
  go_enter Tryz.func25, Tryz.ntmps25
  obtain ⟨x0, x1, x2, x3, x4, x5⟩ := HX.out.box
  rw [hW] at x0 x1 x2 x3 x4 x5
  go_wp2_with fail
  rw [← hW]
  clear hW x0 x1 x2 x3 x4 x5
  refine (iIsProgramme_any A L c d x P c1 xs W HR.out HL.out HP.out HQ.out HT.out).mono ?_
  rintro e w1 ⟨he, hb1⟩
  have HB1 := Lib.hid hb1
  clear hb1
  unfold ipV at he
  by_cases hok : PgOk x xs
  · rw [pB_yes hok] at he
    subst he
    have h14 := hok.ask.ls.len
    have hp0 : 0 < xs.length := hok.all 0 (by omega)
    by_cases hrr : 0 ≤ r ∧ r < (xs.length : Int)
    · by_cases hss : 0 ≤ s ∧ s < (xs.length : Int)
      · have HA := Lib.hid (⟨hok, hrr.1, hrr.2, hss.1, hss.2⟩ : MvAsk x xs r s)
        obtain ⟨k, rfl⟩ : ∃ k : Nat, r = (k : Int) := ⟨r.toNat, by omega⟩
        obtain ⟨j, rfl⟩ : ∃ j : Nat, s = (j : Int) := ⟨s.toNat, by omega⟩
        have hk : k < xs.length := by omega
        have hj : j < xs.length := by omega
        have HV := Lib.hid (mvF_yes HA.out)
        have HW := Lib.hid (pB_yes HA.out)
        rw [Int.toNat_natCast, Int.toNat_natCast] at HV
        have HLM := Lib.hid (lateS_ok.1 (mv_ok hok k j hk).ask.ls)
        have HEL := Lib.hid (erase_len xs k hk)
        obtain ⟨q1, q2⟩ := hrr
        obtain ⟨h2, h3⟩ := hss
        obtain ⟨b, o, rfl, hbl, hcx⟩ := HP.out.out.im hp0
        have HBX := Lib.hid (fun w' (hb : Below W.heap.size W w') => (⟨((hcx k hk).below hb hbl).c0, ((hcx k hk).below hb hbl).c1, ((hcx k hk).below hb hbl).c2⟩ : _ ∧ _ ∧ _))
        clear hok hcx
        have HD := Lib.hid (below_drew w1)
        go_wp2_with fail
        go_region_held3 (fun w' => w'.cell? ⟨b, o + k * 3, none⟩ = some (.slice (it xs k).A (it xs k).ns.length (it xs k).c) ∧ w'.cell? ⟨b, o + k * 3 + 1, none⟩ = some (.slice (it xs k).L (it xs k).ms.length (it xs k).d) ∧ w'.cell? ⟨b, o + k * 3 + 2, none⟩ = some (.bool (it xs k).late))
          (first | (with_reducible exact HBX.out _ (Below_next HB1.out HD.out)) | (with_reducible exact HBX.out _ HB2.out) | (with_reducible exact HBX.out _ HB3.out) | (with_reducible exact HBX.out _ HB4.out) | fail)
          (first
            | (go_at_call 54; refine (withoutItem_any b o c1 xs k _ (HP.out.next (Below_next HB1.out HD.out)) hk (by omega) HC.out).mono ?_; rintro e w2 ⟨⟨R, dd, rfl, hdd, hi⟩, hb⟩; have HB2 := Lib.hid (Below_next HB1.out (below_next HD.out hb)); have HI := Lib.hid hi; have HDD := Lib.hid hdd; clear hdd hi hb)
            | (go_at_call 44; refine (withItem_any R dd (xs.eraseIdx k) j (it xs k) _ HI.out ((HP.out.next HB2.out).each k hk) (by have := HEL.out; omega) (by have := HEL.out; omega) HDD.out).mono ?_; rintro e w3 ⟨⟨R3, d3, rfl, hdd, hi⟩, hb⟩; have HB3 := Lib.hid (Below_next HB2.out hb); have HI3 := Lib.hid hi; clear hdd hi hb)
            | (go_at_call 55; refine (iMarkLate_any R3 d3 (mv xs k j) _ HI3.out (mv_fits HQ.out (by omega) k j hk hj)).mono ?_; rintro e w4 ⟨⟨R2, d2, ys, g, G, rfl, hs, ho⟩, hb⟩; have HB4 := Lib.hid (Below_next HB3.out hb); have HS4 := Lib.hid hs; have HO4 := Lib.hid ho; clear hs ho hb)
            | fail)
        have hs2 := (Below_next HB.out HB3.out).size
        rw [mlF_yes HLM.out] at HS4
        rw [pB_yes HLM.out]
        go_wp2
        go_returns
        rw [HV.out]
        exact ⟨⟨R2, d2, ys, g, G, by rw [HW.out]; rfl, HS4.out, HO4.out.mono (fun i hi => ⟨by omega, hi.2⟩)⟩, Below_next HB.out HB4.out⟩
      · have hna : ¬ MvAsk x xs r s := fun q => hss ⟨q.lo2, q.hi2⟩
        have HV := Lib.hid (mvF_no hna)
        have HW := Lib.hid (pB_no hna)
        obtain ⟨q1, q2⟩ := hrr
        clear hok hna
        by_cases h4 : s < 0
        · go_wp2
          go_returns
          exact itAns_no HV.out HW.out (Below_next HB.out HB1.out)
        · have h5 : (xs.length : Int) ≤ s := by omega
          have h6 : 0 ≤ s := by omega
          go_wp2
          go_returns
          exact itAns_no HV.out HW.out (Below_next HB.out HB1.out)
    · have hna : ¬ MvAsk x xs r s := fun q => hrr ⟨q.lo, q.hi⟩
      have HV := Lib.hid (mvF_no hna)
      have HW := Lib.hid (pB_no hna)
      clear hok hna
      by_cases h4 : r < 0
      · go_wp2
        go_returns
        exact itAns_no HV.out HW.out (Below_next HB.out HB1.out)
      · have h5 : (xs.length : Int) ≤ r := by omega
        have h6 : 0 ≤ r := by omega
        go_wp2
        go_returns
        exact itAns_no HV.out HW.out (Below_next HB.out HB1.out)
  · rw [pB_no hok] at he
    subst he
    have hna : ¬ MvAsk x xs r s := fun q => hok q.ok
    have HV := Lib.hid (mvF_no hna)
    have HW := Lib.hid (pB_no hna)
    clear hok hna
    go_wp2
    go_returns
    exact itAns_no HV.out HW.out (Below_next HB.out HB1.out)
end Go.Proofs.YtnlcdfaojcnkpaaGreatDoor
