/- DropItem, in the model and in the program. -/
import Derived.Test.YtnlcdfaojcnkpaaGreatDoorPgRh
import Derived.Test.YtnlcdfaojcnkpaaGreatDoorPgIf
namespace Go.Proofs.YtnlcdfaojcnkpaaGreatDoor
open Go.ChangeShapes Go.WideShapes Go.ChangeAt Go.RowKit Go.PlainAid
set_option linter.unusedVariables false

structure DrAsk (x : Cd) (xs : List Im) (r : Int) : Prop where
  ok : PgOk x xs
  lo : 0 ≤ r
  hi : r < xs.length
structure DrOkI (x : Cd) (xs : List Im) (r : Int) : Prop where
  ask : DrAsk x xs r
  new : PgOk x (lateS (xs.eraseIdx r.toNat))
noncomputable def drF (x : Cd) (xs : List Im) (r : Int) : List Im := @ite _ (DrAsk x xs r) (Classical.propDecidable _) (ifF x (xs.eraseIdx r.toNat)) []
theorem drF_yes {x : Cd} {xs : List Im} {r : Int} (h : DrAsk x xs r) : drF x xs r = ifF x (xs.eraseIdx r.toNat) := by unfold drF; exact @if_pos _ (Classical.propDecidable _) h _ _ _
theorem drF_no {x : Cd} {xs : List Im} {r : Int} (h : ¬ DrAsk x xs r) : drF x xs r = [] := by unfold drF; exact @if_neg _ (Classical.propDecidable _) h _ _ _
theorem drQ_yes {x : Cd} {xs : List Im} {r : Int} (h : DrAsk x xs r) : pB (DrOkI x xs r) = pB (PgOk x (lateS (xs.eraseIdx r.toNat))) := pB_iff ⟨fun q => q.new, fun q => ⟨h, q⟩⟩
theorem drQ_no {x : Cd} {xs : List Im} {r : Int} (h : ¬ DrAsk x xs r) : pB (DrOkI x xs r) = false := pB_no (fun q => h q.ask)
theorem erase_fits {xs : List Im} (h : ImsFits xs) (k : Nat) (hk : k < xs.length) : ImsFits (xs.eraseIdx k) := ⟨by rw [erase_len xs k hk]; have := h.len; omega, fun i hi => by
  rw [erase_len xs k hk] at hi
  rw [it_erase]
  by_cases e : i < k
  · rw [if_pos e]; exact h.each i (by omega)
  · rw [if_neg e]; exact h.each (i + 1) (by omega)⟩
theorem erase_ok {xs : List Im} (h : ListOk xs) (k : Nat) (hk : k < xs.length) : ListOk (xs.eraseIdx k) := ⟨by rw [erase_len xs k hk]; have := h.len; omega, fun i hi => by
  rw [erase_len xs k hk] at hi
  rw [it_erase]
  by_cases e : i < k
  · rw [if_pos e]; exact h.each i (by omega)
  · rw [if_neg e]; exact h.each (i + 1) (by omega)⟩
theorem ItAns.next {w w1 : World} {V : List Im} {q : Prop} {e : Ending} {w' : World} (hb : Below w.heap.size w w1) (h : ItAns w1 V q e w') : ItAns w V q e w' := by
  obtain ⟨⟨R, d, ys, g, G, he, hs, ho⟩, hb'⟩ := h
  have := hb.size
  exact ⟨⟨R, d, ys, g, G, he, hs, ho.mono (fun i hi => ⟨by omega, hi.2⟩)⟩, below_next hb hb'⟩
theorem itAns_no {w w' : World} {V : List Im} {q : Prop} (hV : V = []) (hq : pB q = false) (hb : Below w.heap.size w w') : ItAns w V q (.returned (.tuple #[.slice none 0 0, .bool false])) w' := by
  subst hV
  exact ⟨⟨none, 0, [], 0, fun _ => 0, by rw [hq]; rfl, SameS.refl _, ims_nothing _ _⟩, hb⟩

theorem erase_same {xs ys : List Im} (h : SameS xs ys) (k : Nat) : SameS (xs.eraseIdx k) (ys.eraseIdx k) := by
  have hl := h.len
  have he : (ys.eraseIdx k).length = (xs.eraseIdx k).length := by rw [List.length_eraseIdx, List.length_eraseIdx, hl]
  refine ⟨he, fun i hi => ?_⟩
  rw [it_erase, it_erase]
  rw [List.length_eraseIdx] at hi
  by_cases hk : k < xs.length
  · rw [if_pos hk] at hi
    by_cases e : i < k
    · rw [if_pos e, if_pos e]; exact h.each i (by omega)
    · rw [if_neg e, if_neg e]; exact h.each (i + 1) (by omega)
  · rw [if_neg hk] at hi
    rw [if_pos (by omega), if_pos (by omega)]
    exact h.each i hi
theorem DrAsk.same {x : Cd} {xs ys : List Im} {r : Int} (h : SameS xs ys) (k : DrAsk x xs r) : DrAsk x ys r := ⟨k.ok.same h, k.lo, by have := h.len; have := k.hi; omega⟩
theorem ifF_same {x : Cd} {zs ys : List Im} (h : SameS zs ys) : SameS (ifF x zs) (ifF x ys) := by
  by_cases k : PgOk x (lateS zs)
  · rw [ifF_yes k, ifF_yes (k.same (lateS_same h))]
    exact lateS_same h
  · rw [ifF_no k, ifF_no (fun q => k (q.same (lateS_same h).symm))]
    exact SameS.refl _
theorem drF_same {x : Cd} {xs ys : List Im} (h : SameS xs ys) (r : Int) : SameS (drF x xs r) (drF x ys r) := by
  by_cases k : DrAsk x xs r
  · rw [drF_yes k, drF_yes (k.same h)]
    exact ifF_same (erase_same h _)
  · rw [drF_no k, drF_no (fun q => k (q.same h.symm))]
    exact SameS.refl _
theorem drQ_same {x : Cd} {xs ys : List Im} (h : SameS xs ys) (r : Int) : pB (DrOkI x ys r) = pB (DrOkI x xs r) := pB_iff
  ⟨fun k => ⟨k.ask.same h.symm, k.new.same (lateS_same (erase_same h _)).symm⟩, fun k => ⟨k.ask.same h, k.new.same (lateS_same (erase_same h _))⟩⟩
theorem ifF_fits {x : Cd} {zs : List Im} (h : ImsFits zs) : ImsFits (ifF x zs) := by
  by_cases k : PgOk x (lateS zs)
  · rw [ifF_yes k]; exact lateS_fits h
  · rw [ifF_no k]; exact ⟨by simp, fun i hi => absurd hi (by simp)⟩
theorem drF_fits {x : Cd} {xs : List Im} (h : ImsFits xs) (r : Int) : ImsFits (drF x xs r) := by
  by_cases k : DrAsk x xs r
  · rw [drF_yes k]
    exact ifF_fits (erase_fits h _ (by have := k.hi; have := k.lo; omega))
  · rw [drF_no k]; exact ⟨by simp, fun i hi => absurd hi (by simp)⟩
set_option maxHeartbeats 2000000 in
theorem sDropItem_any (A L : Option Addr) (c d : Nat) (x : Cd) (P : Option Addr) (c1 : Nat) (xs : List Im) (r : Int) (w : World) (hr : CdAt w A L x) (hl : CdFits x) (hp : Ims w w.heap.size P xs) (hq : ImsFits xs) (hc : xs.length ≤ c1 ∧ c1 ≤ 9223372036854775807) :
    Calls Tryz.prog 22 #[x.val A c L d, .slice P xs.length c1, .int .i64 r] w (ItAns w (drF x xs r) (DrOkI x xs r)) := by
  obtain ⟨W, hW, hB⟩ := boxed 38 w A c L d x
  have HB := Lib.hid hB.below
  have HX := Lib.hid hB.at_
  have HR := Lib.hid (hr.below hB.below)
  have HP := Lib.hid (hp.next hB.below)
  have HL := Lib.hid hl
  have HQ := Lib.hid hq
  have HC := Lib.hid hc
  have hlen := hq.len
  clear hr hl hp hq hB hc
  unfold boxCd at hW
  unfold Cd.val
  go_enter Tryz.func22, Tryz.ntmps22
  obtain ⟨x0, x1, x2, x3, x4, x5⟩ := HX.out.box
  rw [hW] at x0 x1 x2 x3 x4 x5
  go_wp2_with fail
  rw [← hW]
  clear hW x0 x1 x2 x3 x4 x5
  refine (pgGood_any A L c d x P c1 xs W HR.out HL.out HP.out HQ.out).mono ?_
  rintro e w1 ⟨he, hb1⟩
  have HB1 := Lib.hid hb1
  clear hb1
  by_cases hok : PgOk x xs
  · rw [pB_yes hok] at he
    subst he
    have h14 := hok.ask.ls.len
    have hp0 : 0 < xs.length := hok.all 0 (by omega)
    by_cases hrr : 0 ≤ r ∧ r ≤ (xs.length : Int) - 1
    · have HA := Lib.hid (⟨hok, hrr.1, by omega⟩ : DrAsk x xs r)
      obtain ⟨k, rfl⟩ : ∃ k : Nat, r = (k : Int) := ⟨r.toNat, by omega⟩
      have hk : k < xs.length := by omega
      have HV := Lib.hid (drF_yes HA.out)
      have HW := Lib.hid (drQ_yes HA.out)
      rw [Int.toNat_natCast] at HV HW
      have HLS := Lib.hid hok.ask.ls
      obtain ⟨h0, h1⟩ := hrr
      clear hok
      have HD := Lib.hid (below_drew w1)
      go_wp2_with (first | (go_at_call 36; refine (l1In_yes _ _ _ _ h0 h1).mono ?_; rintro e w2 ⟨rfl, rfl⟩) | fail)
      go_region_held3 (fun w' => w'.cell? ⟨w.heap.size, 0, none⟩ = some (.slice A x.els.length c) ∧ w'.cell? ⟨w.heap.size, 1, none⟩ = some (.slice L x.lims.length d) ∧ w'.cell? ⟨w.heap.size, 2, none⟩ = some (.int .i64 x.rep) ∧ w'.cell? ⟨w.heap.size, 3, none⟩ = some (.int .i64 x.bon) ∧ w'.cell? ⟨w.heap.size, 4, none⟩ = some (.int .i64 x.kee) ∧ w'.cell? ⟨w.heap.size, 5, none⟩ = some (.int .i64 x.fal))
        (first | (with_reducible exact box1 (HX.out.next (Below_next HB1.out HD.out))) | (with_reducible exact box1 (HX.out.next HB2.out)) | (with_reducible exact box1 (HX.out.next HB3.out)) | fail)
        (first
          | (go_at_call 53; refine (pgWithout_any P c1 xs k _ (HP.out.next (Below_next HB1.out HD.out)) hk (by omega) HC.out).mono ?_; rintro e w2 ⟨⟨R, dd, rfl, hdd, hi⟩, hb⟩; have HB2 := Lib.hid (Below_next HB1.out (below_next HD.out hb)); have HI := Lib.hid hi; clear hdd hi hb)
          | (go_at_call 37; refine (pgIf_any A L c d x R dd (xs.eraseIdx k) _ (HR.out.below HB2.out) HL.out HI.out (erase_fits HQ.out k hk) (erase_ok HLS.out k hk).near).mono ?_; rintro e w3 hans; obtain ⟨⟨R2, d2, ys, g, G, rfl, hs, ho⟩, hb⟩ := hans; have HB3 := Lib.hid (Below_next HB2.out hb); have HS3 := Lib.hid hs; have HO3 := Lib.hid ho; clear hs ho hb)
          | fail)
      have hs2 := (Below_next HB.out HB2.out).size
      go_wp2
      go_returns
      rw [HV.out]
      exact ⟨⟨R2, d2, ys, g, G, by rw [HW.out]; rfl, HS3.out, HO3.out.mono (fun i hi => ⟨by omega, hi.2⟩)⟩, Below_next HB.out HB3.out⟩
    · have hna : ¬ DrAsk x xs r := fun q => hrr ⟨q.lo, by have := q.hi; omega⟩
      have HV := Lib.hid (drF_no hna)
      have HW := Lib.hid (drQ_no hna)
      clear hok hna
      go_wp2_with (first | (go_at_call 36; refine (l1In_no _ _ _ _ hrr).mono ?_; rintro e w2 ⟨rfl, rfl⟩) | fail)
      go_returns
      exact itAns_no HV.out HW.out (Below_next HB.out HB1.out)
  · rw [pB_no hok] at he
    subst he
    have hna : ¬ DrAsk x xs r := fun q => hok q.ok
    have HV := Lib.hid (drF_no hna)
    have HW := Lib.hid (drQ_no hna)
    clear hok hna
    go_wp2
    go_returns
    exact itAns_no HV.out HW.out (Below_next HB.out HB1.out)

set_option maxHeartbeats 2000000 in
theorem iDropItem_any (A L : Option Addr) (c d : Nat) (x : Cd) (P : Option Addr) (c1 : Nat) (xs : List Im) (r : Int) (w : World) (hr : CdAt w A L x) (hl : CdFits x) (hp : Ims w w.heap.size P xs) (hq : ImsFits xs) (hc : xs.length ≤ c1 ∧ c1 ≤ 9223372036854775807) (ht : Tab w) :
    Calls Tryz.prog 23 #[x.val A c L d, .slice P xs.length c1, .int .i64 r] w (ItAns w (drF x xs r) (DrOkI x xs r)) := by
  obtain ⟨W, hW, hB⟩ := boxed 38 w A c L d x
  have HB := Lib.hid hB.below
  have HX := Lib.hid hB.at_
  have HR := Lib.hid (hr.below hB.below)
  have HP := Lib.hid (hp.next hB.below)
  have HT := Lib.hid (ht.next hB.below)
  have HL := Lib.hid hl
  have HQ := Lib.hid hq
  have HC := Lib.hid hc
  have hlen := hq.len
  clear hr hl hp hq hB hc ht
  unfold boxCd at hW
  unfold Cd.val
  go_enter Tryz.func23, Tryz.ntmps23
  obtain ⟨x0, x1, x2, x3, x4, x5⟩ := HX.out.box
  rw [hW] at x0 x1 x2 x3 x4 x5
  go_wp2_with fail
  rw [← hW]
  clear hW x0 x1 x2 x3 x4 x5
  refine (iIsProgramme_any A L c d x P c1 xs W HR.out HL.out HP.out HQ.out HT.out).mono ?_
  rintro e w1 ⟨he, hb1⟩
  have HB1 := Lib.hid hb1
  clear hb1
  unfold ipV at he
  by_cases hok : PgOk x xs
  · rw [pB_yes hok] at he
    subst he
    have h14 := hok.ask.ls.len
    have hp0 : 0 < xs.length := hok.all 0 (by omega)
    by_cases h0 : 0 ≤ r
    · by_cases h1 : r < xs.length
      · have HA := Lib.hid (⟨hok, h0, h1⟩ : DrAsk x xs r)
        obtain ⟨k, rfl⟩ : ∃ k : Nat, r = (k : Int) := ⟨r.toNat, by omega⟩
        have hk : k < xs.length := by omega
        have HV := Lib.hid (drF_yes HA.out)
        have HW := Lib.hid (drQ_yes HA.out)
        rw [Int.toNat_natCast] at HV HW
        have HLS := Lib.hid hok.ask.ls
        obtain ⟨b, o, rfl, hbl, _⟩ := HP.out.out.im hp0
        clear hok
        have HD := Lib.hid (below_drew w1)
        go_wp2_with fail
        go_region_held3 (fun w' => w'.cell? ⟨w.heap.size, 0, none⟩ = some (.slice A x.els.length c) ∧ w'.cell? ⟨w.heap.size, 1, none⟩ = some (.slice L x.lims.length d) ∧ w'.cell? ⟨w.heap.size, 2, none⟩ = some (.int .i64 x.rep) ∧ w'.cell? ⟨w.heap.size, 3, none⟩ = some (.int .i64 x.bon) ∧ w'.cell? ⟨w.heap.size, 4, none⟩ = some (.int .i64 x.kee) ∧ w'.cell? ⟨w.heap.size, 5, none⟩ = some (.int .i64 x.fal))
          (first | (with_reducible exact box1 (HX.out.next (Below_next HB1.out HD.out))) | (with_reducible exact box1 (HX.out.next HB2.out)) | (with_reducible exact box1 (HX.out.next HB3.out)) | fail)
          (first
            | (go_at_call 54; refine (withoutItem_any b o c1 xs k _ (HP.out.next (Below_next HB1.out HD.out)) hk (by omega) HC.out).mono ?_; rintro e w2 ⟨⟨R, dd, rfl, hdd, hi⟩, hb⟩; have HB2 := Lib.hid (Below_next HB1.out (below_next HD.out hb)); have HI := Lib.hid hi; clear hdd hi hb)
            | (go_at_call 43; refine (lateProgramme_any A L c d x R dd (xs.eraseIdx k) _ (HR.out.below HB2.out) HL.out HI.out (erase_fits HQ.out k hk) (HT.out.next HB2.out)).mono ?_; rintro e w3 hans; obtain ⟨⟨R2, d2, ys, g, G, rfl, hs, ho⟩, hb⟩ := hans; have HB3 := Lib.hid (Below_next HB2.out hb); have HS3 := Lib.hid hs; have HO3 := Lib.hid ho; clear hs ho hb)
            | fail)
        have hs2 := (Below_next HB.out HB2.out).size
        go_wp2
        go_returns
        rw [HV.out]
        exact ⟨⟨R2, d2, ys, g, G, by rw [HW.out]; rfl, HS3.out, HO3.out.mono (fun i hi => ⟨by omega, hi.2⟩)⟩, Below_next HB.out HB3.out⟩
      · have hna : ¬ DrAsk x xs r := fun q => h1 q.hi
        have HV := Lib.hid (drF_no hna)
        have HW := Lib.hid (drQ_no hna)
        have h1' : (xs.length : Int) ≤ r := by omega
        clear hok hna
        go_wp2
        go_returns
        exact itAns_no HV.out HW.out (Below_next HB.out HB1.out)
    · have hna : ¬ DrAsk x xs r := fun q => h0 q.lo
      have HV := Lib.hid (drF_no hna)
      have HW := Lib.hid (drQ_no hna)
      have h0' : r < 0 := by omega
      clear hok hna
      go_wp2
      go_returns
      exact itAns_no HV.out HW.out (Below_next HB.out HB1.out)
  · rw [pB_no hok] at he
    subst he
    have hna : ¬ DrAsk x xs r := fun q => hok q.ok
    have HV := Lib.hid (drF_no hna)
    have HW := Lib.hid (drQ_no hna)
    clear hok hna
    go_wp2
    go_returns
    exact itAns_no HV.out HW.out (Below_next HB.out HB1.out)
end Go.Proofs.YtnlcdfaojcnkpaaGreatDoor
