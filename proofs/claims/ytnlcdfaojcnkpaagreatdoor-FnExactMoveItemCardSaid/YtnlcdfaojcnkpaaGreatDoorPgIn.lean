/- InsertItem, in the model and in the program. -/
import Derived.Test.YtnlcdfaojcnkpaaGreatDoorPgDr
namespace Go.Proofs.YtnlcdfaojcnkpaaGreatDoor
open Go.ChangeShapes Go.WideShapes Go.ChangeAt Go.RowKit Go.PlainAid
set_option linter.unusedVariables false

structure InAsk (x : Cd) (xs : List Im) (r : Int) (y : Im) : Prop where
  ok : PgOk x xs
  it : ItOk y.ns y.ms
  lo : 0 ≤ r
  hi : r ≤ xs.length
structure InOk (x : Cd) (xs : List Im) (r : Int) (y : Im) : Prop where
  ask : InAsk x xs r y
  new : PgOk x (lateS (ins xs r.toNat y))
noncomputable def inF (x : Cd) (xs : List Im) (r : Int) (y : Im) : List Im := @ite _ (InAsk x xs r y) (Classical.propDecidable _) (ifF x (ins xs r.toNat y)) []
theorem inF_yes {x : Cd} {xs : List Im} {r : Int} {y : Im} (h : InAsk x xs r y) : inF x xs r y = ifF x (ins xs r.toNat y) := by unfold inF; exact @if_pos _ (Classical.propDecidable _) h _ _ _
theorem inF_no {x : Cd} {xs : List Im} {r : Int} {y : Im} (h : ¬ InAsk x xs r y) : inF x xs r y = [] := by unfold inF; exact @if_neg _ (Classical.propDecidable _) h _ _ _
theorem inQ_yes {x : Cd} {xs : List Im} {r : Int} {y : Im} (h : InAsk x xs r y) : pB (InOk x xs r y) = pB (PgOk x (lateS (ins xs r.toNat y))) := pB_iff ⟨fun q => q.new, fun q => ⟨h, q⟩⟩
theorem inQ_no {x : Cd} {xs : List Im} {r : Int} {y : Im} (h : ¬ InAsk x xs r y) : pB (InOk x xs r y) = false := pB_no (fun q => h q.ask)
theorem ins_fits {xs : List Im} {y : Im} (h : ImsFits xs) (hs : xs.length ≤ 1048575) (hy : ItFits y) (k : Nat) (hk : k ≤ xs.length) : ImsFits (ins xs k y) := ⟨by rw [ins_len xs k y hk]; omega, fun i hi => by
  rw [ins_len xs k y hk] at hi
  rw [it_ins xs k y hk]
  by_cases h1 : i < k
  · rw [if_pos h1]; exact h.each i (by omega)
  · rw [if_neg h1]
    by_cases h2 : i = k
    · rw [if_pos h2]; exact hy
    · rw [if_neg h2]; exact h.each (i - 1) (by omega)⟩
theorem ins_near {xs : List Im} {y : Im} (h : ListOk xs) (hy : ItOk y.ns y.ms) (k : Nat) (hk : k ≤ xs.length) : Near (ins xs k y) := ⟨by rw [ins_len xs k y hk]; have := h.len; omega, fun i hi => by
  rw [ins_len xs k y hk] at hi
  rw [it_ins xs k y hk]
  by_cases h1 : i < k
  · rw [if_pos h1]; exact h.each i (by omega)
  · rw [if_neg h1]
    by_cases h2 : i = k
    · rw [if_pos h2]; exact hy
    · rw [if_neg h2]; exact h.each (i - 1) (by omega)⟩
theorem ins_same {xs ys : List Im} {y z : Im} (h : SameS xs ys) (hy : Same y z) (k : Nat) (hk : k ≤ xs.length) : SameS (ins xs k y) (ins ys k z) := by
  have hl := h.len
  refine ⟨by rw [ins_len _ _ _ hk, ins_len _ _ _ (by omega), hl], fun i hi => ?_⟩
  rw [ins_len _ _ _ hk] at hi
  rw [it_ins _ _ _ hk, it_ins _ _ _ (by omega)]
  by_cases h1 : i < k
  · rw [if_pos h1, if_pos h1]; exact h.each i (by omega)
  · rw [if_neg h1, if_neg h1]
    by_cases h2 : i = k
    · rw [if_pos h2, if_pos h2]; exact hy
    · rw [if_neg h2, if_neg h2]; exact h.each (i - 1) (by omega)
theorem InAsk.same {x : Cd} {xs ys : List Im} {r : Int} {y z : Im} (h : SameS xs ys) (hy : Same y z) (k : InAsk x xs r y) : InAsk x ys r z := ⟨k.ok.same h, by rw [hy.ns, hy.ms]; exact k.it, k.lo, by have := h.len; have := k.hi; omega⟩
theorem inF_same {x : Cd} {xs ys : List Im} {y z : Im} (h : SameS xs ys) (hy : Same y z) (r : Int) : SameS (inF x xs r y) (inF x ys r z) := by
  by_cases k : InAsk x xs r y
  · rw [inF_yes k, inF_yes (k.same h hy)]
    exact ifF_same (ins_same h hy _ (by have := k.hi; have := k.lo; omega))
  · rw [inF_no k, inF_no (fun q => k (q.same h.symm hy.symm))]
    exact SameS.refl _
theorem inQ_same {x : Cd} {xs ys : List Im} {y z : Im} (h : SameS xs ys) (hy : Same y z) (r : Int) : pB (InOk x ys r z) = pB (InOk x xs r y) := pB_iff
  ⟨fun k => ⟨k.ask.same h.symm hy.symm, k.new.same (lateS_same (ins_same h hy _ (by have := h.len; have := k.ask.hi; have := k.ask.lo; omega))).symm⟩, fun k => ⟨k.ask.same h hy, k.new.same (lateS_same (ins_same h hy _ (by have := k.ask.hi; have := k.ask.lo; omega)))⟩⟩
theorem inF_fits {x : Cd} {xs : List Im} {y : Im} (h : ImsFits xs) (hy : ItFits y) (r : Int) : ImsFits (inF x xs r y) := by
  by_cases k : InAsk x xs r y
  · rw [inF_yes k]
    exact ifF_fits (ins_fits h (by have := k.ok.ask.ls.len; omega) hy _ (by have := k.hi; have := k.lo; omega))
  · rw [inF_no k]; exact ⟨by simp, fun i hi => absurd hi (by simp)⟩

set_option maxHeartbeats 2000000 in
theorem sInsertItem_any (A L : Option Addr) (c d : Nat) (x : Cd) (P : Option Addr) (c1 : Nat) (xs : List Im) (r : Int) (y : Im) (w : World) (hr : CdAt w A L x) (hl : CdFits x) (hp : Ims w w.heap.size P xs) (hq : ImsFits xs) (hc : xs.length ≤ c1 ∧ c1 ≤ 9223372036854775807) (hy : ImIn w w.heap.size y) (hz : ItFits y) :
    Calls Tryz.prog 10 #[x.val A c L d, .slice P xs.length c1, .int .i64 r, y.val] w (ItAns w (inF x xs r y) (InOk x xs r y)) := by
  obtain ⟨V, W, hV, hW, hb, hX, hY, hs⟩ := boxed2 38 41 w A c L d x y
  have HB := Lib.hid hb
  have HH := Lib.hid (fun (w' : World) (k : Below W.heap.size W w') => two_boxes hX hY k)
  have HR := Lib.hid (hr.below hb)
  have HP := Lib.hid (hp.next hb)
  have HY := Lib.hid (hy.next hb)
  have HL := Lib.hid hl
  have HQ := Lib.hid hq
  have HC := Lib.hid hc
  have HZ := Lib.hid hz
  have hlen := hq.len
  clear hr hl hp hq hb hc hy hz hX hY hs
  unfold boxCd at hV
  unfold boxIm at hW
  unfold Cd.val Im.val
  go_enter Tryz.func10, Tryz.ntmps10
  go_wp2_with fail
  rw [← hV, ← hW]
  clear hV hW
  refine (pgGood_any A L c d x P c1 xs W HR.out HL.out HP.out HQ.out).mono ?_
  rintro e w1 ⟨he, hb1⟩
  have HB1 := Lib.hid hb1
  clear hb1
  by_cases hok : PgOk x xs
  · rw [pB_yes hok] at he
    subst he
    have h14 := hok.ask.ls.len
    have hp0 : 0 < xs.length := hok.all 0 (by omega)
    obtain ⟨x0, x1, x2, x3, x4, x5, y0, y1, y2⟩ := HH.out _ HB1.out
    go_wp2_with fail
    clear x0 x1 x2 x3 x4 x5 y0 y1 y2
    refine (itGood_any y w1 (HY.out.next HB1.out) HZ.out).mono ?_
    rintro e w2 ⟨he, hb2⟩
    have HB2 := Lib.hid (Below_next HB1.out hb2)
    clear hb2
    by_cases hit : ItOk y.ns y.ms
    · rw [pB_yes hit] at he
      subst he
      by_cases hrr : 0 ≤ r ∧ r ≤ (xs.length : Int)
      · have HA := Lib.hid (⟨hok, hit, hrr.1, hrr.2⟩ : InAsk x xs r y)
        obtain ⟨k, rfl⟩ : ∃ k : Nat, r = (k : Int) := ⟨r.toNat, by omega⟩
        have hk : k ≤ xs.length := by omega
        have HV := Lib.hid (inF_yes HA.out)
        have HW := Lib.hid (inQ_yes HA.out)
        rw [Int.toNat_natCast] at HV HW
        have HLS := Lib.hid (ins_near hok.ask.ls hit k hk)
        obtain ⟨h0, h1⟩ := hrr
        obtain ⟨b, o, rfl, hbl, _⟩ := HP.out.out.im hp0
        clear hok hit
        have HD := Lib.hid (below_drew w2)
        go_wp2_with (first | (go_at_call 36; refine (l1In_yes _ _ _ _ h0 h1).mono ?_; rintro e w2 ⟨rfl, rfl⟩) | fail)
        go_region_held3 (fun w' => w'.cell? ⟨w.heap.size, 0, none⟩ = some (.slice A x.els.length c) ∧ w'.cell? ⟨w.heap.size, 1, none⟩ = some (.slice L x.lims.length d) ∧ w'.cell? ⟨w.heap.size, 2, none⟩ = some (.int .i64 x.rep) ∧ w'.cell? ⟨w.heap.size, 3, none⟩ = some (.int .i64 x.bon) ∧ w'.cell? ⟨w.heap.size, 4, none⟩ = some (.int .i64 x.kee) ∧ w'.cell? ⟨w.heap.size, 5, none⟩ = some (.int .i64 x.fal) ∧ w'.cell? ⟨w.heap.size + 1, 0, none⟩ = some (.slice y.A y.ns.length y.c) ∧ w'.cell? ⟨w.heap.size + 1, 1, none⟩ = some (.slice y.L y.ms.length y.d) ∧ w'.cell? ⟨w.heap.size + 1, 2, none⟩ = some (.bool y.late))
          (first | (with_reducible exact HH.out _ (Below_next HB2.out HD.out)) | (with_reducible exact HH.out _ HB3.out) | (with_reducible exact HH.out _ HB4.out) | fail)
          (first
            | (go_at_call 38; refine (pgInsert_some b o c1 xs k y _ (HP.out.next (Below_next HB2.out HD.out)) (HY.out.next (Below_next HB2.out HD.out)) hk h14 HC.out).mono ?_; rintro e w3 ⟨⟨R, dd, rfl, hdd, hi⟩, hb⟩; have HB3 := Lib.hid (Below_next HB2.out (below_next HD.out hb)); have HI := Lib.hid hi; clear hdd hi hb)
            | (go_at_call 37; refine (pgIf_any A L c d x R dd (ins xs k y) _ (HR.out.below HB3.out) HL.out HI.out (ins_fits HQ.out (by omega) HZ.out k hk) HLS.out).mono ?_; rintro e w4 hans; obtain ⟨⟨R2, d2, ys, g, G, rfl, hs, ho⟩, hb⟩ := hans; have HB4 := Lib.hid (Below_next HB3.out hb); have HS4 := Lib.hid hs; have HO4 := Lib.hid ho; clear hs ho hb)
            | fail)
        have hs2 := (Below_next HB.out HB3.out).size
        go_wp2
        go_returns
        rw [HV.out]
        exact ⟨⟨R2, d2, ys, g, G, by rw [HW.out]; rfl, HS4.out, HO4.out.mono (fun i hi => ⟨by omega, hi.2⟩)⟩, Below_next HB.out HB4.out⟩
      · have hna : ¬ InAsk x xs r y := fun q => hrr ⟨q.lo, q.hi⟩
        have HV := Lib.hid (inF_no hna)
        have HW := Lib.hid (inQ_no hna)
        clear hok hna hit
        go_wp2_with (first | (go_at_call 36; refine (l1In_no _ _ _ _ hrr).mono ?_; rintro e w2 ⟨rfl, rfl⟩) | fail)
        go_returns
        exact itAns_no HV.out HW.out (Below_next HB.out HB2.out)
    · rw [pB_no hit] at he
      subst he
      have hna : ¬ InAsk x xs r y := fun q => hit q.it
      have HV := Lib.hid (inF_no hna)
      have HW := Lib.hid (inQ_no hna)
      clear hok hna hit
      go_wp2
      go_returns
      exact itAns_no HV.out HW.out (Below_next HB.out HB2.out)
  · rw [pB_no hok] at he
    subst he
    have hna : ¬ InAsk x xs r y := fun q => hok q.ok
    have HV := Lib.hid (inF_no hna)
    have HW := Lib.hid (inQ_no hna)
    clear hok hna
    go_wp2
    go_returns
    exact itAns_no HV.out HW.out (Below_next HB.out HB1.out)

/-- What is made of a list that is no list of valid items is no programme. -/
theorem ins_bad {x : Cd} {xs : List Im} {y : Im} (k : Nat) (hk : k ≤ xs.length) (hit : ¬ ItOk y.ns y.ms) : ¬ PgOk x (lateS (ins xs k y)) := fun q => by
  have h := lateS_ok.1 q.ask.ls
  have := h.each k (by rw [ins_len xs k y hk]; omega)
  rw [it_ins xs k y hk, if_neg (by omega), if_pos rfl] at this
  exact hit this
set_option maxHeartbeats 2000000 in
theorem iInsertItem_any (A L : Option Addr) (c d : Nat) (x : Cd) (P : Option Addr) (c1 : Nat) (xs : List Im) (r : Int) (y : Im) (w : World) (hr : CdAt w A L x) (hl : CdFits x) (hp : Ims w w.heap.size P xs) (hq : ImsFits xs) (hc : xs.length ≤ c1 ∧ c1 ≤ 9223372036854775807) (hy : ImIn w w.heap.size y) (hz : ItFits y) (ht : Tab w) :
    Calls Tryz.prog 14 #[x.val A c L d, .slice P xs.length c1, .int .i64 r, y.val] w (ItAns w (inF x xs r y) (InOk x xs r y)) := by
  obtain ⟨V, W, hV, hW, hb, hX, hY, hs⟩ := boxed2 38 41 w A c L d x y
  have HB := Lib.hid hb
  have HH := Lib.hid (fun (w' : World) (k : Below W.heap.size W w') => two_boxes hX hY k)
  have HR := Lib.hid (hr.below hb)
  have HP := Lib.hid (hp.next hb)
  have HY := Lib.hid (hy.next hb)
  have HT := Lib.hid (ht.next hb)
  have HL := Lib.hid hl
  have HQ := Lib.hid hq
  have HC := Lib.hid hc
  have HZ := Lib.hid hz
  have hlen := hq.len
  clear hr hl hp hq hb hc hy hz hX hY hs ht
  unfold boxCd at hV
  unfold boxIm at hW
  unfold Cd.val Im.val
  go_enter Tryz.func14, Tryz.ntmps14
  go_wp2_with fail
  rw [← hV, ← hW]
  clear hV hW
  refine (iIsProgramme_any A L c d x P c1 xs W HR.out HL.out HP.out HQ.out HT.out).mono ?_
  rintro e w1 ⟨he, hb1⟩
  have HB1 := Lib.hid hb1
  clear hb1
  unfold ipV at he
  by_cases hok : PgOk x xs
  · rw [pB_yes hok] at he
    subst he
    have h14 := hok.ask.ls.len
    have hp0 : 0 < xs.length := hok.all 0 (by omega)
    by_cases h0 : 0 ≤ r
    · by_cases h1 : r ≤ (xs.length : Int)
      · obtain ⟨k, rfl⟩ : ∃ k : Nat, r = (k : Int) := ⟨r.toNat, by omega⟩
        have hk : k ≤ xs.length := by omega
        have HVW : Hid (inF x xs k y = ifF x (ins xs k y)) ∧ Hid (pB (InOk x xs k y) = pB (PgOk x (lateS (ins xs k y)))) := by
          by_cases hit : ItOk y.ns y.ms
          · have ha : InAsk x xs k y := ⟨hok, hit, h0, h1⟩
            have h2 := inF_yes ha
            have h3 := inQ_yes ha
            rw [Int.toNat_natCast] at h2 h3
            exact ⟨Lib.hid h2, Lib.hid h3⟩
          · have ha : ¬ InAsk x xs k y := fun q => hit q.it
            have h4 := ins_bad (x := x) k hk hit
            exact ⟨Lib.hid (by rw [inF_no ha, ifF_no h4]), Lib.hid (by rw [inQ_no ha, pB_no h4])⟩
        obtain ⟨HV, HW⟩ := HVW
        obtain ⟨b, o, rfl, hbl, _⟩ := HP.out.out.im hp0
        clear hok
        have HD := Lib.hid (below_drew w1)
        go_wp2_with fail
        go_region_held3 (fun w' => w'.cell? ⟨w.heap.size, 0, none⟩ = some (.slice A x.els.length c) ∧ w'.cell? ⟨w.heap.size, 1, none⟩ = some (.slice L x.lims.length d) ∧ w'.cell? ⟨w.heap.size, 2, none⟩ = some (.int .i64 x.rep) ∧ w'.cell? ⟨w.heap.size, 3, none⟩ = some (.int .i64 x.bon) ∧ w'.cell? ⟨w.heap.size, 4, none⟩ = some (.int .i64 x.kee) ∧ w'.cell? ⟨w.heap.size, 5, none⟩ = some (.int .i64 x.fal) ∧ w'.cell? ⟨w.heap.size + 1, 0, none⟩ = some (.slice y.A y.ns.length y.c) ∧ w'.cell? ⟨w.heap.size + 1, 1, none⟩ = some (.slice y.L y.ms.length y.d) ∧ w'.cell? ⟨w.heap.size + 1, 2, none⟩ = some (.bool y.late))
          (first | (with_reducible exact HH.out _ (Below_next HB1.out HD.out)) | (with_reducible exact HH.out _ HB3.out) | (with_reducible exact HH.out _ HB4.out) | fail)
          (first
            | (go_at_call 44; refine (withItem_some b o c1 xs k y _ (HP.out.next (Below_next HB1.out HD.out)) (HY.out.next (Below_next HB1.out HD.out)) hk h14 HC.out).mono ?_; rintro e w3 ⟨⟨R, dd, rfl, hdd, hi⟩, hb⟩; have HB3 := Lib.hid (Below_next HB1.out (below_next HD.out hb)); have HI := Lib.hid hi; clear hdd hi hb)
            | (go_at_call 43; refine (lateProgramme_any A L c d x R dd (ins xs k y) _ (HR.out.below HB3.out) HL.out HI.out (ins_fits HQ.out (by omega) HZ.out k hk) (HT.out.next HB3.out)).mono ?_; rintro e w4 hans; obtain ⟨⟨R2, d2, ys, g, G, rfl, hs, ho⟩, hb⟩ := hans; have HB4 := Lib.hid (Below_next HB3.out hb); have HS4 := Lib.hid hs; have HO4 := Lib.hid ho; clear hs ho hb)
            | fail)
        have hs2 := (Below_next HB.out HB3.out).size
        go_wp2
        go_returns
        rw [HV.out]
        exact ⟨⟨R2, d2, ys, g, G, by rw [HW.out]; rfl, HS4.out, HO4.out.mono (fun i hi => ⟨by omega, hi.2⟩)⟩, Below_next HB.out HB4.out⟩
      · have hna : ¬ InAsk x xs r y := fun q => h1 q.hi
        have HV := Lib.hid (inF_no hna)
        have HW := Lib.hid (inQ_no hna)
        have h1' : (xs.length : Int) < r := by omega
        clear hok hna
        go_wp2
        go_returns
        exact itAns_no HV.out HW.out (Below_next HB.out HB1.out)
    · have hna : ¬ InAsk x xs r y := fun q => h0 q.lo
      have HV := Lib.hid (inF_no hna)
      have HW := Lib.hid (inQ_no hna)
      have h0' : r < 0 := by omega
      clear hok hna
      go_wp2
      go_returns
      exact itAns_no HV.out HW.out (Below_next HB.out HB1.out)
  · rw [pB_no hok] at he
    subst he
    have hna : ¬ InAsk x xs r y := fun q => hok q.ok
    have HV := Lib.hid (inF_no hna)
    have HW := Lib.hid (inQ_no hna)
    clear hok hna
    go_wp2
    go_returns
    exact itAns_no HV.out HW.out (Below_next HB.out HB1.out)
end Go.Proofs.YtnlcdfaojcnkpaaGreatDoor
