/- ReplaceGain in the model. -/
import Derived.Test.YtjmdaecjgiafoaaGreatDoorPnK
import Derived.Test.YtjmdaecjgiafoaaGreatDoorBl
import Derived.Test.YtjmdaecjgiafoaaGreatDoorPnB
import Derived.Test.YtjmdaecjgiafoaaGreatDoorPgIf
import Derived.Deep.RegionHeld3
namespace Go.Proofs.YtjmdaecjgiafoaaGreatDoor
open Go.ChangeShapes Go.WideShapes Go.ChangeAt Go.RowKit Go.PlainAid
set_option linter.unusedVariables false

theorem pbI_le {x : Cd} {xs : List Im} (h : BsOk x xs) : -60 ≤ pbI x xs ∧ pbI x xs ≤ 101000 := by
  have h1 := sumB_le h xs.length (Nat.le_refl _)
  have h2 := h.list.len
  unfold pbI
  omega
set_option maxHeartbeats 1000000 in
theorem pnBase_any (A L : Option Addr) (c d : Nat) (x : Cd) (P : Option Addr) (c1 : Nat) (xs : List Im) (w : World) (hr : CdAt w A L x) (hp : Ims w w.heap.size P xs) (hok : BsOk x xs) (hcp : xs.length ≤ c1 ∧ c1 ≤ 9223372036854775807) :
    Calls Tryz.prog 45 #[x.val A c L d, .slice P xs.length c1] w fun e w' => e = .returned (.int .i64 (pbI x xs)) ∧ Below w.heap.size w w' := by
  have HCP := Lib.hid hcp
  clear hcp
  obtain ⟨W, hW, hB⟩ := boxed 32 w A c L d x
  have HB := Lib.hid hB.below
  have HX := Lib.hid hB.at_
  have HR := Lib.hid (hr.below hB.below)
  have HP := Lib.hid (hp.next hB.below)
  have HK := Lib.hid hok
  have h14 := hok.list.len
  clear hr hp hB hok
  unfold boxCd at hW
  unfold Cd.val
  go_enter Tryz.func45, Tryz.ntmps45
  obtain ⟨x0, x1, x2, x3, x4, x5⟩ := HX.out.box
  rw [hW] at x0 x1 x2 x3 x4 x5
  go_wp2_with fail
  rw [← hW]
  clear hW x0 x1 x2 x3 x4 x5
  refine (bsAll_any A L c d x P c1 xs W HR.out HP.out HK.out HCP.out).mono ?_
  rintro e w2 ⟨⟨R, d1, rfl, ho⟩, hb2⟩
  have HB2 := Lib.hid hb2
  have HO := Lib.hid ho.lst
  have HLE := Lib.hid (basTo_len x xs xs.length)
  clear hb2 ho
  go_wp2_with fail
  refine (bsSum_any R d1 (basTo x xs xs.length) w2 HO.out (by have := HLE.out; omega) (fun k hk => by have := HLE.out; have := sumB_le HK.out k (by omega); omega)).mono ?_
  rintro e w3 ⟨rfl, rfl⟩
  have HV := Lib.hid (show sumB (basTo x xs xs.length) (basTo x xs xs.length).length = pbI x xs by rw [HLE.out]; rfl)
  go_wp2
  go_returns
  exact ⟨by rw [HV.out] <;> rfl, Below_next HB.out HB2.out⟩

theorem pg_pB {x : Cd} {xs : List Im} {p : Bool} (h : pB (PgOk x xs) = p) (e : Ending) (he : e = .returned (.bool (pB (PgOk x xs)))) : e = .returned (.bool p) := by rw [← h]; exact he
/-- A code's box is still read. -/
theorem held_box {W w' : World} {b : Nat} {A L : Option Addr} {c d : Nat} {x : Cd} (hX : BoxAt W b A c L d x) (hb : Below W.heap.size W w') :
    w'.cell? ⟨b, 0, none⟩ = some (.slice A x.els.length c) ∧ w'.cell? ⟨b, 1, none⟩ = some (.slice L x.lims.length d) ∧ w'.cell? ⟨b, 2, none⟩ = some (.int .i64 x.rep) ∧ w'.cell? ⟨b, 3, none⟩ = some (.int .i64 x.bon) ∧ w'.cell? ⟨b, 4, none⟩ = some (.int .i64 x.kee) ∧ w'.cell? ⟨b, 5, none⟩ = some (.int .i64 x.fal) := by
  obtain ⟨e0, e1, e2, e3, e4, e5⟩ := (hX.next hb).box
  exact ⟨e0, e1, e2, e3, e4, e5⟩

set_option maxRecDepth 20000 in
set_option maxHeartbeats 8000000 in
theorem sReplaceGain_any (A L : Option Addr) (c d : Nat) (x : Cd) (P : Option Addr) (c1 : Nat) (xs : List Im) (r : Int) (n : ByteArray) (w : World) (hr : CdAt w A L x) (hl : CdFits x) (hp : Ims w w.heap.size P xs) (hq : ImsFits xs) (hcp : xs.length ≤ c1 ∧ c1 ≤ 9223372036854775807) (hn : n.size ≤ 1048576) :
    Calls Tryz.prog 23 #[x.val A c L d, .slice P xs.length c1, .int .i64 r, .string n] w fun e w' => e = .returned (rgV x xs r n) ∧ Below w.heap.size w w' := by
  have HCP := Lib.hid hcp
  clear hcp
  obtain ⟨W, hW, hB⟩ := boxed 32 w A c L d x
  have HB := Lib.hid hB.below
  have HX := Lib.hid hB.at_
  have HR := Lib.hid (hr.below hB.below)
  have HP := Lib.hid (hp.next hB.below)
  have HL := Lib.hid hl
  have HQ := Lib.hid hq
  have HNS := Lib.hid hn
  clear hr hl hp hq hB hn
  unfold boxCd at hW
  unfold Cd.val
  go_enter Tryz.func23, Tryz.ntmps23
  go_wp2_with fail
  rw [← hW]
  clear hW
  have HH := Lib.hid (fun (w' : World) (h : Below W.heap.size W w') => held_box HX.out h)
  have HD := Lib.hid (below_drew W)
  have y0 : ∀ p : GB W, p.w.cell? ⟨w.heap.size, 0, none⟩ = some (.slice A x.els.length c) := fun p => (HH.out p.w p.h).1
  have y1 : ∀ p : GB W, p.w.cell? ⟨w.heap.size, 1, none⟩ = some (.slice L x.lims.length d) := fun p => (HH.out p.w p.h).2.1
  have y2 : ∀ p : GB W, p.w.cell? ⟨w.heap.size, 2, none⟩ = some (.int .i64 x.rep) := fun p => (HH.out p.w p.h).2.2.1
  have y3 : ∀ p : GB W, p.w.cell? ⟨w.heap.size, 3, none⟩ = some (.int .i64 x.bon) := fun p => (HH.out p.w p.h).2.2.2.1
  have y4 : ∀ p : GB W, p.w.cell? ⟨w.heap.size, 4, none⟩ = some (.int .i64 x.kee) := fun p => (HH.out p.w p.h).2.2.2.2.1
  have y5 : ∀ p : GB W, p.w.cell? ⟨w.heap.size, 5, none⟩ = some (.int .i64 x.fal) := fun p => (HH.out p.w p.h).2.2.2.2.2
  have HCG := Lib.hid (fun (p : GB W) => pgGood_any A L c d x P c1 xs p.w (HR.out.below p.h) HL.out (HP.out.next p.h) HQ.out)
  by_cases hok : PgOk x xs
  rotate_left
  · have HV := Lib.hid (show rgV x xs r n = _ from ansV_no (fun h : RgOk x xs r n => hok h.ok))
    rw [pB_no hok] at HCG
    clear hok
    refine wp_region_gb (by kernel_rfl) (by kernel_rfl) ?_
    repeat (quiet_step (first
      | (go_at_call 48; refine calls_gb (HCG.out _))
      | fail))
    refine wpQuiet_nil ?_
    rintro _ ⟨⟨w3, hb3⟩, rfl⟩
    have HE := Lib.hid hb3
    clear hb3
    go_wp2
    go_returns
    exact ⟨by rw [HV.out] <;> rfl, Below_next HB.out HE.out⟩
  have HK := Lib.hid hok
  have h14 := hok.ask.ls.len
  rw [pB_yes hok] at HCG
  have hw1 : IntKind.i64.wrap ((xs.length : Int) - 1) = (xs.length : Int) - 1 := IntWalk.i64_in _ (by omega)
  by_cases hrng : 0 ≤ r ∧ r < xs.length
  rotate_left
  · have HV := Lib.hid (show rgV x xs r n = _ from ansV_no (fun h : RgOk x xs r n => hrng ⟨h.lo, h.hi⟩))
    have HRG := Lib.hid (show ¬ (0 ≤ r ∧ r ≤ (xs.length : Int) - 1) from fun h => hrng ⟨h.1, by omega⟩)
    clear hok hrng
    refine wp_region_gb (by kernel_rfl) (by kernel_rfl) ?_
    repeat (quiet_step (first
      | (go_at_call 48; refine calls_gb (HCG.out _))
      | (go_at_call 56; refine calls_gb_same (l1In_no _ _ _ _ HRG.out))
      | fail))
    refine wpQuiet_nil ?_
    rintro _ ⟨⟨w3, hb3⟩, rfl⟩
    have HE := Lib.hid hb3
    clear hb3
    go_wp2
    go_returns
    exact ⟨by rw [HV.out] <;> rfl, Below_next HB.out HE.out⟩
  obtain ⟨k, rfl⟩ : ∃ k : Nat, r = (k : Int) := ⟨r.toNat, by omega⟩
  have hk : k < xs.length := by omega
  have hk1 : (0 : Int) ≤ (k : Int) := by omega
  have hk2 : (k : Int) ≤ (xs.length : Int) - 1 := by omega
  clear hrng
  by_cases hnm : NameOk n
  rotate_left
  · have HV := Lib.hid (show rgV x xs k n = _ from ansV_no (fun h : RgOk x xs k n => hnm (rpl_name hk h.new)))
    have HNM := Lib.hid (fun (p : GB W) => cdName_any n p.w HNS.out)
    rw [pB_no hnm] at HNM
    clear hok hnm
    refine wp_region_gb (by kernel_rfl) (by kernel_rfl) ?_
    repeat (quiet_step (first
      | (go_at_call 48; refine calls_gb (HCG.out _))
      | (go_at_call 56; refine calls_gb_same (l1In_yes _ _ _ _ hk1 hk2))
      | (go_at_call 57; refine calls_gb_same (HNM.out _))
      | fail))
    refine wpQuiet_nil ?_
    rintro _ ⟨⟨w3, hb3⟩, rfl⟩
    have HE := Lib.hid hb3
    clear hb3
    go_wp2
    go_returns
    exact ⟨by rw [HV.out] <;> rfl, Below_next HB.out HE.out⟩
  have HNM := Lib.hid (fun (v : World) => cdName_any n v HNS.out)
  rw [pB_yes hnm] at HNM
  have HGG := Lib.hid (fun (w' : World) (h : Below W.heap.size W w') => pgGood_any A L c d x P c1 xs w' (HR.out.below h) HL.out (HP.out.next h) HQ.out)
  rw [pB_yes hok] at HGG
  have HNK := Lib.hid hnm
  have HRF := Lib.hid (rpl_fits HQ.out k hk HNS.out)
  have HLT := Lib.hid (late_rpl hok k n hk)
  obtain ⟨bn, hbn⟩ : ∃ bn, pB (PgOk x (rplS xs k n)) = bn := ⟨_, rfl⟩
  have HNEW := Lib.hid hbn
  clear y0 y1 y2 y3 y4 y5 HCG hok hnm hbn
  go_region_held3 (fun w' => w'.cell? ⟨w.heap.size, 0, none⟩ = some (.slice A x.els.length c) ∧ w'.cell? ⟨w.heap.size, 1, none⟩ = some (.slice L x.lims.length d) ∧ w'.cell? ⟨w.heap.size, 2, none⟩ = some (.int .i64 x.rep) ∧ w'.cell? ⟨w.heap.size, 3, none⟩ = some (.int .i64 x.bon) ∧ w'.cell? ⟨w.heap.size, 4, none⟩ = some (.int .i64 x.kee) ∧ w'.cell? ⟨w.heap.size, 5, none⟩ = some (.int .i64 x.fal))
    (first | (with_reducible exact HH.out _ HD.out) | (with_reducible exact HH.out _ HE1.out) | (with_reducible exact HH.out _ HE6.out) | (with_reducible exact HH.out _ HE7.out))
    (first
      | (go_at_call 48; (with_reducible refine (HGG.out _ HD.out).mono ?_); rintro e w4 ⟨rfl, hb⟩; have HE1 := Lib.hid (Below_next HD.out hb); clear hb)
      | (go_at_call 56; refine (l1In_yes _ _ _ _ hk1 hk2).mono ?_; rintro e w5 ⟨rfl, rfl⟩)
      | (go_at_call 57; refine (HNM.out _).mono ?_; rintro e w5 ⟨rfl, rfl⟩)
      | (go_at_call 58; refine (pnReplace_any P c1 xs k n _ (HP.out.next HE1.out) HK.out.ask.ls hk HNK.out).mono ?_; rintro e w6 ⟨⟨R, d6, ys, g, G, rfl, hcap, hs, ho⟩, hb⟩; have HE6 := Lib.hid (Below_next HE1.out hb); have HS6 := Lib.hid (HLT.out.symm.trans hs); have HO6 := Lib.hid ho.ims; have HC6 := Lib.hid hcap; clear hb hs ho hcap)
      | (go_at_call 48; (with_reducible refine (pgGood_any A L c d x R d6 ys _ (HR.out.below HE6.out) HL.out HO6.out (HS6.out.fits HRF.out)).mono ?_); rintro e w7 ⟨he, hb⟩; rw [pgOk_same HS6.out, HNEW.out] at he; subst he; have HE7 := Lib.hid (Below_next HE6.out hb); clear hb)
      | fail)
  all_goals
    have HE8 := Lib.hid (Below_next HE7.out (below_drew w7))
    cases bn with
    | false =>
      have HV := Lib.hid (show rgV x xs k n = _ from ansV_no (fun h : RgOk x xs k n => by have h2 := pB_yes (show PgOk x (rplS xs k n) from h.new); rw [HNEW.out] at h2; cases h2))
      go_wp2
      go_returns
      exact ⟨by rw [HV.out] <;> rfl, Below_next HB.out HE7.out⟩
    | true =>
      have hnew : PgOk x (rplS xs k n) := by
        rcases Classical.em (PgOk x (rplS xs k n)) with q | q
        · exact q
        · have h2 := pB_no q
          rw [HNEW.out] at h2
          cases h2
      have HV := Lib.hid (show rgV x xs k n = _ from ansV_yes ⟨HK.out, hk1, by omega, hnew⟩)
      have HBX := Lib.hid (pg_known HK.out)
      have HBN := Lib.hid (pg_known hnew)
      have hv1 := pbI_le HBX.out
      have hv2 := pbI_le HBN.out
      have hw2 : IntKind.i64.wrap (pbI x (rplS xs k n) - pbI x xs) = pbI x (rplS xs k n) - pbI x xs := IntWalk.i64_in _ (by omega)
      clear hnew
      go_wp2_with fail
      go_region_held3 (fun w' => w'.cell? ⟨w.heap.size, 0, none⟩ = some (.slice A x.els.length c) ∧ w'.cell? ⟨w.heap.size, 1, none⟩ = some (.slice L x.lims.length d) ∧ w'.cell? ⟨w.heap.size, 2, none⟩ = some (.int .i64 x.rep) ∧ w'.cell? ⟨w.heap.size, 3, none⟩ = some (.int .i64 x.bon) ∧ w'.cell? ⟨w.heap.size, 4, none⟩ = some (.int .i64 x.kee) ∧ w'.cell? ⟨w.heap.size, 5, none⟩ = some (.int .i64 x.fal))
        (first | (with_reducible exact HH.out _ HE8.out) | (with_reducible exact HH.out _ HE9.out) | (with_reducible exact HH.out _ HE10.out) | (with_reducible exact HH.out _ HE11.out))
        (first
          | (go_at_call 58; refine (pnReplace_any P c1 xs k n _ (HP.out.next HE8.out) HK.out.ask.ls hk HNK.out).mono ?_; rintro e w9 ⟨⟨R9, d9, zs, g9, G9, rfl, hcap, hs, ho⟩, hb⟩; have HE9 := Lib.hid (Below_next HE8.out hb); have HS9 := Lib.hid (HLT.out.symm.trans hs); have HO9 := Lib.hid ho.ims; have HC9 := Lib.hid hcap; clear hb hs ho hcap)
          | (go_at_call 45; (with_reducible refine (pnBase_any A L c d x R9 d9 zs _ (HR.out.below HE9.out) HO9.out ((bsOk_same HS9.out).1 HBN.out) HC9.out).mono ?_); rintro e w10 ⟨he, hb⟩; rw [← pbI_same HS9.out] at he; subst he; have HE10 := Lib.hid (Below_next HE9.out hb); clear hb)
          | (go_at_call 45; (with_reducible refine (pnBase_any A L c d x P c1 xs _ (HR.out.below HE10.out) (HP.out.next HE10.out) HBX.out HCP.out).mono ?_); rintro e w11 ⟨rfl, hb⟩; have HE11 := Lib.hid (Below_next HE10.out hb); clear hb)
          | fail)
      all_goals
        go_wp2
        go_returns
        exact ⟨by rw [HV.out] <;> rfl, Below_next HB.out HE11.out⟩
end Go.Proofs.YtjmdaecjgiafoaaGreatDoor
