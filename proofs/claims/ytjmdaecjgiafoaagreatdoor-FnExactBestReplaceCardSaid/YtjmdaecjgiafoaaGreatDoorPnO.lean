/- ReplaceGain in the program: the replacement itself. -/
import Derived.Test.YtjmdaecjgiafoaaGreatDoorPnN
namespace Go.Proofs.YtjmdaecjgiafoaaGreatDoor
open Go.ChangeShapes Go.WideShapes Go.ChangeAt Go.RowKit Go.PlainAid
set_option linter.unusedVariables false

noncomputable def goV (x : Cd) (xs : List Im) (k : Nat) (n : ByteArray) : Value := ansV (PgOk x (rplS xs k n)) (rgI x xs k n)
theorem ipV_split (x : Cd) (xs : List Im) : ipV x xs = .tuple #[.bool (pB (PgOk x xs)), .bool (pB (PgAsk x xs))] := rfl
/-- The single item's box: what is stored there. -/
theorem set_one {xs : List Im} {k : Nat} {n : ByteArray} (hk : k < xs.length) (g1 g2 : Nat) : SameS (rplS xs k n) (xs.set k ⟨some ⟨g1, 0, none⟩, 1, some ⟨g2, 0, none⟩, 1, [n], [0], (it xs k).late⟩) := by
  refine ⟨by rw [List.length_set, rplS_len], fun i hi => ?_⟩
  rw [rplS_len] at hi
  rw [it_set _ _ _ _ hk, rplS_it xs k i n hk]
  by_cases e : i = k
  · rw [if_pos e, if_pos e]
    exact ⟨rfl, rfl, rfl⟩
  · rw [if_neg e, if_neg e]
    exact Same.refl _

theorem OneAt.imIn2 {w w1 w2 : World} {n : ByteArray} {g1 g2 : Nat} {l : Bool} (h : OneAt w w1 n g1 g2) (hb : Below w1.heap.size w1 w2) : ImIn w2 w2.heap.size ⟨some ⟨g1, 0, none⟩, 1, some ⟨g2, 0, none⟩, 1, [n], [0], l⟩ := by
  have h1 := h.hi1
  have h2 := h.hi2
  have hs := hb.size
  exact ⟨fun _ => ⟨g1, 0, rfl, by omega, (h.o1.block (hb.block g1 h1)).cell⟩, fun _ => ⟨g2, 0, rfl, by omega, (h.o2.block (hb.block g2 h2)).cell⟩⟩
theorem pbI_sum (x : Cd) (xs : List Im) : sumB (basTo x xs xs.length) (basTo x xs xs.length).length = pbI x xs := by rw [basTo_len]; rfl

set_option maxRecDepth 20000 in
set_option maxHeartbeats 8000000 in
theorem gainOf_any (A L : Option Addr) (c d : Nat) (x : Cd) (P : Option Addr) (c1 : Nat) (xs : List Im) (k : Nat) (n : ByteArray) (w : World) (hr : CdAt w A L x) (hl : CdFits x) (hp : Ims w w.heap.size P xs) (hq : ImsFits xs) (hn : n.size ≤ 1048576) (ht : Tab w) (hok : PgOk x xs) (hk : k < xs.length) :
    Calls Tryz.prog 59 #[x.val A c L d, .slice P xs.length c1, .int .i64 k, .string n] w fun e w' => e = .returned (goV x xs k n) ∧ Below w.heap.size w w' := by
  obtain ⟨W, hW, hB⟩ := boxed 32 w A c L d x
  have HB := Lib.hid hB.below
  have HX := Lib.hid hB.at_
  have HR := Lib.hid (hr.below hB.below)
  have HP := Lib.hid (hp.next hB.below)
  have HT := Lib.hid (ht.next hB.below)
  have HL := Lib.hid hl
  have HQ := Lib.hid hq
  have HNS := Lib.hid hn
  have HK := Lib.hid hok
  have h14 := hok.ask.ls.len
  clear hr hl hp hq hB hn ht hok
  unfold boxCd at hW
  unfold Cd.val
  obtain ⟨b, o, rfl, hbl, hc⟩ := HP.out.out.im (by omega)
  have HLATE := Lib.hid (fun (w' : World) (h : Below W.heap.size W w') => ((hc k hk).below h hbl).c2)
  clear hc
  have q1 : (0 : Int) ≤ (k : Int) := by omega
  have q2 : (k : Int) < (xs.length : Int) := by omega
  go_enter Tryz.func59, Tryz.ntmps59
  go_wp2_with fail
  rw [← hW]
  clear hW
  refine (singleItem_any n W).mono ?_
  rintro e w1 ⟨g1, g2, rfl, h1⟩
  have HO := Lib.hid h1
  have hs1 := h1.below.size
  have hl1 := h1.hi1
  have hl2 := h1.hi2
  have HB1 := Lib.hid (Below_next h1.below (below_alloc w1 (.cells #[.slice (some ⟨g1, 0, none⟩) 1 1, .slice (some ⟨g2, 0, none⟩) 1 1, .bool false] 62)))
  have l0 := HLATE.out _ HB1.out
  clear h1
  go_wp2_with fail
  obtain ⟨Y, hY⟩ : ∃ Y : Im, Y = ⟨some ⟨g1, 0, none⟩, 1, some ⟨g2, 0, none⟩, 1, [n], [0], (it xs k).late⟩ := ⟨_, rfl⟩
  have hbox := imBox_new w1 62 Y
  have hb2 := below_alloc w1 (.cells #[.slice Y.A Y.ns.length Y.c, .slice Y.L Y.ms.length Y.d, .bool Y.late] 62)
  have hs2 : w1.heap.size < (w1.alloc (.cells #[.slice Y.A Y.ns.length Y.c, .slice Y.L Y.ms.length Y.d, .bool Y.late] 62)).heap.size := by simp
  have HSY := Lib.hid (set_one (n := n) hk g1 g2)
  rw [← hY] at HSY
  have HIY := Lib.hid (fun (w' : World) (h : Below w1.heap.size w1 w') => HO.out.imIn2 (l := (it xs k).late) h)
  rw [← hY] at HIY
  rw [show (w1.alloc (.cells #[.slice (some ⟨g1, 0, none⟩) 1 1, .slice (some ⟨g2, 0, none⟩) 1 1, .bool (it xs k).late] 62)) = w1.alloc (.cells #[.slice Y.A Y.ns.length Y.c, .slice Y.L Y.ms.length Y.d, .bool Y.late] 62) by rw [hY] <;> rfl]
  have HYV := Lib.hid (show Y.A = some ⟨g1, 0, none⟩ ∧ Y.ns.length = 1 ∧ Y.c = 1 ∧ Y.L = some ⟨g2, 0, none⟩ ∧ Y.ms.length = 1 ∧ Y.d = 1 from by rw [hY]; exact ⟨rfl, rfl, rfl, rfl, rfl, rfl⟩)
  clear l0 hY
  generalize hw2 : World.alloc w1 _ = w2 at hbox hb2 hs2 ⊢
  have HBOX := Lib.hid hbox
  have HB2' := Lib.hid hb2
  have HB2 := Lib.hid (Below_next HO.out.below hb2)
  clear hw2 hbox hb2 HB1
  refine (cloneIms_any _ c1 xs w2 (HP.out.next HB2.out) (by omega) (by omega)).mono ?_
  rintro e w3 ⟨g, d3, rfl, hcap, hov, hg, hb3⟩
  have HB3' := Lib.hid (Below_next HB2'.out hb3)
  have HB3 := Lib.hid (Below_next HB2.out hb3)
  have HOV := Lib.hid hov
  have HCAP := Lib.hid hcap
  obtain ⟨_, y0, y1, y2⟩ := HBOX.out.next hb3
  obtain ⟨⟨m0, m1, m2⟩, f0, f1, f2⟩ := hov.own.im0 k hk
  have hgl := hov.lt
  have hs23 := HB2.out.size
  have HP4 := Lib.hid (hov.put0 k hk Y (fun w' hw => HIY.out w' (HB3'.out.trans (hw.below HB3'.out.size (fun j e => by omega)))))
  have HB4 := Lib.hid (((HB3.out.setCell (p := ⟨g, k * 3, none⟩) (show W.heap.size ≤ g by omega) (.slice Y.A Y.ns.length Y.c)).setCell (p := ⟨g, k * 3 + 1, none⟩) (show W.heap.size ≤ g by omega) (.slice Y.L Y.ms.length Y.d)).setCell (p := ⟨g, k * 3 + 2, none⟩) (show W.heap.size ≤ g by omega) (.bool Y.late))
  obtain ⟨x0, x1, x2, x3, x4, x5⟩ := (HX.out.next HB4.out).box
  clear hov hcap hb3
  go_wp2_with fail
  clear x0 x1 x2 x3 x4 x5 y0 y1 y2 m0 m1 m2 f0 f1 f2
  generalize hw4 : World.setCell (World.setCell (World.setCell w3 _ _) _ _) _ _ = w4 at HP4 HB4 ⊢
  obtain ⟨ZS, hZS⟩ : ∃ ZS, ZS = xs.set k Y := ⟨_, rfl⟩
  have hzl : ZS.length = xs.length := by rw [hZS, List.length_set]
  rw [← hZS] at HP4 HSY
  have HFZ := Lib.hid (HSY.out.fits (rpl_fits HQ.out k hk HNS.out))
  have hcall := iIsProgramme_any A L c d x (some ⟨g, 0, none⟩) d3 ZS w4 (HR.out.below HB4.out) HL.out HP4.out.ims HFZ.out (HT.out.next HB4.out)
  rw [hzl, ipV_same HSY.out] at hcall
  have HZL := Lib.hid hzl
  clear hzl hZS hw4
  refine hcall.mono ?_
  clear hcall
  rintro e w5 ⟨rfl, hb5⟩
  have HB5 := Lib.hid (Below_next HB4.out hb5)
  have HOV5 := Lib.hid (HP4.out.next hb5)
  rw [ipV_split]
  clear hb5 HP4
  by_cases hnew : PgOk x (rplS xs k n)
  rotate_left
  · have HV := Lib.hid (show goV x xs k n = _ from ansV_no hnew)
    rw [pB_no hnew]
    clear hnew
    go_wp2
    go_returns
    exact ⟨by rw [HV.out] <;> rfl, Below_next HB.out HB5.out⟩
  have HV := Lib.hid (show goV x xs k n = _ from ansV_yes hnew)
  have HBX := Lib.hid (pg_known HK.out)
  have HBN := Lib.hid (pg_known hnew)
  have HBZ := Lib.hid ((bsOk_same HSY.out).1 HBN.out)
  have hv1 := pbI_bound HBX.out
  have hv2 := pbI_bound HBN.out
  have hw2 : IntKind.i64.wrap (pbI x (rplS xs k n) - pbI x xs) = pbI x (rplS xs k n) - pbI x xs := IntWalk.i64_in _ (by omega)
  rw [pB_yes hnew]
  have HHB := Lib.hid (fun (w' : World) (h : Below w5.heap.size w5 w') => show w'.cell? ⟨w.heap.size, 0, none⟩ = some (.slice A x.els.length c) ∧ w'.cell? ⟨w.heap.size, 1, none⟩ = some (.slice L x.lims.length d) ∧ w'.cell? ⟨w.heap.size, 2, none⟩ = some (.int .i64 x.rep) ∧ w'.cell? ⟨w.heap.size, 3, none⟩ = some (.int .i64 x.bon) ∧ w'.cell? ⟨w.heap.size, 4, none⟩ = some (.int .i64 x.kee) ∧ w'.cell? ⟨w.heap.size, 5, none⟩ = some (.int .i64 x.fal) from by
    obtain ⟨e0, e1, e2, e3, e4, e5⟩ := (HX.out.next (Below_next HB5.out h)).box
    exact ⟨e0, e1, e2, e3, e4, e5⟩)
  have HC1 := Lib.hid (fun (w' : World) (h : Below w5.heap.size w5 w') => by
    have q := basesIn_any A L c d x (some ⟨g, 0, none⟩) d3 ZS w' (HR.out.below (Below_next HB5.out h)) HL.out (HOV5.out.next h).ims HBZ.out
    rw [HZL.out] at q
    exact q)
  have HC2 := Lib.hid (fun (w' : World) (h : Below w5.heap.size w5 w') => basesIn_any A L c d x (some ⟨b, o, none⟩) c1 xs w' (HR.out.below (Below_next HB5.out h)) HL.out (HP.out.next (Below_next HB5.out h)) HBX.out)
  have HD := Lib.hid (below_drew w5)
  have HPS := Lib.hid (pbI_same HSY.out (x := x))
  have HS1 := Lib.hid (show sumB (basTo x ZS xs.length) (basTo x ZS xs.length).length = pbI x (rplS xs k n) from by
    have q := pbI_sum x ZS
    rw [HZL.out] at q
    rw [q, HPS.out])
  have HS2 := Lib.hid (pbI_sum x xs)
  have HL1 := Lib.hid (basTo_len x ZS xs.length)
  have HL2 := Lib.hid (basTo_len x xs xs.length)
  have HM1 := Lib.hid (fun (j : Nat) (hj : j ≤ xs.length) => by
    have q := sumB_le HBZ.out j (by rw [HZL.out]; exact hj)
    rw [HZL.out] at q
    exact q)
  have HM2 := Lib.hid (fun (j : Nat) (hj : j ≤ xs.length) => sumB_le HBX.out j hj)
  clear hnew
  go_wp2_with fail
  go_region_held3 (fun w' => w'.cell? ⟨w.heap.size, 0, none⟩ = some (.slice A x.els.length c) ∧ w'.cell? ⟨w.heap.size, 1, none⟩ = some (.slice L x.lims.length d) ∧ w'.cell? ⟨w.heap.size, 2, none⟩ = some (.int .i64 x.rep) ∧ w'.cell? ⟨w.heap.size, 3, none⟩ = some (.int .i64 x.bon) ∧ w'.cell? ⟨w.heap.size, 4, none⟩ = some (.int .i64 x.kee) ∧ w'.cell? ⟨w.heap.size, 5, none⟩ = some (.int .i64 x.fal))
    (first | (with_reducible exact HHB.out _ HD.out) | (with_reducible exact HHB.out _ HEa.out) | (with_reducible exact HHB.out _ HEc.out))
    (first
      | (go_at_call 96; (with_reducible refine (HC1.out _ HD.out).mono ?_); rintro e wa ⟨⟨Ra, da, rfl, ho⟩, hb⟩; have HEa := Lib.hid (Below_next HD.out hb); have HOa := Lib.hid ho.lst; clear hb ho)
      | (go_at_call 80; (with_reducible refine (plainSumB_any Ra da (basTo x ZS xs.length) _ HOa.out (by have := HL1.out; omega) (fun j hj => by have := HL1.out; have := HM1.out j (by omega); omega)).mono ?_); rintro e wb ⟨rfl, rfl⟩; rw [HS1.out])
      | (go_at_call 96; (with_reducible refine (HC2.out _ HEa.out).mono ?_); rintro e wc ⟨⟨Rc, dc, rfl, ho⟩, hb⟩; have HEc := Lib.hid (Below_next HEa.out hb); have HOc := Lib.hid ho.lst; clear hb ho)
      | (go_at_call 80; (with_reducible refine (plainSumB_any Rc dc (basTo x xs xs.length) _ HOc.out (by have := HL2.out; omega) (fun j hj => by have := HL2.out; have := HM2.out j (by omega); omega)).mono ?_); rintro e wd ⟨rfl, rfl⟩; rw [HS2.out])
      | fail)
  all_goals
    go_wp2
    go_returns
    exact ⟨by rw [HV.out] <;> rfl, Below_next HB.out (Below_next HB5.out HEc.out)⟩

set_option maxHeartbeats 2000000 in
theorem iReplaceGain_any (A L : Option Addr) (c d : Nat) (x : Cd) (P : Option Addr) (c1 : Nat) (xs : List Im) (r : Int) (n : ByteArray) (w : World) (hr : CdAt w A L x) (hl : CdFits x) (hp : Ims w w.heap.size P xs) (hq : ImsFits xs) (hn : n.size ≤ 1048576) (ht : Tab w) :
    Calls Tryz.prog 24 #[x.val A c L d, .slice P xs.length c1, .int .i64 r, .string n] w fun e w' => e = .returned (rgV x xs r n) ∧ Below w.heap.size w w' := by
  obtain ⟨W, hW, hB⟩ := boxed 32 w A c L d x
  have HB := Lib.hid hB.below
  have HX := Lib.hid hB.at_
  have HR := Lib.hid (hr.below hB.below)
  have HP := Lib.hid (hp.next hB.below)
  have HT := Lib.hid (ht.next hB.below)
  have HL := Lib.hid hl
  have HQ := Lib.hid hq
  have HNS := Lib.hid hn
  have hlen := hq.len
  clear hr hl hp hq hB hn ht
  unfold boxCd at hW
  unfold Cd.val
  go_enter Tryz.func24, Tryz.ntmps24
  go_wp2_with fail
  rw [← hW]
  clear hW
  refine (iIsProgramme_any A L c d x P c1 xs W HR.out HL.out HP.out HQ.out HT.out).mono ?_
  rintro e w1 ⟨rfl, hb1⟩
  have HB1 := Lib.hid hb1
  clear hb1
  rw [ipV_split]
  by_cases hok : PgOk x xs
  rotate_left
  · have HV := Lib.hid (show rgV x xs r n = _ from ansV_no (fun h : RgOk x xs r n => hok h.ok))
    rw [pB_no hok]
    clear hok
    go_wp2
    go_returns
    exact ⟨by rw [HV.out] <;> rfl, Below_next HB.out HB1.out⟩
  rw [pB_yes hok]
  have HK := Lib.hid hok
  by_cases h0 : 0 ≤ r
  rotate_left
  · have HV := Lib.hid (show rgV x xs r n = _ from ansV_no (fun h : RgOk x xs r n => h0 h.lo))
    have h0' : r < 0 := by omega
    clear hok h0
    go_wp2
    go_returns
    exact ⟨by rw [HV.out] <;> rfl, Below_next HB.out HB1.out⟩
  by_cases h1 : r < xs.length
  rotate_left
  · have HV := Lib.hid (show rgV x xs r n = _ from ansV_no (fun h : RgOk x xs r n => h1 h.hi))
    have h1' : (xs.length : Int) ≤ r := by omega
    clear hok h1
    go_wp2
    go_returns
    exact ⟨by rw [HV.out] <;> rfl, Below_next HB.out HB1.out⟩
  obtain ⟨k, rfl⟩ : ∃ k : Nat, r = (k : Int) := ⟨r.toNat, by omega⟩
  have hk : k < xs.length := by omega
  have HV := Lib.hid (show rgV x xs k n = goV x xs k n from ansV_congr ⟨fun h => h.new, fun h => ⟨hok, h0, h1, h⟩⟩ (fun _ => rfl))
  obtain ⟨ga, gb, hform⟩ := ansV_form (PgOk x (rplS xs k n)) (rgI x xs k n)
  have HF := Lib.hid (show goV x xs k n = _ from hform)
  obtain ⟨x0, x1, x2, x3, x4, x5⟩ := (HX.out.next HB1.out).box
  clear hok hform
  go_wp2_with (first | (go_at_call 59; refine (gainOf_any A L c d x P c1 xs k n _ (HR.out.below HB1.out) HL.out (HP.out.next HB1.out) HQ.out HNS.out (HT.out.next HB1.out) HK.out hk).mono ?_; rintro e w2 ⟨he, hb⟩; rw [HF.out] at he; subst he; have HB2 := Lib.hid (Below_next HB1.out hb); clear hb))
  go_returns
  exact ⟨by rw [HV.out, HF.out] <;> rfl, Below_next HB.out HB2.out⟩
end Go.Proofs.YtjmdaecjgiafoaaGreatDoor
