/- The walk of the law DropElement. -/
import Derived.Test.YtnmnenbmiealbaaDoorCdY
import Derived.Test.YtnmnenbmiealbaaDoorCdW
namespace Go.Proofs.YtnmnenbmiealbaaDoor
open Go.ChangeShapes Go.WideShapes Go.ChangeAt Go.RowKit Go.PlainAid Go.Sort
set_option linter.unusedVariables false

set_option maxHeartbeats 2000000 in
theorem walkDropElement (A : Option Addr) (c : Nat) (L : Option Addr) (d : Nat) (x : Cd) (n : ByteArray) (w : World) (hr : CdAt w A L x) (hl : CdLen x) (hm : n.size ≤ maxLen) (ht : Tab w) :
    Calls Tryd.prog 4 #[x.val A c L d, .string n] w fun e w' => e = .returned (.bool true) ∧ Below w.heap.size w w' := by
  obtain ⟨r, hf⟩ := First.have x.els n
  have HFF := Lib.hid hf
  clear hf
  unfold maxLen at hm
  by_cases hs : n.size ≤ 1048576
  · have hs0 := hs
    obtain ⟨W, hW, hB⟩ := boxed 25 w A c L d x
    have HB0 := Lib.hid hB.below
    have HX0 := Lib.hid hB.at_
    have HR0 := Lib.hid (hr.below hB.below)
    have HT0 := Lib.hid (ht.next hB.below)
    have HL := Lib.hid hl
    clear hr hl ht hB
    unfold boxCd at hW
    unfold Cd.val
    go_enter Tryd.func4, Tryd.ntmps4
    go_wp2_with fail
    rw [← hW]
    clear hW
    refine (szCode_any A L c d x W HR0.out HL.out).mono ?_
    rintro e w1 ⟨⟨q, rfl, hq⟩, hb⟩
    have HB1 := Lib.hid (Below_next HB0.out hb)
    have HX1 := Lib.hid (HX0.out.next hb)
    have HR1 := Lib.hid (HR0.out.below hb)
    have HT1 := Lib.hid (HT0.out.next hb)
    clear HB0 HX0 HR0 HT0
    clear hb
    rcases hq with hq | ⟨hq0, hq1, HF⟩
    · go_wp2
      go_ret
      exact ⟨rfl, HB1.out⟩
    · clear HL
      have HRF := Lib.hid (drR_fits x r)
      obtain ⟨c0, c1, c2, c3, c4, c5⟩ := HX1.out.box
      go_wp2_with fail
      clear c0 c1 c2 c3 c4 c5
      refine (toCode_any A L c d x w1 HR1.out HF.out).mono ?_
      rintro e w2 ⟨⟨ga2, gb2, rfl, hn⟩, hb⟩
      have HB2 := Lib.hid (Below_next HB1.out hb)
      have HX2 := Lib.hid (HX1.out.next hb)
      have HR2 := Lib.hid (HR1.out.below hb)
      have HT2 := Lib.hid (HT1.out.next hb)
      clear HB1 HX1 HR1 HT1
      have HN2 := Lib.hid (hn.at_)
      clear hb
      clear hn
      go_wp2_with fail
      refine (sDrop_any _ _ _ _ x n r w2 HN2.out HF.out HFF.out ⟨Nat.le_refl _, Nat.le_trans HF.out.1.1 (by decide)⟩).mono ?_
      rintro e w3 ⟨⟨A0, c0', L0, d0', p0, q0, rfl, ho, hpq0, hp0, hq0⟩, hb⟩
      have HB3 := Lib.hid (Below_next HB2.out hb)
      have HX3 := Lib.hid (HX2.out.next hb)
      have HR3 := Lib.hid (HR2.out.below hb)
      have HT3 := Lib.hid (HT2.out.next hb)
      clear HB2 HX2 HR2 HT2
      have HA03 := Lib.hid (ho)
      clear hb ho
      obtain ⟨c0, c1, c2, c3, c4, c5⟩ := HX3.out.box
      have cl := HX3.out.lt
      obtain ⟨w4, hW, hB⟩ := boxed 31 w3 A0 c0' L0 d0' (drR x r)
      have hb := hB.below
      have HB4 := Lib.hid (Below_next HB3.out hb)
      have HX4 := Lib.hid (HX3.out.next hb)
      have HR4 := Lib.hid (HR3.out.below hb)
      have HT4 := Lib.hid (HT3.out.next hb)
      have HA04 := Lib.hid (HA03.out.keepB hb)
      clear HB3 HX3 HR3 HT3 HA03
      have HK04 := Lib.hid (hB.at_)
      clear hb hB
      unfold boxCd at hW
      have HR1 := Lib.hid (AtB.mk' HA04.out.at_)
      clear HA04
      have HV04 := HR1
      clear HR1
      have HZ04 := Lib.hid (BoxB.mk' HK04.out)
      clear HK04
      have HS4 := Lib.hid (LawAt.mk' HB4.out HX4.out HR4.out HT4.out)
      clear HB4 HX4 HR4 HT4
      go_wp2_with fail
      rw [← hW]
      clear hW cl
      clear c0 c1 c2 c3 c4 c5
      refine (toCode_any A L c d x w4 HS4.out.at_ HF.out).mono ?_
      rintro e w5 ⟨⟨ga5, gb5, rfl, hn⟩, hb⟩
      have HV05 := Lib.hid (HV04.out.next hb)
      have HZ05 := Lib.hid (HZ04.out.next hb)
      have HS5 := Lib.hid (HS4.out.next hb)
      clear HV04 HZ04 HS4
      have HN5 := Lib.hid (hn.at_)
      have HC5 := Lib.hid (hn.own)
      clear hb
      have hne := hn.ne
      have hge1 := hn.le1
      have hge2 := hn.le2
      have hlt1 := hn.lt1
      have hlt2 := hn.lt2
      clear hn
      obtain ⟨w6, hW, hB⟩ := boxed 31 w5 (some ⟨ga5, 0, none⟩) x.els.length (some ⟨gb5, 0, none⟩) x.lims.length x
      have hb := hB.below
      have HV06 := Lib.hid (HV05.out.next hb)
      have HZ06 := Lib.hid (HZ05.out.next hb)
      have HS6 := Lib.hid (HS5.out.next hb)
      have HN6 := Lib.hid (HN5.out.below hb)
      have HC6 := Lib.hid (HC5.out.keepB hb)
      clear HV05 HZ05 HS5 HN5 HC5
      have HY6 := Lib.hid (hB.at_)
      have hga := Nat.lt_of_lt_of_le hlt1 hb.size
      have hgb := Nat.lt_of_lt_of_le hlt2 hb.size
      clear hb hB hlt1 hlt2
      unfold boxCd at hW
      go_wp2_with fail
      rw [← hW]
      clear hW
      refine (iDrop_any _ _ _ _ x n r w6 HN6.out HF.out HFF.out HS6.out.tab).mono ?_
      rintro e w7 ⟨⟨A1, c1', L1, d1', p1, q1, rfl, ho, hpq1, hp1, hq1⟩, hb⟩
      have HV07 := Lib.hid (HV06.out.next hb)
      have HZ07 := Lib.hid (HZ06.out.next hb)
      have HS7 := Lib.hid (HS6.out.next hb)
      have HN7 := Lib.hid (HN6.out.below hb)
      have HC7 := Lib.hid (HC6.out.keepB hb)
      have HY7 := Lib.hid (HY6.out.next hb)
      clear HV06 HZ06 HS6 HN6 HC6 HY6
      have HA17 := Lib.hid (ho)
      clear hb ho
      obtain ⟨z0, z1, z2, z3, z4, z5⟩ := HZ07.out.box
      have zl := Nat.lt_of_lt_of_le HZ07.out.lt HZ07.out.le
      obtain ⟨w8, hW, hB⟩ := boxed 31 w7 A1 c1' L1 d1' (drR x r)
      have hb := hB.below
      have HV08 := Lib.hid (HV07.out.next hb)
      have HZ08 := Lib.hid (HZ07.out.next hb)
      have HS8 := Lib.hid (HS7.out.next hb)
      have HN8 := Lib.hid (HN7.out.below hb)
      have HC8 := Lib.hid (HC7.out.keepB hb)
      have HY8 := Lib.hid (HY7.out.next hb)
      have HA18 := Lib.hid (HA17.out.keepB hb)
      clear HV07 HZ07 HS7 HN7 HC7 HY7 HA17
      have HK18 := Lib.hid (hB.at_)
      clear hb hB
      unfold boxCd at hW
      go_wp2_with fail
      rw [← hW]
      clear hW zl z0 z1 z2 z3 z4 z5
      refine (eqCode_yes A1 L1 A0 L0 c1' d1' c0' d0' (drR x r) _ HA18.out.at_ HV08.out.at_ HRF.out).mono ?_
      rintro e w9 ⟨rfl, hb⟩
      have HV09 := Lib.hid (HV08.out.next hb)
      have HZ09 := Lib.hid (HZ08.out.next hb)
      have HS9 := Lib.hid (HS8.out.next hb)
      have HN9 := Lib.hid (HN8.out.below hb)
      have HC9 := Lib.hid (HC8.out.keepB hb)
      have HY9 := Lib.hid (HY8.out.next hb)
      have HA19 := Lib.hid (HA18.out.keepB hb)
      have HK19 := Lib.hid (HK18.out.next hb)
      clear HV08 HZ08 HS8 HN8 HC8 HY8 HA18 HK18
      clear hb
      go_wp2_with fail
      have hb := below_drewn w9
      have HV010 := Lib.hid (HV09.out.next hb)
      have HZ010 := Lib.hid (HZ09.out.next hb)
      have HS10 := Lib.hid (HS9.out.next hb)
      have HN10 := Lib.hid (HN9.out.below hb)
      have HC10 := Lib.hid (HC9.out.keepB hb)
      have HY10 := Lib.hid (HY9.out.next hb)
      have HA110 := Lib.hid (HA19.out.keepB hb)
      have HK110 := Lib.hid (HK19.out.next hb)
      clear HV09 HZ09 HS9 HN9 HC9 HY9 HA19 HK19
      clear hb
      go_region_held3 (fun w' => w'.cell? ⟨w.heap.size, 0, none⟩ = some (.slice A x.els.length c) ∧ w'.cell? ⟨w.heap.size, 1, none⟩ = some (.slice L x.lims.length d) ∧ w'.cell? ⟨w.heap.size, 2, none⟩ = some (.int .i64 x.rep) ∧ w'.cell? ⟨w.heap.size, 3, none⟩ = some (.int .i64 x.bon) ∧ w'.cell? ⟨w.heap.size, 4, none⟩ = some (.int .i64 x.kee) ∧ w'.cell? ⟨w.heap.size, 5, none⟩ = some (.int .i64 x.fal) ∧ w'.cell? ⟨w5.heap.size, 0, none⟩ = some (.slice (some ⟨ga5, 0, none⟩) x.els.length x.els.length) ∧ w'.cell? ⟨w5.heap.size, 1, none⟩ = some (.slice (some ⟨gb5, 0, none⟩) x.lims.length x.lims.length) ∧ w'.cell? ⟨w5.heap.size, 2, none⟩ = some (.int .i64 x.rep) ∧ w'.cell? ⟨w5.heap.size, 3, none⟩ = some (.int .i64 x.bon) ∧ w'.cell? ⟨w5.heap.size, 4, none⟩ = some (.int .i64 x.kee) ∧ w'.cell? ⟨w5.heap.size, 5, none⟩ = some (.int .i64 x.fal))
        (first | exact box2 HS10.out.boxAt HY10.out | exact box2 HS11.out.boxAt HY11.out | exact box2 HS12.out.boxAt HY12.out)
        (first
          | (go_at_call 11; refine (toCode_any A L c d x _ HS10.out.at_ HF.out).mono ?_; rintro e w11 ⟨⟨ga11, gb11, rfl, hn⟩, hb⟩; have HV011 := Lib.hid (HV010.out.next hb); have HZ011 := Lib.hid (HZ010.out.next hb); have HS11 := Lib.hid (HS10.out.next hb); have HN11 := Lib.hid (HN10.out.below hb); have HC11 := Lib.hid (HC10.out.keepB hb); have HY11 := Lib.hid (HY10.out.next hb); have HA111 := Lib.hid (HA110.out.keepB hb); have HK111 := Lib.hid (HK110.out.next hb); have HM11 := Lib.hid hn.at_; clear hb hn)
          | (go_at_call 13; refine (eqCode_yes _ _ _ _ _ _ _ _ x _ HN11.out HM11.out HF.out).mono ?_; rintro e w12 ⟨rfl, hb⟩; have HV012 := Lib.hid (HV011.out.next hb); have HZ012 := Lib.hid (HZ011.out.next hb); have HS12 := Lib.hid (HS11.out.next hb); have HN12 := Lib.hid (HN11.out.below hb); have HC12 := Lib.hid (HC11.out.keepB hb); have HY12 := Lib.hid (HY11.out.next hb); have HA112 := Lib.hid (HA111.out.keepB hb); have HK112 := Lib.hid (HK111.out.next hb); clear hb)
          )
      obtain ⟨c0, c1, c2, c3, c4, c5⟩ := HY12.out.box
      go_wp2_with fail
      clear c0 c1 c2 c3 c4 c5
      refine (markCode_any ga5 gb5 _ _ _ _ x _ HC12.out hne HF.out).mono ?_
      rintro e w13 ⟨rfl, _, hk⟩
      have hb := hk.below HS12.out.le (fun i hi => by rcases hi with rfl | rfl; exact hge1; exact hge2)
      have hw0 := HS12.out.lt
      clear HN12 HC12 HY12
      have HV013 := Lib.hid (HV012.out.goB hb)
      have HZ013 := Lib.hid (HZ012.out.goB hb)
      have HS13 := Lib.hid (HS12.out.goB hb)
      have HA113 := Lib.hid (HA112.out.keep hk (by omega) (by omega))
      have HK113 := Lib.hid (HK112.out.only hk (by omega))
      clear HV012 HZ012 HS12 HA112 HK112
      clear hb hk hw0
      obtain ⟨c0, c1, c2, c3, c4, c5⟩ := HK113.out.box
      obtain ⟨z0, z1, z2, z3, z4, z5⟩ := HZ013.out.box
      go_wp2_with fail
      clear c0 c1 c2 c3 c4 c5 z0 z1 z2 z3 z4 z5
      refine (eqCode_yes A1 L1 A0 L0 c1' d1' c0' d0' (drR x r) _ HA113.out.at_ HV013.out.at_ HRF.out).mono ?_
      rintro e w14 ⟨rfl, hb⟩
      have HV014 := Lib.hid (HV013.out.next hb)
      have HZ014 := Lib.hid (HZ013.out.next hb)
      have HS14 := Lib.hid (HS13.out.next hb)
      have HA114 := Lib.hid (HA113.out.keepB hb)
      have HK114 := Lib.hid (HK113.out.next hb)
      clear HV013 HZ013 HS13 HA113 HK113
      clear hb
      obtain ⟨c0, c1, c2, c3, c4, c5⟩ := HK114.out.box
      go_wp2_with fail
      clear c0 c1 c2 c3 c4 c5
      refine (markCode_any p1 q1 _ _ _ _ (drR x r) _ HA114.out hpq1 HRF.out).mono ?_
      rintro e w15 ⟨rfl, ho, hk⟩
      have hb := hk.below HS14.out.le (fun i hi => by rcases hi with rfl | rfl; omega; omega)
      clear HA114
      have HV015 := Lib.hid (HV014.out.goB hb)
      have HZ015 := Lib.hid (HZ014.out.goB hb)
      have HS15 := Lib.hid (HS14.out.goB hb)
      have HK115 := Lib.hid (HK114.out.only hk (by omega))
      clear HV014 HZ014 HS14 HK114
      have HA115 := Lib.hid (ho)
      clear hb hk ho
      obtain ⟨c0, c1, c2, c3, c4, c5⟩ := HK115.out.box
      go_wp2_with fail
      clear c0 c1 c2 c3 c4 c5
      refine (heldCode_any A1 L1 c1' d1' (drR x r).els.length (drR x r).lims.length (marksCd (drR x r) 1) _ HA115.out.at_ rfl rfl HRF.out.1.1 HRF.out.2).mono ?_
      rintro e w16 ⟨rfl, hb⟩
      have HV016 := Lib.hid (HV015.out.next hb)
      have HZ016 := Lib.hid (HZ015.out.next hb)
      have HS16 := Lib.hid (HS15.out.next hb)
      have HK116 := Lib.hid (HK115.out.next hb)
      have HA116 := Lib.hid (HA115.out.keepB hb)
      clear HV015 HZ015 HS15 HK115 HA115
      clear hb
      obtain ⟨c0, c1, c2, c3, c4, c5⟩ := HS16.out.box
      go_wp2_with fail
      clear c0 c1 c2 c3 c4 c5
      refine (toCode_any A L c d x w16 HS16.out.at_ HF.out).mono ?_
      rintro e w17 ⟨⟨ga17, gb17, rfl, hn⟩, hb⟩
      have HV017 := Lib.hid (HV016.out.next hb)
      have HZ017 := Lib.hid (HZ016.out.next hb)
      have HS17 := Lib.hid (HS16.out.next hb)
      have HK117 := Lib.hid (HK116.out.next hb)
      have HA117 := Lib.hid (HA116.out.keepB hb)
      clear HV016 HZ016 HS16 HK116 HA116
      have HN17 := Lib.hid (hn.at_)
      clear hb
      clear hn
      go_wp2_with fail
      refine (iDrop_any _ _ _ _ x n r w17 HN17.out HF.out HFF.out HS17.out.tab).mono ?_
      rintro e w18 ⟨⟨A2, c2', L2, d2', p2, q2, rfl, ho, hpq2, hp2, hq2⟩, hb⟩
      have HV018 := Lib.hid (HV017.out.next hb)
      have HZ018 := Lib.hid (HZ017.out.next hb)
      have HS18 := Lib.hid (HS17.out.next hb)
      have HK118 := Lib.hid (HK117.out.next hb)
      have HA118 := Lib.hid (HA117.out.keepB hb)
      have HN18 := Lib.hid (HN17.out.below hb)
      clear HV017 HZ017 HS17 HK117 HA117 HN17
      have HA218 := Lib.hid (ho)
      clear hb ho
      obtain ⟨z0, z1, z2, z3, z4, z5⟩ := HZ018.out.box
      have zl := Nat.lt_of_lt_of_le HZ018.out.lt HZ018.out.le
      obtain ⟨w19, hW, hB⟩ := boxed 31 w18 A2 c2' L2 d2' (drR x r)
      have hb := hB.below
      have HV019 := Lib.hid (HV018.out.next hb)
      have HZ019 := Lib.hid (HZ018.out.next hb)
      have HS19 := Lib.hid (HS18.out.next hb)
      have HK119 := Lib.hid (HK118.out.next hb)
      have HA119 := Lib.hid (HA118.out.keepB hb)
      have HN19 := Lib.hid (HN18.out.below hb)
      have HA219 := Lib.hid (HA218.out.keepB hb)
      clear HV018 HZ018 HS18 HK118 HA118 HN18 HA218
      have HK219 := Lib.hid (hB.at_)
      clear hb hB
      unfold boxCd at hW
      go_wp2_with fail
      rw [← hW]
      clear hW zl z0 z1 z2 z3 z4 z5
      refine (eqCode_yes A2 L2 A0 L0 c2' d2' c0' d0' (drR x r) _ HA219.out.at_ HV019.out.at_ HRF.out).mono ?_
      rintro e w20 ⟨rfl, hb⟩
      have HV020 := Lib.hid (HV019.out.next hb)
      have HZ020 := Lib.hid (HZ019.out.next hb)
      have HS20 := Lib.hid (HS19.out.next hb)
      have HK120 := Lib.hid (HK119.out.next hb)
      have HA120 := Lib.hid (HA119.out.keepB hb)
      have HA220 := Lib.hid (HA219.out.keepB hb)
      have HK220 := Lib.hid (HK219.out.next hb)
      clear HV019 HZ019 HS19 HK119 HA119 HA219 HK219
      clear hb
      obtain ⟨c0, c1, c2, c3, c4, c5⟩ := HK120.out.box
      go_wp2_with fail
      clear c0 c1 c2 c3 c4 c5
      refine (heldCode_any A1 L1 c1' d1' (drR x r).els.length (drR x r).lims.length (marksCd (drR x r) 1) _ HA120.out.at_ rfl rfl HRF.out.1.1 HRF.out.2).mono ?_
      rintro e w21 ⟨rfl, hb⟩
      have HV021 := Lib.hid (HV020.out.next hb)
      have HZ021 := Lib.hid (HZ020.out.next hb)
      have HS21 := Lib.hid (HS20.out.next hb)
      have HK121 := Lib.hid (HK120.out.next hb)
      have HA121 := Lib.hid (HA120.out.keepB hb)
      have HA221 := Lib.hid (HA220.out.keepB hb)
      have HK221 := Lib.hid (HK220.out.next hb)
      clear HV020 HZ020 HS20 HK120 HA120 HA220 HK220
      clear hb
      go_wp2_with fail
      go_ret
      exact ⟨rfl, HS21.out.bel⟩
  · unfold Cd.val
    go_enter Tryd.func4, Tryd.ntmps4
    go_wp2
    go_ret
    exact ⟨rfl, below_alloc _ _⟩
end Go.Proofs.YtnmnenbmiealbaaDoor
