/- The walk of the law AddElement. -/
import Derived.Test.YtmncigeelfappaaDoorCdK
import Derived.Test.YtmncigeelfappaaDoorCdU
import Derived.Deep.CutBlock
import Derived.Deep.DeepCutAuto
namespace Go.Proofs.YtmncigeelfappaaDoor
open Go.ChangeShapes Go.WideShapes Go.ChangeAt Go.RowKit Go.PlainAid Go.Sort
set_option linter.unusedVariables false

set_option maxRecDepth 20000 in
set_option maxHeartbeats 4000000 in
theorem walkAddElement (A : Option Addr) (c : Nat) (L : Option Addr) (d : Nat) (x : Cd) (y : El) (w : World) (hr : CdAt w A L x) (hl : CdLen x) (hm : y.name.size ≤ maxLen) (ht : Tab w) :
    Calls Tryd.prog 8 #[x.val A c L d, y.val] w fun e w' => e = .returned (.bool true) ∧ Below w.heap.size w w' := by
  obtain ⟨r, hi⟩ := InsP.have x.els y.name
  have HIN := Lib.hid hi
  clear hi
  unfold maxLen at hm
  obtain ⟨V0, hV, hB⟩ := boxed 25 w A c L d x
  obtain ⟨W, hW, hE⟩ := boxedE 45 V0 y (w.heap.size + 1) hB.size
  have HB0 := Lib.hid (Below_next hB.below hE.1)
  have HX0 := Lib.hid (hB.at_.next hE.1)
  have HR0 := Lib.hid ((hr.below hB.below).below hE.1)
  have HT0 := Lib.hid ((ht.next hB.below).next hE.1)
  have HE0 := Lib.hid hE.2
  have HL := Lib.hid hl
  clear hr hl ht hB hE
  unfold boxCd at hV
  unfold boxEl at hW
  unfold Cd.val El.val
  go_enter Tryd.func8, Tryd.ntmps8
  go_wp2_with fail
  rw [← hV, ← hW]
  clear hW hV
  refine (szCode_any A L c d x W HR0.out HL.out).mono ?_
  rintro e w1 ⟨⟨q, rfl, hq⟩, hb⟩
  have HB1 := Lib.hid (Below_next HB0.out hb)
  have HX1 := Lib.hid (HX0.out.next hb)
  have HR1 := Lib.hid (HR0.out.below hb)
  have HT1 := Lib.hid (HT0.out.next hb)
  have HE1 := Lib.hid (HE0.out.next hb)
  clear HB0 HX0 HR0 HT0 HE0
  clear hb
  rcases hq with hq | ⟨hq0, hq1, HF⟩
  · go_wp2
    go_ret
    exact ⟨rfl, HB1.out⟩
  · clear HL
    obtain ⟨e0, e1, e2, e3⟩ := HE1.out.at_
    simp only [Nat.zero_add] at e1 e2 e3
    go_wp2_with fail
    clear e0 e1 e2 e3
    refine (szElement_any y q w1 hq0 hq1 hm).mono ?_
    rintro e w2 ⟨⟨q2, rfl, hp⟩, hb⟩
    have HB2 := Lib.hid (Below_next HB1.out hb)
    have HX2 := Lib.hid (HX1.out.next hb)
    have HR2 := Lib.hid (HR1.out.below hb)
    have HT2 := Lib.hid (HT1.out.next hb)
    have HE2 := Lib.hid (HE1.out.next hb)
    clear HB1 HX1 HR1 HT1 HE1
    clear hb
    rcases hp with hp | ⟨hp0, hp1, hp2⟩
    · go_wp2
      go_ret
      exact ⟨rfl, HB2.out⟩
    · have HYN := Lib.hid hp2
      have HRF := Lib.hid (adR_fits x y r)
      go_upto_region 8 with fail
      go_cut [6, 7] (fun u6 u7 wx => ∃ g A0 c0' L0 d0' p0 q0, u6 = .pointer (some ⟨g, 0, none⟩) ∧ u7 = .bool (pB (AdOk x y r)) ∧ Hid (AnsBox w2 wx g A0 c0' L0 d0' p0 q0 (adR x y r)))
      case first =>
        have LX := Lib.hid (HX2.out)
        have LE := Lib.hid (HE2.out)
        have LT := Lib.hid (HT2.out)
        have LR := Lib.hid (HR2.out)
        go_region_held3 (fun w' => w'.cell? ⟨w.heap.size, 0, none⟩ = some (.slice A x.els.length c) ∧ w'.cell? ⟨w.heap.size, 1, none⟩ = some (.slice L x.lims.length d) ∧ w'.cell? ⟨w.heap.size, 2, none⟩ = some (.int .i64 x.rep) ∧ w'.cell? ⟨w.heap.size, 3, none⟩ = some (.int .i64 x.bon) ∧ w'.cell? ⟨w.heap.size, 4, none⟩ = some (.int .i64 x.kee) ∧ w'.cell? ⟨w.heap.size, 5, none⟩ = some (.int .i64 x.fal) ∧ w'.cell? ⟨w.heap.size + 1, 0, none⟩ = some (.string y.name) ∧ w'.cell? ⟨w.heap.size + 1, 1, none⟩ = some (.int .i64 y.fam) ∧ w'.cell? ⟨w.heap.size + 1, 2, none⟩ = some (.int .i64 y.lev) ∧ w'.cell? ⟨w.heap.size + 1, 3, none⟩ = some (.int .i64 y.base))
          (first | (with_reducible exact keepP LX3.out LE3.out LM3.out (Nat.ne_of_lt (Nat.lt_of_lt_of_le LX.out.lt LM3.out.lo)) (Nat.ne_of_lt (Nat.lt_of_lt_of_le LE.out.lt LM3.out.lo)) _ _ _ _ _ _) | (with_reducible exact keepCE (LX.out.next (below_drewn _)) (LE.out.next (below_drewn _))) | (with_reducible exact keepCE (LX.out.next (below_adn _ _)) (LE.out.next (below_adn _ _))) | (with_reducible exact keepCE LX1.out LE1.out) | (with_reducible exact keepCE (LX1.out.next (below_alloc _ _)) (LE1.out.next (below_alloc _ _))) | (with_reducible exact keepCE LX2.out LE2.out) | (with_reducible exact keepCE (LX2.out.next (below_alloc _ _)) (LE2.out.next (below_alloc _ _))) | (with_reducible exact keepCE LX3.out LE3.out) | (with_reducible exact keepCE (LX3.out.next (below_alloc _ _)) (LE3.out.next (below_alloc _ _))) | fail)
          (first
            | (go_at_call 14; refine (toCode_any A L c d x _ (LR.out.below (below_drewn w2)) HF.out).mono ?_; rintro e v1 ⟨⟨gav1, gbv1, rfl, hn⟩, hb⟩; have hb0 := Below_next (below_drewn w2) hb; have LX1 := Lib.hid (LX.out.next hb0); have LE1 := Lib.hid (LE.out.next hb0); have LT1 := Lib.hid (LT.out.next hb0); have LD1 := Lib.hid hb0; have LN1 := Lib.hid hn.at_; clear hn; clear hb hb0)
            | (go_at_call 14; refine (toCode_any A L c d x _ (LR.out.below (below_adn w2 _)) HF.out).mono ?_; rintro e v1 ⟨⟨gav1, gbv1, rfl, hn⟩, hb⟩; have hb0 := Below_next (below_adn w2 _) hb; have LX1 := Lib.hid (LX.out.next hb0); have LE1 := Lib.hid (LE.out.next hb0); have LT1 := Lib.hid (LT.out.next hb0); have LD1 := Lib.hid hb0; have LM1 := Lib.hid (memB_newd w2 w2.heap.size (Nat.le_refl _) _ _ hb); have LN1 := Lib.hid hn.at_; clear hn; clear hb hb0)
            | (go_at_call 31; refine (toElement_any y v1).mono ?_; rintro e v2 ⟨rfl, hb⟩; have hb0 := hb; have LX2 := Lib.hid (LX1.out.next hb0); have LE2 := Lib.hid (LE1.out.next hb0); have LT2 := Lib.hid (LT1.out.next hb0); have LN2 := Lib.hid (LN1.out.below hb0); have LD2 := Lib.hid (Below_next LD1.out hb0); (try have LM2 := Lib.hid (LM1.out.next hb)); clear hb hb0)
            | (go_at_call 31; refine (toElement_any y (World.alloc v1 _)).mono ?_; rintro e v2 ⟨rfl, hb⟩; have hb0 := Below_next (below_alloc v1 _) hb; have LX2 := Lib.hid (LX1.out.next hb0); have LE2 := Lib.hid (LE1.out.next hb0); have LT2 := Lib.hid (LT1.out.next hb0); have LN2 := Lib.hid (LN1.out.below hb0); have LD2 := Lib.hid (Below_next LD1.out hb0); have LM2 := Lib.hid (memB_new v1 w2.heap.size LD1.out.size _ _ hb); clear hb hb0)
            | (go_at_call 30; refine (sAdd_any _ _ _ _ x y r _ LN2.out HF.out HYN.out HIN.out ⟨Nat.le_refl _, Nat.le_trans HF.out.1.1 (by decide)⟩).mono ?_; rintro e v3 ⟨⟨A0, c0', L0, d0', p0, q0, rfl, ho, hpq, hp, hq⟩, hb⟩; have hb0 := hb; have LX3 := Lib.hid (LX2.out.next hb0); have LE3 := Lib.hid (LE2.out.next hb0); have LD3 := Lib.hid (Below_next LD2.out hb0); (try have LM3 := Lib.hid (LM2.out.next hb)); have HO := Lib.hid ho; clear ho; (try obtain ⟨m0, m1, m2, m3, m4, m5, mf⟩ := LM3.out.mem); clear hb hb0)
            | (go_at_call 30; refine (sAdd_any _ _ _ _ x y r _ (LN2.out.below (below_alloc v2 _)) HF.out HYN.out HIN.out ⟨Nat.le_refl _, Nat.le_trans HF.out.1.1 (by decide)⟩).mono ?_; rintro e v3 ⟨⟨A0, c0', L0, d0', p0, q0, rfl, ho, hpq, hp, hq⟩, hb⟩; have hb0 := Below_next (below_alloc v2 _) hb; have LX3 := Lib.hid (LX2.out.next hb0); have LE3 := Lib.hid (LE2.out.next hb0); have LD3 := Lib.hid (Below_next LD2.out hb0); have LM3 := Lib.hid (memB_new v2 w2.heap.size LD2.out.size _ _ hb); have HO := Lib.hid ho; clear ho; (try obtain ⟨m0, m1, m2, m3, m4, m5, mf⟩ := LM3.out.mem); clear hb hb0)
            | fail)
        all_goals
          go_wp2_with fail
          go_meet
          first
            | (have hm := LM3.out; have h := ansBox_early (c := c0') (d := d0') LD3.out hm HO.out hpq hp hq (by first | exact LM2.out.lt | simp); exact ⟨_, _, _, _, _, _, _, rfl, rfl, Lib.hid h⟩)
            | (have h := ansBox_late (c := c0') (d := d0') 30 LD3.out HO.out hpq hp hq LD2.out.size; exact ⟨_, _, _, _, _, _, _, rfl, rfl, Lib.hid h⟩)
      case rest =>
        obtain ⟨g0, A0, c0', L0, d0', p0, q0, rfl, rfl, HAB⟩ := hcut
        rename World => w3
        have hb := HAB.out.below
        have HB3 := Lib.hid (Below_next HB2.out hb)
        have HX3 := Lib.hid (HX2.out.next hb)
        have HR3 := Lib.hid (HR2.out.below hb)
        have HT3 := Lib.hid (HT2.out.next hb)
        have HE3 := Lib.hid (HE2.out.next hb)
        clear HB2 HX2 HR2 HT2 HE2
        have HA03 := Lib.hid (HAB.out.own)
        have HK03 := Lib.hid (HAB.out.box)
        have hpq0 := HAB.out.ne
        have hp0 := HAB.out.hp
        have hq0 := HAB.out.hq
        have hg0 := HAB.out.hg
        have hgp0 := HAB.out.gp
        have hgq0 := HAB.out.gq
        clear hb HAB
        have HR1 := Lib.hid (AtB.mk' HA03.out.at_)
        clear HA03
        have HV03 := HR1
        clear HR1
        have HZ03 := Lib.hid (BoxB.mk' HK03.out)
        clear HK03
        have HS3 := Lib.hid (LawAt.mk' HB3.out HX3.out HR3.out HT3.out)
        clear HB3 HX3 HR3 HT3
        have HE := Lib.hid (ElBB.mk' HE3.out)
        clear HE3
        have HE3 := HE
        clear HE
        obtain ⟨c0, c1, c2, c3, c4, c5⟩ := HS3.out.box
        go_wp2_with fail
        clear c0 c1 c2 c3 c4 c5
        refine (toCode_any A L c d x w3 HS3.out.at_ HF.out).mono ?_
        rintro e w4 ⟨⟨ga4, gb4, rfl, hn⟩, hb⟩
        have HE4 := Lib.hid (HE3.out.next hb)
        have HV04 := Lib.hid (HV03.out.next hb)
        have HZ04 := Lib.hid (HZ03.out.next hb)
        have HS4 := Lib.hid (HS3.out.next hb)
        clear HE3 HV03 HZ03 HS3
        have HN4 := Lib.hid (hn.at_)
        have HC4 := Lib.hid (hn.own)
        clear hb
        have hne := hn.ne
        have hge1 := hn.le1
        have hge2 := hn.le2
        have hlt1 := hn.lt1
        have hlt2 := hn.lt2
        clear hn
        obtain ⟨w5, hW, hB⟩ := boxed 30 w4 (some ⟨ga4, 0, none⟩) x.els.length (some ⟨gb4, 0, none⟩) x.lims.length x
        have hb := hB.below
        have HE5 := Lib.hid (HE4.out.next hb)
        have HV05 := Lib.hid (HV04.out.next hb)
        have HZ05 := Lib.hid (HZ04.out.next hb)
        have HS5 := Lib.hid (HS4.out.next hb)
        have HN5 := Lib.hid (HN4.out.below hb)
        have HC5 := Lib.hid (HC4.out.keepB hb)
        clear HE4 HV04 HZ04 HS4 HN4 HC4
        have HY5 := Lib.hid (hB.at_)
        have hga := Nat.lt_of_lt_of_le hlt1 hb.size
        have hgb := Nat.lt_of_lt_of_le hlt2 hb.size
        clear hb hB hlt1 hlt2
        unfold boxCd at hW
        go_upto_region 10 with fail
        rw [← hW]
        clear hW
        go_cut [9, 10] (fun u6 u7 wx => ∃ g A1 c1' L1 d1' p1 q1, u6 = .pointer (some ⟨g, 0, none⟩) ∧ u7 = .bool (pB (AdOk x y r)) ∧ Hid (AnsBox w5 wx g A1 c1' L1 d1' p1 q1 (adR x y r)))
        case first =>
          have LX := Lib.hid (HY5.out)
          have LE := Lib.hid (HE5.out.elB)
          have LT := Lib.hid (HS5.out.tab)
          have LN := Lib.hid (HN5.out)
          go_region_held3 (fun w' => w'.cell? ⟨w4.heap.size, 0, none⟩ = some (.slice (some ⟨ga4, 0, none⟩) x.els.length x.els.length) ∧ w'.cell? ⟨w4.heap.size, 1, none⟩ = some (.slice (some ⟨gb4, 0, none⟩) x.lims.length x.lims.length) ∧ w'.cell? ⟨w4.heap.size, 2, none⟩ = some (.int .i64 x.rep) ∧ w'.cell? ⟨w4.heap.size, 3, none⟩ = some (.int .i64 x.bon) ∧ w'.cell? ⟨w4.heap.size, 4, none⟩ = some (.int .i64 x.kee) ∧ w'.cell? ⟨w4.heap.size, 5, none⟩ = some (.int .i64 x.fal) ∧ w'.cell? ⟨w.heap.size + 1, 0, none⟩ = some (.string y.name) ∧ w'.cell? ⟨w.heap.size + 1, 1, none⟩ = some (.int .i64 y.fam) ∧ w'.cell? ⟨w.heap.size + 1, 2, none⟩ = some (.int .i64 y.lev) ∧ w'.cell? ⟨w.heap.size + 1, 3, none⟩ = some (.int .i64 y.base))
            (first | (with_reducible exact keepP LX2.out LE2.out LM2.out (Nat.ne_of_lt (Nat.lt_of_lt_of_le LX.out.lt LM2.out.lo)) (Nat.ne_of_lt (Nat.lt_of_lt_of_le LE.out.lt LM2.out.lo)) _ _ _ _ _ _) | (with_reducible exact keepCE (LX.out.next (below_drewn _)) (LE.out.next (below_drewn _))) | (with_reducible exact keepCE (LX.out.next (below_adn _ _)) (LE.out.next (below_adn _ _))) | (with_reducible exact keepCE LX1.out LE1.out) | (with_reducible exact keepCE (LX1.out.next (below_alloc _ _)) (LE1.out.next (below_alloc _ _))) | (with_reducible exact keepCE LX2.out LE2.out) | (with_reducible exact keepCE (LX2.out.next (below_alloc _ _)) (LE2.out.next (below_alloc _ _))) | fail)
            (first
              | (go_at_call 31; refine (toElement_any y (World.drew w5)).mono ?_; rintro e v1 ⟨rfl, hb⟩; have hb0 := Below_next (below_drewn w5) hb; have LX1 := Lib.hid (LX.out.next hb0); have LE1 := Lib.hid (LE.out.next hb0); have LT1 := Lib.hid (LT.out.next hb0); have LN1 := Lib.hid (LN.out.below hb0); have LD1 := Lib.hid hb0; clear hb hb0)
              | (go_at_call 31; refine (toElement_any y (World.drew (World.alloc w5 _))).mono ?_; rintro e v1 ⟨rfl, hb⟩; have hb0 := Below_next (below_adn w5 _) hb; have LX1 := Lib.hid (LX.out.next hb0); have LE1 := Lib.hid (LE.out.next hb0); have LT1 := Lib.hid (LT.out.next hb0); have LN1 := Lib.hid (LN.out.below hb0); have LD1 := Lib.hid hb0; have LM1 := Lib.hid (memB_newd w5 w5.heap.size (Nat.le_refl _) _ _ hb); clear hb hb0)
              | (go_at_call 32; refine (iAdd_any _ _ _ _ x y r _ LN1.out HF.out HYN.out HIN.out LT1.out).mono ?_; rintro e v2 ⟨⟨A1, c1', L1, d1', p1, q1, rfl, ho, hpq, hp, hq⟩, hb⟩; have hb0 := hb; have LX2 := Lib.hid (LX1.out.next hb0); have LE2 := Lib.hid (LE1.out.next hb0); have LD2 := Lib.hid (Below_next LD1.out hb0); (try have LM2 := Lib.hid (LM1.out.next hb)); have HO := Lib.hid ho; clear ho; (try obtain ⟨m0, m1, m2, m3, m4, m5, mf⟩ := LM2.out.mem); clear hb hb0)
              | (go_at_call 32; refine (iAdd_any _ _ _ _ x y r _ (LN1.out.below (below_alloc v1 _)) HF.out HYN.out HIN.out (LT1.out.next (below_alloc v1 _))).mono ?_; rintro e v2 ⟨⟨A1, c1', L1, d1', p1, q1, rfl, ho, hpq, hp, hq⟩, hb⟩; have hb0 := Below_next (below_alloc v1 _) hb; have LX2 := Lib.hid (LX1.out.next hb0); have LE2 := Lib.hid (LE1.out.next hb0); have LD2 := Lib.hid (Below_next LD1.out hb0); have LM2 := Lib.hid (memB_new v1 w5.heap.size LD1.out.size _ _ hb); have HO := Lib.hid ho; clear ho; (try obtain ⟨m0, m1, m2, m3, m4, m5, mf⟩ := LM2.out.mem); clear hb hb0)
              | fail)
          all_goals
            go_wp2_with fail
            go_meet
            first
              | (have hm := LM2.out; have h := ansBox_early (c := c1') (d := d1') LD2.out hm HO.out hpq hp hq (by first | exact LM1.out.lt | simp); exact ⟨_, _, _, _, _, _, _, rfl, rfl, Lib.hid h⟩)
              | (have h := ansBox_late (c := c1') (d := d1') 30 LD2.out HO.out hpq hp hq LD1.out.size; exact ⟨_, _, _, _, _, _, _, rfl, rfl, Lib.hid h⟩)
        case rest =>
          obtain ⟨g1, A1, c1', L1, d1', p1, q1, rfl, rfl, HAB⟩ := hcut
          rename World => w6
          have hb := HAB.out.below
          have HE6 := Lib.hid (HE5.out.next hb)
          have HV06 := Lib.hid (HV05.out.next hb)
          have HZ06 := Lib.hid (HZ05.out.next hb)
          have HS6 := Lib.hid (HS5.out.next hb)
          have HN6 := Lib.hid (HN5.out.below hb)
          have HC6 := Lib.hid (HC5.out.keepB hb)
          have HY6 := Lib.hid (HY5.out.next hb)
          clear HE5 HV05 HZ05 HS5 HN5 HC5 HY5
          have HA16 := Lib.hid (HAB.out.own)
          have HK16 := Lib.hid (HAB.out.box)
          have hpq1 := HAB.out.ne
          have hp1 := HAB.out.hp
          have hq1 := HAB.out.hq
          have hg1 := HAB.out.hg
          have hgp1 := HAB.out.gp
          have hgq1 := HAB.out.gq
          clear hb HAB
          obtain ⟨c0, c1, c2, c3, c4, c5⟩ := HK16.out.box
          obtain ⟨z0, z1, z2, z3, z4, z5⟩ := HZ06.out.box
          go_wp2_with fail
          clear c0 c1 c2 c3 c4 c5 z0 z1 z2 z3 z4 z5
          refine (eqCode_yes A1 L1 A0 L0 c1' d1' c0' d0' (adR x y r) _ HA16.out.at_ HV06.out.at_ HRF.out).mono ?_
          rintro e w7 ⟨rfl, hb⟩
          have HE7 := Lib.hid (HE6.out.next hb)
          have HV07 := Lib.hid (HV06.out.next hb)
          have HZ07 := Lib.hid (HZ06.out.next hb)
          have HS7 := Lib.hid (HS6.out.next hb)
          have HN7 := Lib.hid (HN6.out.below hb)
          have HC7 := Lib.hid (HC6.out.keepB hb)
          have HY7 := Lib.hid (HY6.out.next hb)
          have HA17 := Lib.hid (HA16.out.keepB hb)
          have HK17 := Lib.hid (HK16.out.next hb)
          clear HE6 HV06 HZ06 HS6 HN6 HC6 HY6 HA16 HK16
          clear hb
          go_wp2_with fail
          have hb := below_drewn w7
          have HE8 := Lib.hid (HE7.out.next hb)
          have HV08 := Lib.hid (HV07.out.next hb)
          have HZ08 := Lib.hid (HZ07.out.next hb)
          have HS8 := Lib.hid (HS7.out.next hb)
          have HN8 := Lib.hid (HN7.out.below hb)
          have HC8 := Lib.hid (HC7.out.keepB hb)
          have HY8 := Lib.hid (HY7.out.next hb)
          have HA18 := Lib.hid (HA17.out.keepB hb)
          have HK18 := Lib.hid (HK17.out.next hb)
          clear HE7 HV07 HZ07 HS7 HN7 HC7 HY7 HA17 HK17
          clear hb
          go_region_held3 (fun w' => w'.cell? ⟨w.heap.size, 0, none⟩ = some (.slice A x.els.length c) ∧ w'.cell? ⟨w.heap.size, 1, none⟩ = some (.slice L x.lims.length d) ∧ w'.cell? ⟨w.heap.size, 2, none⟩ = some (.int .i64 x.rep) ∧ w'.cell? ⟨w.heap.size, 3, none⟩ = some (.int .i64 x.bon) ∧ w'.cell? ⟨w.heap.size, 4, none⟩ = some (.int .i64 x.kee) ∧ w'.cell? ⟨w.heap.size, 5, none⟩ = some (.int .i64 x.fal) ∧ w'.cell? ⟨w4.heap.size, 0, none⟩ = some (.slice (some ⟨ga4, 0, none⟩) x.els.length x.els.length) ∧ w'.cell? ⟨w4.heap.size, 1, none⟩ = some (.slice (some ⟨gb4, 0, none⟩) x.lims.length x.lims.length) ∧ w'.cell? ⟨w4.heap.size, 2, none⟩ = some (.int .i64 x.rep) ∧ w'.cell? ⟨w4.heap.size, 3, none⟩ = some (.int .i64 x.bon) ∧ w'.cell? ⟨w4.heap.size, 4, none⟩ = some (.int .i64 x.kee) ∧ w'.cell? ⟨w4.heap.size, 5, none⟩ = some (.int .i64 x.fal))
            (first | exact box2 HS8.out.boxAt HY8.out | exact box2 HS9.out.boxAt HY9.out | exact box2 HS10.out.boxAt HY10.out)
            (first
              | (go_at_call 14; refine (toCode_any A L c d x _ HS8.out.at_ HF.out).mono ?_; rintro e w9 ⟨⟨ga9, gb9, rfl, hn⟩, hb⟩; have HE9 := Lib.hid (HE8.out.next hb); have HV09 := Lib.hid (HV08.out.next hb); have HZ09 := Lib.hid (HZ08.out.next hb); have HS9 := Lib.hid (HS8.out.next hb); have HN9 := Lib.hid (HN8.out.below hb); have HC9 := Lib.hid (HC8.out.keepB hb); have HY9 := Lib.hid (HY8.out.next hb); have HA19 := Lib.hid (HA18.out.keepB hb); have HK19 := Lib.hid (HK18.out.next hb); have HM9 := Lib.hid hn.at_; clear hb hn)
              | (go_at_call 16; refine (eqCode_yes _ _ _ _ _ _ _ _ x _ HN9.out HM9.out HF.out).mono ?_; rintro e w10 ⟨rfl, hb⟩; have HE10 := Lib.hid (HE9.out.next hb); have HV010 := Lib.hid (HV09.out.next hb); have HZ010 := Lib.hid (HZ09.out.next hb); have HS10 := Lib.hid (HS9.out.next hb); have HN10 := Lib.hid (HN9.out.below hb); have HC10 := Lib.hid (HC9.out.keepB hb); have HY10 := Lib.hid (HY9.out.next hb); have HA110 := Lib.hid (HA19.out.keepB hb); have HK110 := Lib.hid (HK19.out.next hb); clear hb)
              )
          obtain ⟨c0, c1, c2, c3, c4, c5⟩ := HY10.out.box
          go_wp2_with fail
          clear c0 c1 c2 c3 c4 c5
          refine (markCode_any ga4 gb4 _ _ _ _ x _ HC10.out hne HF.out).mono ?_
          rintro e w11 ⟨rfl, _, hk⟩
          have hb := hk.below HS10.out.le (fun i hi => by rcases hi with rfl | rfl; exact hge1; exact hge2)
          have hw0 := HS10.out.lt
          clear HN10 HC10 HY10
          have HE11 := Lib.hid (HE10.out.goB hb)
          have HV011 := Lib.hid (HV010.out.goB hb)
          have HZ011 := Lib.hid (HZ010.out.goB hb)
          have HS11 := Lib.hid (HS10.out.goB hb)
          have HA111 := Lib.hid (HA110.out.keep hk (by omega) (by omega))
          have HK111 := Lib.hid (HK110.out.only hk (by omega))
          clear HE10 HV010 HZ010 HS10 HA110 HK110
          clear hb hk hw0
          obtain ⟨c0, c1, c2, c3, c4, c5⟩ := HK111.out.box
          obtain ⟨z0, z1, z2, z3, z4, z5⟩ := HZ011.out.box
          go_wp2_with fail
          clear c0 c1 c2 c3 c4 c5 z0 z1 z2 z3 z4 z5
          refine (eqCode_yes A1 L1 A0 L0 c1' d1' c0' d0' (adR x y r) _ HA111.out.at_ HV011.out.at_ HRF.out).mono ?_
          rintro e w12 ⟨rfl, hb⟩
          have HE12 := Lib.hid (HE11.out.next hb)
          have HV012 := Lib.hid (HV011.out.next hb)
          have HZ012 := Lib.hid (HZ011.out.next hb)
          have HS12 := Lib.hid (HS11.out.next hb)
          have HA112 := Lib.hid (HA111.out.keepB hb)
          have HK112 := Lib.hid (HK111.out.next hb)
          clear HE11 HV011 HZ011 HS11 HA111 HK111
          clear hb
          obtain ⟨c0, c1, c2, c3, c4, c5⟩ := HK112.out.box
          go_wp2_with fail
          clear c0 c1 c2 c3 c4 c5
          refine (markCode_any p1 q1 _ _ _ _ (adR x y r) _ HA112.out hpq1 HRF.out).mono ?_
          rintro e w13 ⟨rfl, ho, hk⟩
          have hb := hk.below HS12.out.le (fun i hi => by rcases hi with rfl | rfl; omega; omega)
          clear HA112
          have HE13 := Lib.hid (HE12.out.goB hb)
          have HV013 := Lib.hid (HV012.out.goB hb)
          have HZ013 := Lib.hid (HZ012.out.goB hb)
          have HS13 := Lib.hid (HS12.out.goB hb)
          have HK113 := Lib.hid (HK112.out.only hk (by omega))
          clear HE12 HV012 HZ012 HS12 HK112
          have HA113 := Lib.hid (ho)
          clear hb hk ho
          obtain ⟨c0, c1, c2, c3, c4, c5⟩ := HK113.out.box
          go_wp2_with fail
          clear c0 c1 c2 c3 c4 c5
          refine (heldCode_any A1 L1 c1' d1' (adR x y r).els.length (adR x y r).lims.length (marksCd (adR x y r) 1) _ HA113.out.at_ rfl rfl HRF.out.1.1 HRF.out.2).mono ?_
          rintro e w14 ⟨rfl, hb⟩
          have HE14 := Lib.hid (HE13.out.next hb)
          have HV014 := Lib.hid (HV013.out.next hb)
          have HZ014 := Lib.hid (HZ013.out.next hb)
          have HS14 := Lib.hid (HS13.out.next hb)
          have HK114 := Lib.hid (HK113.out.next hb)
          have HA114 := Lib.hid (HA113.out.keepB hb)
          clear HE13 HV013 HZ013 HS13 HK113 HA113
          clear hb
          go_upto_region 27 with fail
          go_cut [14, 15] (fun u6 u7 wx => ∃ g A2 c2' L2 d2' p2 q2, u6 = .pointer (some ⟨g, 0, none⟩) ∧ u7 = .bool (pB (AdOk x y r)) ∧ Hid (AnsBox w14 wx g A2 c2' L2 d2' p2 q2 (adR x y r)))
          case first =>
            have LX := Lib.hid (HS14.out.boxAt)
            have LE := Lib.hid (HE14.out.elB)
            have LT := Lib.hid (HS14.out.tab)
            have LR := Lib.hid (HS14.out.at_)
            go_region_held3 (fun w' => w'.cell? ⟨w.heap.size, 0, none⟩ = some (.slice A x.els.length c) ∧ w'.cell? ⟨w.heap.size, 1, none⟩ = some (.slice L x.lims.length d) ∧ w'.cell? ⟨w.heap.size, 2, none⟩ = some (.int .i64 x.rep) ∧ w'.cell? ⟨w.heap.size, 3, none⟩ = some (.int .i64 x.bon) ∧ w'.cell? ⟨w.heap.size, 4, none⟩ = some (.int .i64 x.kee) ∧ w'.cell? ⟨w.heap.size, 5, none⟩ = some (.int .i64 x.fal) ∧ w'.cell? ⟨w.heap.size + 1, 0, none⟩ = some (.string y.name) ∧ w'.cell? ⟨w.heap.size + 1, 1, none⟩ = some (.int .i64 y.fam) ∧ w'.cell? ⟨w.heap.size + 1, 2, none⟩ = some (.int .i64 y.lev) ∧ w'.cell? ⟨w.heap.size + 1, 3, none⟩ = some (.int .i64 y.base))
              (first | (with_reducible exact keepP LX3.out LE3.out LM3.out (Nat.ne_of_lt (Nat.lt_of_lt_of_le LX.out.lt LM3.out.lo)) (Nat.ne_of_lt (Nat.lt_of_lt_of_le LE.out.lt LM3.out.lo)) _ _ _ _ _ _) | (with_reducible exact keepCE (LX.out.next (below_drewn _)) (LE.out.next (below_drewn _))) | (with_reducible exact keepCE (LX.out.next (below_adn _ _)) (LE.out.next (below_adn _ _))) | (with_reducible exact keepCE LX1.out LE1.out) | (with_reducible exact keepCE (LX1.out.next (below_alloc _ _)) (LE1.out.next (below_alloc _ _))) | (with_reducible exact keepCE LX2.out LE2.out) | (with_reducible exact keepCE (LX2.out.next (below_alloc _ _)) (LE2.out.next (below_alloc _ _))) | (with_reducible exact keepCE LX3.out LE3.out) | (with_reducible exact keepCE (LX3.out.next (below_alloc _ _)) (LE3.out.next (below_alloc _ _))) | fail)
              (first
                | (go_at_call 14; refine (toCode_any A L c d x _ (LR.out.below (below_drewn w14)) HF.out).mono ?_; rintro e v1 ⟨⟨gav1, gbv1, rfl, hn⟩, hb⟩; have hb0 := Below_next (below_drewn w14) hb; have LX1 := Lib.hid (LX.out.next hb0); have LE1 := Lib.hid (LE.out.next hb0); have LT1 := Lib.hid (LT.out.next hb0); have LD1 := Lib.hid hb0; have LN1 := Lib.hid hn.at_; clear hn; clear hb hb0)
                | (go_at_call 14; refine (toCode_any A L c d x _ (LR.out.below (below_adn w14 _)) HF.out).mono ?_; rintro e v1 ⟨⟨gav1, gbv1, rfl, hn⟩, hb⟩; have hb0 := Below_next (below_adn w14 _) hb; have LX1 := Lib.hid (LX.out.next hb0); have LE1 := Lib.hid (LE.out.next hb0); have LT1 := Lib.hid (LT.out.next hb0); have LD1 := Lib.hid hb0; have LM1 := Lib.hid (memB_newd w14 w14.heap.size (Nat.le_refl _) _ _ hb); have LN1 := Lib.hid hn.at_; clear hn; clear hb hb0)
                | (go_at_call 31; refine (toElement_any y v1).mono ?_; rintro e v2 ⟨rfl, hb⟩; have hb0 := hb; have LX2 := Lib.hid (LX1.out.next hb0); have LE2 := Lib.hid (LE1.out.next hb0); have LT2 := Lib.hid (LT1.out.next hb0); have LN2 := Lib.hid (LN1.out.below hb0); have LD2 := Lib.hid (Below_next LD1.out hb0); (try have LM2 := Lib.hid (LM1.out.next hb)); clear hb hb0)
                | (go_at_call 31; refine (toElement_any y (World.alloc v1 _)).mono ?_; rintro e v2 ⟨rfl, hb⟩; have hb0 := Below_next (below_alloc v1 _) hb; have LX2 := Lib.hid (LX1.out.next hb0); have LE2 := Lib.hid (LE1.out.next hb0); have LT2 := Lib.hid (LT1.out.next hb0); have LN2 := Lib.hid (LN1.out.below hb0); have LD2 := Lib.hid (Below_next LD1.out hb0); have LM2 := Lib.hid (memB_new v1 w14.heap.size LD1.out.size _ _ hb); clear hb hb0)
                | (go_at_call 32; refine (iAdd_any _ _ _ _ x y r _ LN2.out HF.out HYN.out HIN.out LT2.out).mono ?_; rintro e v3 ⟨⟨A2, c2', L2, d2', p2, q2, rfl, ho, hpq, hp, hq⟩, hb⟩; have hb0 := hb; have LX3 := Lib.hid (LX2.out.next hb0); have LE3 := Lib.hid (LE2.out.next hb0); have LD3 := Lib.hid (Below_next LD2.out hb0); (try have LM3 := Lib.hid (LM2.out.next hb)); have HO := Lib.hid ho; clear ho; (try obtain ⟨m0, m1, m2, m3, m4, m5, mf⟩ := LM3.out.mem); clear hb hb0)
                | (go_at_call 32; refine (iAdd_any _ _ _ _ x y r _ (LN2.out.below (below_alloc v2 _)) HF.out HYN.out HIN.out (LT2.out.next (below_alloc v2 _))).mono ?_; rintro e v3 ⟨⟨A2, c2', L2, d2', p2, q2, rfl, ho, hpq, hp, hq⟩, hb⟩; have hb0 := Below_next (below_alloc v2 _) hb; have LX3 := Lib.hid (LX2.out.next hb0); have LE3 := Lib.hid (LE2.out.next hb0); have LD3 := Lib.hid (Below_next LD2.out hb0); have LM3 := Lib.hid (memB_new v2 w14.heap.size LD2.out.size _ _ hb); have HO := Lib.hid ho; clear ho; (try obtain ⟨m0, m1, m2, m3, m4, m5, mf⟩ := LM3.out.mem); clear hb hb0)
                | fail)
            all_goals
              go_wp2_with fail
              go_meet
              first
                | (have hm := LM3.out; have h := ansBox_early (c := c2') (d := d2') LD3.out hm HO.out hpq hp hq (by first | exact LM2.out.lt | simp); exact ⟨_, _, _, _, _, _, _, rfl, rfl, Lib.hid h⟩)
                | (have h := ansBox_late (c := c2') (d := d2') 30 LD3.out HO.out hpq hp hq LD2.out.size; exact ⟨_, _, _, _, _, _, _, rfl, rfl, Lib.hid h⟩)
          case rest =>
            obtain ⟨g2, A2, c2', L2, d2', p2, q2, rfl, rfl, HAB⟩ := hcut
            rename World => w15
            have hb := HAB.out.below
            have HE15 := Lib.hid (HE14.out.next hb)
            have HV015 := Lib.hid (HV014.out.next hb)
            have HZ015 := Lib.hid (HZ014.out.next hb)
            have HS15 := Lib.hid (HS14.out.next hb)
            have HK115 := Lib.hid (HK114.out.next hb)
            have HA115 := Lib.hid (HA114.out.keepB hb)
            clear HE14 HV014 HZ014 HS14 HK114 HA114
            have HA215 := Lib.hid (HAB.out.own)
            have HK215 := Lib.hid (HAB.out.box)
            have hpq2 := HAB.out.ne
            have hp2 := HAB.out.hp
            have hq2 := HAB.out.hq
            have hg2 := HAB.out.hg
            have hgp2 := HAB.out.gp
            have hgq2 := HAB.out.gq
            clear hb HAB
            obtain ⟨c0, c1, c2, c3, c4, c5⟩ := HK215.out.box
            obtain ⟨z0, z1, z2, z3, z4, z5⟩ := HZ015.out.box
            go_wp2_with fail
            clear c0 c1 c2 c3 c4 c5 z0 z1 z2 z3 z4 z5
            refine (eqCode_yes A2 L2 A0 L0 c2' d2' c0' d0' (adR x y r) _ HA215.out.at_ HV015.out.at_ HRF.out).mono ?_
            rintro e w16 ⟨rfl, hb⟩
            have HE16 := Lib.hid (HE15.out.next hb)
            have HV016 := Lib.hid (HV015.out.next hb)
            have HZ016 := Lib.hid (HZ015.out.next hb)
            have HS16 := Lib.hid (HS15.out.next hb)
            have HK116 := Lib.hid (HK115.out.next hb)
            have HA116 := Lib.hid (HA115.out.keepB hb)
            have HA216 := Lib.hid (HA215.out.keepB hb)
            have HK216 := Lib.hid (HK215.out.next hb)
            clear HE15 HV015 HZ015 HS15 HK115 HA115 HA215 HK215
            clear hb
            obtain ⟨c0, c1, c2, c3, c4, c5⟩ := HK116.out.box
            go_wp2_with fail
            clear c0 c1 c2 c3 c4 c5
            refine (heldCode_any A1 L1 c1' d1' (adR x y r).els.length (adR x y r).lims.length (marksCd (adR x y r) 1) _ HA116.out.at_ rfl rfl HRF.out.1.1 HRF.out.2).mono ?_
            rintro e w17 ⟨rfl, hb⟩
            have HE17 := Lib.hid (HE16.out.next hb)
            have HV017 := Lib.hid (HV016.out.next hb)
            have HZ017 := Lib.hid (HZ016.out.next hb)
            have HS17 := Lib.hid (HS16.out.next hb)
            have HK117 := Lib.hid (HK116.out.next hb)
            have HA117 := Lib.hid (HA116.out.keepB hb)
            have HA217 := Lib.hid (HA216.out.keepB hb)
            have HK217 := Lib.hid (HK216.out.next hb)
            clear HE16 HV016 HZ016 HS16 HK116 HA116 HA216 HK216
            clear hb
            go_wp2_with fail
            go_ret
            exact ⟨rfl, HS17.out.bel⟩
end Go.Proofs.YtmncigeelfappaaDoor
