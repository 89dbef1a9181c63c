/- FamilyCounts in the model and in the program. -/
import Derived.Test.YthpipapgjjfalaaDoorPgC
namespace Go.Proofs.YthpipapgjjfalaaDoor
open Go.ChangeShapes Go.WideShapes Go.ChangeAt Go.RowKit
set_option linter.unusedVariables false

/-- What FamilyCounts answers. -/
noncomputable def fcF (x : Cd) (xs : List Im) : List Int := @ite _ (PgAsk x xs) (Classical.propDecidable _) (cntG x xs xs.length) []
theorem fcF_yes {x : Cd} {xs : List Im} (h : PgAsk x xs) : fcF x xs = cntG x xs xs.length := by unfold fcF; rw [if_pos h]
theorem fcF_no {x : Cd} {xs : List Im} (h : ¬ PgAsk x xs) : fcF x xs = [] := by unfold fcF; rw [if_neg h]
theorem fcF_same {x : Cd} {xs ys : List Im} (h : SameS xs ys) : fcF x ys = fcF x xs := by
  by_cases k : PgAsk x xs
  · rw [fcF_yes k, fcF_yes (k.same h), h.len, cntG_same h _ (Nat.le_refl _)]
  · rw [fcF_no k, fcF_no (fun q => k (q.same h.symm))]
theorem fcF_len (x : Cd) (xs : List Im) : (fcF x xs).length ≤ 1048576 := by
  by_cases k : PgAsk x xs
  · rw [fcF_yes k, cntG_len]; decide
  · rw [fcF_no k]; decide

set_option maxHeartbeats 2000000 in
theorem sFamilyCounts_any (A L : Option Addr) (c d : Nat) (x : Cd) (P : Option Addr) (c1 : Nat) (xs : List Im) (w : World) (hr : CdAt w A L x) (hl : CdFits x) (hp : Ims w w.heap.size P xs) (hq : ImsFits xs) :
    Calls Tryd.prog 20 #[x.val A c L d, .slice P xs.length c1] w fun e w' => (∃ R d, e = .returned (.tuple #[.slice R (fcF x xs).length d, .bool (pB (PgAsk x xs))]) ∧ Owned (fun i => w.heap.size ≤ i ∧ i < w'.heap.size) w' R (fcF x xs)) ∧ Below w.heap.size w w' := by
  obtain ⟨W, hW, hB⟩ := boxed 33 w A c L d x
  have HB := Lib.hid hB.below
  have HX := Lib.hid hB.at_
  have HR := Lib.hid (hr.below hB.below)
  have HP := Lib.hid (hp.next hB.below)
  have HL := Lib.hid hl
  have HQ := Lib.hid hq
  clear hr hl hp hq hB
  unfold boxCd at hW
  unfold Cd.val
  go_enter Tryd.func20, Tryd.ntmps20
  go_wp2_with fail
  rw [← hW]
  clear hW
  refine (pgAsked_any A L c d x P c1 xs W HR.out HL.out HP.out HQ.out).mono ?_
  rintro e w1 ⟨he, hb1⟩
  have HB1 := Lib.hid hb1
  clear hb1
  by_cases hok : PgAsk x xs
  · rw [pB_yes hok] at he
    subst he
    have HK := Lib.hid hok
    clear hok
    obtain ⟨x0, x1, x2, x3, x4, x5⟩ := (HX.out.next HB1.out).box
    go_wp2_with fail
    clear x0 x1 x2 x3 x4 x5
    refine (pgCounts_any A L c d x P c1 xs w1 (HR.out.below HB1.out) HL.out (HP.out.next HB1.out) HQ.out HK.out).mono ?_
    rintro e w2 ⟨⟨g, rfl, h1, h2, h3⟩, hb2⟩
    have HB2 := Lib.hid (Below_next HB1.out hb2)
    have HO := Lib.hid h3
    have hs1 := HB1.out.size
    have hs0 := HB.out.size
    clear hb2 h3
    go_wp2
    go_returns
    rw [pB_yes HK.out, fcF_yes HK.out, cntG_len]
    exact ⟨⟨_, 5, rfl, fun _ => ⟨g, 0, rfl, ⟨by omega, h2⟩, h2, HO.out⟩⟩, Below_next HB.out HB2.out⟩
  · rw [pB_no hok] at he
    subst he
    have HK := Lib.hid hok
    clear hok
    go_wp2
    go_returns
    rw [pB_no HK.out, fcF_no HK.out]
    exact ⟨⟨none, 0, rfl, Owned.nil _ _ _⟩, Below_next HB.out HB1.out⟩

set_option maxRecDepth 20000 in
set_option maxHeartbeats 4000000 in
theorem iFamilyCounts_any (A L : Option Addr) (c d : Nat) (x : Cd) (P : Option Addr) (c1 : Nat) (xs : List Im) (w : World) (hr : CdAt w A L x) (hl : CdFits x) (hp : Ims w w.heap.size P xs) (hq : ImsFits xs) (ht : Tab w) :
    Calls Tryd.prog 21 #[x.val A c L d, .slice P xs.length c1] w fun e w' => (∃ R d, e = .returned (.tuple #[.slice R (fcF x xs).length d, .bool (pB (PgAsk x xs))]) ∧ Owned (fun i => w.heap.size ≤ i ∧ i < w'.heap.size) w' R (fcF x xs)) ∧ Below w.heap.size w w' := by
  obtain ⟨W, hW, hB⟩ := boxed 33 w A c L d x
  have HB := Lib.hid hB.below
  have HX := Lib.hid hB.at_
  have HR := Lib.hid (hr.below hB.below)
  have HP := Lib.hid (hp.next hB.below)
  have HT := Lib.hid (ht.next hB.below)
  have HL := Lib.hid hl
  have HQ := Lib.hid hq
  clear hr hl hp hq hB ht
  unfold boxCd at hW
  unfold Cd.val
  go_enter Tryd.func21, Tryd.ntmps21
  go_wp2_with fail
  rw [← hW]
  clear hW
  refine (iIsCode_any A L c d x W HR.out HL.out HT.out).mono ?_
  rintro e w1 ⟨he, hb1⟩
  have HB1 := Lib.hid hb1
  clear hb1
  by_cases hcd : CdOk x
  · rw [pB_yes hcd] at he
    subst he
    go_wp2_with fail
    refine (iAreItems_any P c1 xs w1 (HP.out.next HB1.out) HQ.out).mono ?_
    rintro e w2 ⟨he, hb2⟩
    have HB2 := Lib.hid (Below_next HB1.out hb2)
    clear hb2
    by_cases hls : ListOk xs
    · rw [pB_yes hls] at he
      subst he
      have hok : PgAsk x xs := ⟨hcd, hls⟩
      have HK := Lib.hid hok
      have HS := Lib.hid (small_cntG x xs)
      have h14 := hls.len
      clear hok hcd hls
      obtain ⟨i0, hi, hz0, hz1, hz2⟩ := info_parts Tryd.infoInt
      have HZ := Lib.hid (made_flat (α := Int) #[.int .i64 0] 0 5 rfl (by decide))
      go_wp2_with (first | (at_make; refine wpList_make_full _ rfl (.const (.int .i64 5)) (.const (.int .i64 5)) 23 rfl w2.heap.size 3 i0 (.int .i64 0) 1 Tryd.underlying23 hi hz0 hz1 .i64 .i64 _ _ 5 rfl rfl rfl rfl (by rw [hz2]; omega) (by unfold maxLen; omega) (Nat.le_refl _) ?_; intro w3 hown hgrow))
      have HW := Lib.hid (show OwnAt w3 w2.heap.size 0 (cntG x xs 0) from own_of_row (α := Int) (cap := 5) (e := 3) (base := w2.heap.size) (List.replicate 5 (0 : Int)) (by rw [← HZ.out]; exact hown))
      have hb2 : Below w2.heap.size w2 w3 := (Below.refl _ _).grown hgrow (Nat.le_refl _) (fun k e => by cases e)
      have hs2 := (hown.lt w2.heap.size rfl).2
      have HB3 := Lib.hid (Below_next HB2.out hb2)
      clear hown hgrow hb2 hi hz0 hz1 hz2
      go_loopw [22] (fun i wr => ∃ k : Nat, k ≤ xs.length ∧ i = .int .i64 k ∧ Hid (OwnAt wr w2.heap.size 0 (cntG x xs k)) ∧ w2.heap.size < wr.heap.size ∧ Hid (Below W.heap.size W wr)) (fun i _ => xs.length - (intOf i).toNat)
      case atStart => exact ⟨0, Nat.zero_le _, rfl, HW, hs2, HB3⟩
      case round =>
        obtain ⟨k, hk, rfl, HO, hsr, HBR⟩ := hrel
        by_cases hlt : k < xs.length
        · obtain ⟨b, o, rfl, hbl, hc⟩ := HP.out.out.im (by omega)
          obtain ⟨c0, c1', c2⟩ := (hc k hlt).below HBR.out hbl
          have hp0 : 0 < (it xs k).ns.length := (HK.out.ls.each k hlt).lo
          obtain ⟨b', o', hA, hb', hn'⟩ := str1 ((HP.out.next HBR.out).each k hlt).ns hp0
          rw [hA] at c0
          have HN := Lib.hid hn'
          have hY := (imBox_new wr 46 (it xs k)).c0
          rw [hA] at hY
          have HNW := Lib.hid hY
          clear hc hbl hn' hA hY
          go_wp2_with fail
          clear c0 c1' c2
          have hb4 := below_alloc wr (Obj.cells #[Value.slice (some ⟨b', o', none⟩) (it xs k).ns.length (it xs k).c, Value.slice (it xs k).L (it xs k).ms.length (it xs k).d, Value.bool (it xs k).late] 46)
          have hs4 : wr.heap.size < (World.alloc wr (Obj.cells #[Value.slice (some ⟨b', o', none⟩) (it xs k).ns.length (it xs k).c, Value.slice (it xs k).L (it xs k).ms.length (it xs k).d, Value.bool (it xs k).late] 46)).heap.size := by simp
          generalize hw4 : World.alloc wr _ = w4 at HNW hb4 hs4 ⊢
          have HB4 := Lib.hid (Below_next HBR.out hb4)
          have HN4 := Lib.hid ((hb4.cell (p := ⟨b', o', none⟩) hb').trans HN.out)
          have HH := Lib.hid (fun (w' : World) (h : Below w4.heap.size w4 w') => held_cn (s := nam0 xs k) (HX.out.next HB4.out) HNW.out HN4.out hs4 (by omega) h)
          have HD := Lib.hid (below_drew w4)
          have HO2 := Lib.hid (fun (w' : World) (h : Below w4.heap.size w4 w') => HO.out.block ((below_next hb4 h).block _ hsr))
          obtain ⟨x0, x1, x2, x3, x4, x5, y0, y1⟩ := HH.out _ (Below.refl _ _)
          clear hw4 hb4 hb'
          rcases famI_ok HK.out.cd (nam0 xs k) with ⟨h1, h2⟩ | ⟨h1, h2, h3⟩
          · have HV := Lib.hid (cntG_no h2)
            have HV0 := Lib.hid (famV_no h2)
            clear h1 h2
            clear x0 x1 x2 x3 x4 x5 y0 y1
            go_region_held3 (fun w' => w'.cell? ⟨w.heap.size, 0, none⟩ = some (.slice A x.els.length c) ∧ w'.cell? ⟨w.heap.size, 1, none⟩ = some (.slice L x.lims.length d) ∧ w'.cell? ⟨w.heap.size, 2, none⟩ = some (.int .i64 x.rep) ∧ w'.cell? ⟨w.heap.size, 3, none⟩ = some (.int .i64 x.bon) ∧ w'.cell? ⟨w.heap.size, 4, none⟩ = some (.int .i64 x.kee) ∧ w'.cell? ⟨w.heap.size, 5, none⟩ = some (.int .i64 x.fal) ∧ w'.cell? ⟨wr.heap.size, 0, none⟩ = some (.slice (some ⟨b', o', none⟩) (it xs k).ns.length (it xs k).c) ∧ w'.cell? ⟨b', o', none⟩ = some (.string (nam0 xs k)))
              (first | exact HH.out _ HD.out | exact HH.out _ HE.out)
              (first
                | (go_at_call 46; refine (familyOfName_any A L c d x (nam0 xs k) _ (HR.out.below (Below_next HB4.out HD.out)) HL.out).mono ?_; rintro e w5 ⟨he, hb⟩; rw [HV0.out] at he; subst he; have HE := Lib.hid (Below_next HD.out hb); clear hb)
                )
            go_wp2
            go_roundw
            case rel => exact ⟨k + 1, by omega, by go_num, by rw [HV.out]; exact Lib.hid (HO2.out _ HE.out), by have := HE.out.size; omega, Lib.hid (Below_next HB4.out HE.out)⟩
            case measure => simp [intOf]; omega
          · obtain ⟨n, hn⟩ : ∃ n : Nat, famI x (nam0 xs k) = (n : Int) := ⟨_, (Int.toNat_of_nonneg h1).symm⟩
            rw [hn] at h2
            have hn5 : n < (cntG x xs k).length := by rw [cntG_len]; omega
            have HV0 := Lib.hid (hn ▸ famV_yes h3)
            have HV := Lib.hid (show (cntG x xs k).set n (it (cntG x xs k) n + 1) = cntG x xs (k + 1) by rw [cntG_yes h3, hn]; rfl)
            obtain ⟨s1, s2⟩ := HS.out k n hn5
            clear h1 h3 hn
            clear x0 x1 x2 x3 x4 x5 y0 y1
            go_region_held3 (fun w' => w'.cell? ⟨w.heap.size, 0, none⟩ = some (.slice A x.els.length c) ∧ w'.cell? ⟨w.heap.size, 1, none⟩ = some (.slice L x.lims.length d) ∧ w'.cell? ⟨w.heap.size, 2, none⟩ = some (.int .i64 x.rep) ∧ w'.cell? ⟨w.heap.size, 3, none⟩ = some (.int .i64 x.bon) ∧ w'.cell? ⟨w.heap.size, 4, none⟩ = some (.int .i64 x.kee) ∧ w'.cell? ⟨w.heap.size, 5, none⟩ = some (.int .i64 x.fal) ∧ w'.cell? ⟨wr.heap.size, 0, none⟩ = some (.slice (some ⟨b', o', none⟩) (it xs k).ns.length (it xs k).c) ∧ w'.cell? ⟨b', o', none⟩ = some (.string (nam0 xs k)))
              (first | exact HH.out _ HD.out | exact HH.out _ HE.out)
              (first
                | (go_at_call 46; refine (familyOfName_any A L c d x (nam0 xs k) _ (HR.out.below (Below_next HB4.out HD.out)) HL.out).mono ?_; rintro e w5 ⟨he, hb⟩; rw [HV0.out] at he; subst he; have HE := Lib.hid (Below_next HD.out hb); clear hb)
                )
            obtain ⟨d0, f0⟩ := (HO2.out _ HE.out).int0 n hn5
            have HP2 := Lib.hid ((HO2.out _ HE.out).putInt0 n (it (cntG x xs k) n + 1) hn5)
            rw [HV.out] at HP2
            go_wp2
            go_roundw
            case rel => exact ⟨k + 1, by omega, by go_num, HP2, by have := HE.out.size; simp [World.setCell]; omega, Lib.hid ((Below_next HB4.out HE.out).setCell (by have := HB2.out.size; exact this) _)⟩
            case measure => simp [intOf]; omega
        · obtain rfl : k = xs.length := by omega
          have hs0 := HB.out.size
          have hs1 := HB2.out.size
          go_wp2
          go_returns
          rw [pB_yes HK.out, fcF_yes HK.out, cntG_len]
          exact ⟨⟨_, 5, rfl, fun _ => ⟨w2.heap.size, 0, rfl, ⟨by omega, hsr⟩, hsr, HO.out⟩⟩, Below_next HB.out HBR.out⟩
    · rw [pB_no hls] at he
      subst he
      have hno : ¬ PgAsk x xs := fun h => hls h.ls
      have HK := Lib.hid hno
      clear hls hno hcd
      go_wp2
      go_returns
      rw [pB_no HK.out, fcF_no HK.out]
      exact ⟨⟨none, 0, rfl, Owned.nil _ _ _⟩, Below_next HB.out HB2.out⟩
  · rw [pB_no hcd] at he
    subst he
    have hno : ¬ PgAsk x xs := fun h => hcd h.cd
    have HK := Lib.hid hno
    clear hcd hno
    go_wp2
    go_returns
    rw [pB_no HK.out, fcF_no HK.out]
    exact ⟨⟨none, 0, rfl, Owned.nil _ _ _⟩, Below_next HB.out HB1.out⟩
end Go.Proofs.YthpipapgjjfalaaDoor
