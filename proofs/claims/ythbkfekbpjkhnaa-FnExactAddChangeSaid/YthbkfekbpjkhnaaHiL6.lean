/- The walk of the law AddChange. -/
import Derived.Test.YthbkfekbpjkhnaaHiY
import Derived.Test.YthbkfekbpjkhnaaHiO
import Derived.Deep.RegionHeld3
namespace Go.Proofs.Ythbkfekbpjkhnaa
open Go.ChangeShapes Go.WideShapes Go.ChangeAt Go.RowKit Go.Lib Go.Proofs Go.PlainAid
set_option linter.unusedVariables false

theorem sAddChange_n (P0 : Option Addr) (c0 n0 : Nat) (xs ys0 : List Im) (hs0 : SameS xs ys0) (hn0 : xs.length = n0) (P1 : Option Addr) (c1 : Nat) (hs : List Cg) (x : Cg) (w : World) (hp0 : Ims w w.heap.size P0 ys0) (hq0 : ImsFits xs) (hp1 : Lst w w.heap.size P1 hs) (hq1 : hs.length ≤ 1048576) (hc1 : hs.length ≤ c1 ∧ c1 ≤ 9223372036854775807) :
    Calls Try.prog 31 #[.slice P0 n0 c0, .slice P1 hs.length c1, x.val] w fun e w' => (∃ R d, e = .returned (.tuple #[.slice R (adF xs hs x).length d, .bool (pB (AdOk xs hs x))]) ∧ Owned (fun i => w.heap.size ≤ i ∧ i < w'.heap.size) w' R (adF xs hs x)) ∧ Below w.heap.size w w' := by
  subst hn0
  rw [← hs0.len, ← adF_same hs0 hs x, ← adOk_same hs0 hs x]
  exact sAddChange_any P0 c0 ys0 P1 c1 hs x w hp0 (hs0.fits hq0) hp1 hq1 hc1
theorem iAddChange_n (P0 : Option Addr) (c0 n0 : Nat) (xs ys0 : List Im) (hs0 : SameS xs ys0) (hn0 : xs.length = n0) (P1 : Option Addr) (c1 : Nat) (hs : List Cg) (x : Cg) (w : World) (hp0 : Ims w w.heap.size P0 ys0) (hq0 : ImsFits xs) (hp1 : Lst w w.heap.size P1 hs) (hq1 : hs.length ≤ 1048576) (hc1 : hs.length ≤ c1 ∧ c1 ≤ 9223372036854775807) :
    Calls Try.prog 33 #[.slice P0 n0 c0, .slice P1 hs.length c1, x.val] w fun e w' => (∃ R d, e = .returned (.tuple #[.slice R (adF xs hs x).length d, .bool (pB (AdOk xs hs x))]) ∧ Owned (fun i => w.heap.size ≤ i ∧ i < w'.heap.size) w' R (adF xs hs x)) ∧ Below w.heap.size w w' := by
  subst hn0
  rw [← hs0.len, ← adF_same hs0 hs x, ← adOk_same hs0 hs x]
  exact iAddChange_any P0 c0 ys0 P1 c1 hs x w hp0 (hs0.fits hq0) hp1 hq1 hc1

set_option maxHeartbeats 4000000 in
theorem walkAddChange (P0 : Option Addr) (c0 : Nat) (xs : List Im) (P1 : Option Addr) (c1 : Nat) (hs : List Cg) (x : Cg) (w : World) (hp0 : Ims w w.heap.size P0 xs) (hq0 : ImsLen xs) (hp1 : Lst w w.heap.size P1 hs) (hq1 : hs.length ≤ 9223372036854775807) (hu2 : True) :
    Calls Try.prog 7 #[.slice P0 xs.length c0, .slice P1 hs.length c1, x.val] w fun e w' => e = .returned (.bool true) ∧ Below w.heap.size w w' := by
  obtain ⟨W, hW, hBx, hX, hsz⟩ := boxedC 47 w x
  have HBW := Lib.hid hBx
  have HXB := Lib.hid (fun (w' : World) (hb : Below W.heap.size W w') => (hX.below hb hsz).all')
  have HP0 := Lib.hid (hp0.next hBx)
  have HQ0 := Lib.hid hq0
  clear hp0 hq0
  have HP1 := Lib.hid (hp1.next hBx)
  have HQ1 := Lib.hid hq1
  clear hp1 hq1
  clear hBx hX hsz
  unfold Cg.obj at hW
  unfold Cg.val
  have HB_0 := Lib.hid (Below.refl W.heap.size W)
  go_enter Try.func7, Try.ntmps7
  go_wp2_with fail
  rw [← hW]
  clear hW
  refine (szItemS_any P0 c0 xs _ W (HP0.out.next HB_0.out) HQ0.out (by omega) (by omega)).mono ?_
  rintro e w1 ⟨⟨q0, rfl, hq⟩, hb⟩
  have Z1 := Lib.hid hb.size
  have HB_1 := Lib.hid (Below_next HB_0.out hb)
  clear HB_0 hb
  rcases hq with hq | ⟨hq00, hq10, HF0⟩
  · go_wp2
    go_ret
    exact ⟨rfl, Below_next HBW.out HB_1.out⟩
  · have hq10 : q0 ≤ 1048576 := by omega
    go_wp2_with fail
    refine (szChangeS_b P1 c1 hs q0 w1 HQ1.out hq00 hq10).mono ?_
    rintro e w2 ⟨⟨q1, rfl, hq⟩, hb⟩
    have Z2 := Lib.hid hb.size
    have HB_2 := Lib.hid (Below_next HB_1.out hb)
    clear HB_1 hb
    rcases hq with hq | ⟨hq01, hq11, HF1⟩
    · go_wp2
      go_ret
      exact ⟨rfl, Below_next HBW.out HB_2.out⟩
    · have hq11 : q1 ≤ 1048576 := by omega
      have HF1 := Lib.hid HF1
      have HVL := Lib.hid (adF_small xs hs x HF1.out)
      go_wp2_with fail
      have hb := below_drew w2
      have Z3 := Lib.hid hb.size
      have HB_3 := Lib.hid (Below_next HB_2.out hb)
      clear HB_2 hb
      refine wp_region_held_drew (S := (fun w' => w'.cell? ⟨w.heap.size, 0, none⟩ = some (.int .i64 x.tick) ∧ w'.cell? ⟨w.heap.size, 1, none⟩ = some (.int .i64 x.caller) ∧ w'.cell? ⟨w.heap.size, 2, none⟩ = some (.int .i64 x.item) ∧ w'.cell? ⟨w.heap.size, 3, none⟩ = some (.int .i64 x.name) ∧ w'.cell? ⟨w.heap.size, 4, none⟩ = some (.int .i64 x.mark) ∧ w'.cell? ⟨w.heap.size, 5, none⟩ = some (.bool x.review))) (by kernel_rfl) ?_ (fun hHeld0 => ?_)
      · exact HXB.out _ HB_3.out
      refine wpAnyH_take (i := 0) (oi := _) (v := ?_) rfl (by kernel_rfl) (by kernel_rfl) (by kernel_rfl) (fun _ _ _ h => h) (Or.inl ⟨by rfl, ?_⟩) (by assumption) ?_
      rotate_left
      · (intro w hSw; (try dsimp only at hSw); go_simp; try with_reducible rfl)
      try simp only [Act.put, List.setIfInBounds_toArray, List.set_cons_zero, List.set_cons_succ, List.getElem_toArray, List.getElem_cons_zero]
      refine wpAnyH_take (i := 2) (oi := _) (v := ?_) rfl (by kernel_rfl) (by kernel_rfl) (by kernel_rfl) (fun _ _ _ h => h) (Or.inl ⟨by rfl, ?_⟩) (by assumption) ?_
      rotate_left
      · (intro w hSw; (try dsimp only at hSw); go_simp; try with_reducible rfl)
      try simp only [Act.put, List.setIfInBounds_toArray, List.set_cons_zero, List.set_cons_succ, List.getElem_toArray, List.getElem_cons_zero, List.getElem_cons_succ]
      refine wpAnyH_take (i := 4) (oi := _) (v := ?_) rfl (by kernel_rfl) (by kernel_rfl) (by kernel_rfl) (fun _ _ _ h => h) (Or.inl ⟨by rfl, ?_⟩) (by assumption) ?_
      rotate_left
      · (intro w hSw; (try dsimp only at hSw); go_simp; try with_reducible rfl)
      try simp only [Act.put, List.setIfInBounds_toArray, List.set_cons_zero, List.set_cons_succ, List.getElem_toArray, List.getElem_cons_zero, List.getElem_cons_succ]
      refine wpAnyH_ready (rs := [1]) (by kernel_rfl) (by simp) ?_
      refine AllReadyH.cons rfl (fun K hK => ?_) ?_
      rotate_left
      · exact AllReadyH.nil
      go_simp
      go_wp2_with (go_at_call 14; refine (toItemS_c P0 c0 xs _ (HP0.out.next HB_3.out) HF0.out).mono ?_; rintro e w4 ⟨rfl, ⟨ys4, g4, G4, hs, ho⟩, hb⟩; have Z4 := Lib.hid hb.size; have HB_4 := Lib.hid (Below_next HB_3.out hb); have HS4 := Lib.hid hs; have HIt0_4 := Lib.hid ho; clear hb hs ho)
      refine hK.out _ _ ?_ (fun hHeld4 => ?_)
      · ((try dsimp only); exact HXB.out _ HB_4.out)
      clear hK K
      refine wpAnyH_ready (rs := [3]) (by kernel_rfl) (by simp) ?_
      refine AllReadyH.cons rfl (fun K hK => ?_) ?_
      rotate_left
      · exact AllReadyH.nil
      go_simp
      go_wp2_with (go_at_call 15; refine (toChangeS_c P1 c1 hs _ (HP1.out.next HB_4.out) HF1.out).mono ?_; rintro e w5 ⟨rfl, ho, hb⟩; have Z5 := Lib.hid hb.size; have HB_5 := Lib.hid (Below_next HB_4.out hb); have HIt0_5 := Lib.hid (HIt0_4.out.next hb); have HIt1_5 := Lib.hid ho; clear hb ho)
      refine hK.out _ _ ?_ (fun hHeld5 => ?_)
      · ((try dsimp only); exact HXB.out _ HB_5.out)
      clear hK K
      refine wpAnyH_ready (rs := [5]) (by kernel_rfl) (by simp) ?_
      refine AllReadyH.cons rfl (fun K hK => ?_) ?_
      rotate_left
      · exact AllReadyH.nil
      go_simp
      go_wp2_with (go_at_call 32; refine (toChange_any x _).mono ?_; rintro e w6 ⟨rfl, hb⟩; have Z6 := Lib.hid hb.size; have HB_6 := Lib.hid (Below_next HB_5.out hb); have HIt0_6 := Lib.hid (HIt0_5.out.next hb); have HIt1_6 := Lib.hid (HIt1_5.out.keepB hb); clear hb)
      refine hK.out _ _ ?_ (fun hHeld6 => ?_)
      · ((try dsimp only); exact HXB.out _ HB_6.out)
      clear hK K
      refine wpAnyH_ready (rs := [6]) (by kernel_rfl) (by simp) ?_
      refine AllReadyH.cons rfl (fun K hK => ?_) ?_
      rotate_left
      · exact AllReadyH.nil
      go_simp
      go_wp2_with (go_at_call 31; refine (sAddChange_n _ _ _ xs ys4 HS4.out rfl _ _ hs x _ HIt0_6.out.ims HF0.out HIt1_6.out.lst HF1.out ⟨Nat.le_refl _, by have := HF1.out; omega⟩).mono ?_; rintro e w7 ⟨⟨W0, d0, rfl, how⟩, hb⟩; have Z7 := Lib.hid hb.size; have HB_7 := Lib.hid (Below_next HB_6.out hb); have HV_7 := Lib.hid how; clear how;  clear hb)
      refine hK.out _ _ ?_ (fun hHeld7 => ?_)
      · ((try dsimp only); exact HXB.out _ HB_7.out)
      clear hK K
      refine wpAnyH_take (i := 7) (oi := _) (v := ?_) rfl (by kernel_rfl) (by kernel_rfl) (by kernel_rfl) (fun _ _ _ h => h) (Or.inl ⟨by rfl, ?_⟩) (by assumption) ?_
      rotate_left
      · (intro w hSw; (try dsimp only at hSw); go_simp; try with_reducible rfl)
      try simp only [Act.put, List.setIfInBounds_toArray, List.set_cons_zero, List.set_cons_succ, List.getElem_toArray, List.getElem_cons_zero, List.getElem_cons_succ]
      refine wpAnyH_take (i := 8) (oi := _) (v := ?_) rfl (by kernel_rfl) (by kernel_rfl) (by kernel_rfl) (fun _ _ _ h => h) (Or.inl ⟨by rfl, ?_⟩) (by assumption) ?_
      rotate_left
      · (intro w hSw; (try dsimp only at hSw); go_simp; try with_reducible rfl)
      try simp only [Act.put, List.setIfInBounds_toArray, List.set_cons_zero, List.set_cons_succ, List.getElem_toArray, List.getElem_cons_zero, List.getElem_cons_succ]
      refine wpAnyH_take (i := 9) (oi := _) (v := ?_) rfl (by kernel_rfl) (by kernel_rfl) (by kernel_rfl) (fun _ _ _ h => h) (Or.inl ⟨by rfl, ?_⟩) (by assumption) ?_
      rotate_left
      · (intro w hSw; (try dsimp only at hSw); go_simp; try with_reducible rfl)
      try simp only [Act.put, List.setIfInBounds_toArray, List.set_cons_zero, List.set_cons_succ, List.getElem_toArray, List.getElem_cons_zero, List.getElem_cons_succ]
      refine wpAnyH_take (i := 10) (oi := _) (v := ?_) rfl (by kernel_rfl) (by kernel_rfl) (by kernel_rfl) (fun _ _ _ h => h) (Or.inl ⟨by rfl, ?_⟩) (by assumption) ?_
      rotate_left
      · (intro w hSw; (try dsimp only at hSw); go_simp; try with_reducible rfl)
      try simp only [Act.put, List.setIfInBounds_toArray, List.set_cons_zero, List.set_cons_succ, List.getElem_toArray, List.getElem_cons_zero, List.getElem_cons_succ]
      refine wpAnyH_take (i := 11) (oi := _) (v := ?_) rfl (by kernel_rfl) (by kernel_rfl) (by kernel_rfl) (fun _ _ _ h => h) (Or.inl ⟨by rfl, ?_⟩) (by assumption) ?_
      rotate_left
      · (intro w hSw; (try dsimp only at hSw); go_simp; try with_reducible rfl)
      try simp only [Act.put, List.setIfInBounds_toArray, List.set_cons_zero, List.set_cons_succ, List.getElem_toArray, List.getElem_cons_zero, List.getElem_cons_succ]
      refine wpAnyH_done (by kernel_rfl) ?_ _
      clear HB_3 HB_4 HB_5 HB_6
      go_wp2_with fail
      refine (toItemS_c P0 c0 xs w7 (HP0.out.next HB_7.out) HF0.out).mono ?_
      rintro e w8 ⟨rfl, ⟨ys8, g8, G8, hs, ho⟩, hb⟩
      have Z8 := Lib.hid hb.size
      have HB_8 := Lib.hid (Below_next HB_7.out hb)
      have HV_8 := Lib.hid (HV_7.out.keepB hb)
      clear HB_7 HV_7 hb
      have HS8 := Lib.hid hs
      have HIx0_8 := Lib.hid (ho)
      clear hs ho
      go_wp2_with fail
      refine (toChangeS_c P1 c1 hs w8 (HP1.out.next HB_8.out) HF1.out).mono ?_
      rintro e w9 ⟨rfl, ho, hb⟩
      have Z9 := Lib.hid hb.size
      have HB_9 := Lib.hid (Below_next HB_8.out hb)
      have HV_9 := Lib.hid (HV_8.out.keepB hb)
      have HIx0_9 := Lib.hid (HIx0_8.out.next hb)
      clear HB_8 HV_8 HIx0_8 hb
      have HIx1_9 := Lib.hid (ho)
      clear ho
      obtain ⟨y0, y1, y2, y3, y4, y5⟩ := HXB.out _ HB_9.out
      go_wp2_with fail
      clear y0 y1 y2 y3 y4 y5
      refine (toChange_any x w9).mono ?_
      rintro e w10 ⟨rfl, hb⟩
      have Z10 := Lib.hid hb.size
      have HB_10 := Lib.hid (Below_next HB_9.out hb)
      have HV_10 := Lib.hid (HV_9.out.keepB hb)
      have HIx0_10 := Lib.hid (HIx0_9.out.next hb)
      have HIx1_10 := Lib.hid (HIx1_9.out.keepB hb)
      clear HB_9 HV_9 HIx0_9 HIx1_9 hb
      go_wp2_with fail
      refine (iAddChange_n _ _ _ xs ys8 HS8.out rfl _ _ hs x w10 HIx0_10.out.ims HF0.out HIx1_10.out.lst HF1.out ⟨Nat.le_refl _, by have := HF1.out; omega⟩).mono ?_
      rintro e w11 ⟨⟨G0, d1, rfl, hog⟩, hb⟩
      have Z11 := Lib.hid hb.size
      have HB_11 := Lib.hid (Below_next HB_10.out hb)
      have HV_11 := Lib.hid (HV_10.out.keepB hb)
      have HIx0_11 := Lib.hid (HIx0_10.out.next hb)
      have HIx1_11 := Lib.hid (HIx1_10.out.keepB hb)
      clear HB_10 HV_10 HIx0_10 HIx1_10 hb
      have HG_11 := Lib.hid (hog)
      clear hog
      go_wp2_with fail
      refine (eqChangeS_n G0 W0 d1 d0 (adF xs hs x).length (adF xs hs x) rfl w11 HG_11.out.lst HV_11.out.lst HVL.out).mono ?_
      rintro e w12 ⟨rfl, hb⟩
      have Z12 := Lib.hid hb.size
      have HB_12 := Lib.hid (Below_next HB_11.out hb)
      have HV_12 := Lib.hid (HV_11.out.keepB hb)
      have HIx0_12 := Lib.hid (HIx0_11.out.next hb)
      have HIx1_12 := Lib.hid (HIx1_11.out.keepB hb)
      have HG_12 := Lib.hid (HG_11.out.keepB hb)
      clear HB_11 HV_11 HIx0_11 HIx1_11 HG_11 hb
      go_wp2_with fail
      refine (toItemS_c P0 c0 xs w12 (HP0.out.next HB_12.out) HF0.out).mono ?_
      rintro e w13 ⟨rfl, ⟨zs, g', G', hs', ho'⟩, hb⟩
      have Z13 := Lib.hid hb.size
      have HB_13 := Lib.hid (Below_next HB_12.out hb)
      have HV_13 := Lib.hid (HV_12.out.keepB hb)
      have HIx0_13 := Lib.hid (HIx0_12.out.next hb)
      have HIx1_13 := Lib.hid (HIx1_12.out.keepB hb)
      have HG_13 := Lib.hid (HG_12.out.keepB hb)
      clear HB_12 HV_12 HIx0_12 HIx1_12 HG_12 hb
      have HC := Lib.hid (eqItemS_n (some ⟨w7.heap.size, 0, none⟩) (some ⟨w12.heap.size, 0, none⟩) xs.length xs.length xs.length ys8 zs HS8.out.len w13 (HS8.out.symm.trans hs') HIx0_13.out.ims ho'.ims (HS8.out.fits HF0.out))
      clear hs' ho'
      go_wp2_with fail
      refine (HC.out).mono ?_
      rintro e w14 ⟨rfl, hb⟩
      have Z14 := Lib.hid hb.size
      have HB_14 := Lib.hid (Below_next HB_13.out hb)
      have HV_14 := Lib.hid (HV_13.out.keepB hb)
      have HIx0_14 := Lib.hid (HIx0_13.out.next hb)
      have HIx1_14 := Lib.hid (HIx1_13.out.keepB hb)
      have HG_14 := Lib.hid (HG_13.out.keepB hb)
      clear HB_13 HV_13 HIx0_13 HIx1_13 HG_13 hb
      clear HC
      go_wp2_with fail
      refine (toChangeS_c P1 c1 hs w14 (HP1.out.next HB_14.out) HF1.out).mono ?_
      rintro e w15 ⟨rfl, ho', hb⟩
      have Z15 := Lib.hid hb.size
      have HB_15 := Lib.hid (Below_next HB_14.out hb)
      have HV_15 := Lib.hid (HV_14.out.keepB hb)
      have HIx0_15 := Lib.hid (HIx0_14.out.next hb)
      have HIx1_15 := Lib.hid (HIx1_14.out.keepB hb)
      have HG_15 := Lib.hid (HG_14.out.keepB hb)
      clear HB_14 HV_14 HIx0_14 HIx1_14 HG_14 hb
      have HC := Lib.hid (eqChangeS_n (some ⟨w8.heap.size, 0, none⟩) (some ⟨w14.heap.size, 0, none⟩) hs.length hs.length hs.length hs rfl w15 HIx1_15.out.lst ho'.lst HF1.out)
      clear ho'
      go_wp2_with fail
      refine (HC.out).mono ?_
      rintro e w16 ⟨rfl, hb⟩
      have Z16 := Lib.hid hb.size
      have HB_16 := Lib.hid (Below_next HB_15.out hb)
      have HV_16 := Lib.hid (HV_15.out.keepB hb)
      have HIx0_16 := Lib.hid (HIx0_15.out.next hb)
      have HIx1_16 := Lib.hid (HIx1_15.out.keepB hb)
      have HG_16 := Lib.hid (HG_15.out.keepB hb)
      clear HB_15 HV_15 HIx0_15 HIx1_15 HG_15 hb
      clear HC
      go_wp2_with fail
      refine (markItemS_c _ _ xs.length g8 G8 xs ys8 _ 1 w16 rfl HS8.out HIx0_16.out HF0.out (by omega) (by omega)).mono ?_
      rintro e w17 ⟨⟨m0, rfl, hm0, hmm0⟩, hk⟩
      clear HIx0_16
      have Z17 := Lib.hid hk.size
      have HB_17 := Lib.hid (HB_16.out.trans (hk.below HB_16.out.size (fun i hi => by have z1 := Z1.out; have z2 := Z2.out; have z3 := Z3.out; have z4 := Z4.out; have z5 := Z5.out; have z6 := Z6.out; have z7 := Z7.out; have z8 := Z8.out; have z9 := Z9.out; have z10 := Z10.out; have z11 := Z11.out; have z12 := Z12.out; have z13 := Z13.out; have z14 := Z14.out; have z15 := Z15.out; have z16 := Z16.out; have z17 := Z17.out; omega)))
      have HV_17 := Lib.hid (HV_16.out.keep hk (fun i h1 h2 => by have z1 := Z1.out; have z2 := Z2.out; have z3 := Z3.out; have z4 := Z4.out; have z5 := Z5.out; have z6 := Z6.out; have z7 := Z7.out; have z8 := Z8.out; have z9 := Z9.out; have z10 := Z10.out; have z11 := Z11.out; have z12 := Z12.out; have z13 := Z13.out; have z14 := Z14.out; have z15 := Z15.out; have z16 := Z16.out; have z17 := Z17.out; omega))
      have HIx1_17 := Lib.hid (HIx1_16.out.keep hk (fun i h1 h2 => by have z1 := Z1.out; have z2 := Z2.out; have z3 := Z3.out; have z4 := Z4.out; have z5 := Z5.out; have z6 := Z6.out; have z7 := Z7.out; have z8 := Z8.out; have z9 := Z9.out; have z10 := Z10.out; have z11 := Z11.out; have z12 := Z12.out; have z13 := Z13.out; have z14 := Z14.out; have z15 := Z15.out; have z16 := Z16.out; have z17 := Z17.out; omega))
      have HG_17 := Lib.hid (HG_16.out.keep hk (fun i h1 h2 => by have z1 := Z1.out; have z2 := Z2.out; have z3 := Z3.out; have z4 := Z4.out; have z5 := Z5.out; have z6 := Z6.out; have z7 := Z7.out; have z8 := Z8.out; have z9 := Z9.out; have z10 := Z10.out; have z11 := Z11.out; have z12 := Z12.out; have z13 := Z13.out; have z14 := Z14.out; have z15 := Z15.out; have z16 := Z16.out; have z17 := Z17.out; omega))
      clear HB_16 HV_16 HIx1_16 HG_16 hk
      go_wp2_with fail
      refine (markChangeS_b _ _ hs.length hs m0 w17 HIx1_17.out HF1.out hm0 hmm0).mono ?_
      rintro e w18 ⟨⟨m1, rfl, hm1⟩, hk⟩
      clear HIx1_17
      have Z18 := Lib.hid hk.size
      have HB_18 := Lib.hid (HB_17.out.trans (hk.below HB_17.out.size (fun i hi => by have z1 := Z1.out; have z2 := Z2.out; have z3 := Z3.out; have z4 := Z4.out; have z5 := Z5.out; have z6 := Z6.out; have z7 := Z7.out; have z8 := Z8.out; have z9 := Z9.out; have z10 := Z10.out; have z11 := Z11.out; have z12 := Z12.out; have z13 := Z13.out; have z14 := Z14.out; have z15 := Z15.out; have z16 := Z16.out; have z17 := Z17.out; have z18 := Z18.out; omega)))
      have HV_18 := Lib.hid (HV_17.out.keep hk (fun i h1 h2 => by have z1 := Z1.out; have z2 := Z2.out; have z3 := Z3.out; have z4 := Z4.out; have z5 := Z5.out; have z6 := Z6.out; have z7 := Z7.out; have z8 := Z8.out; have z9 := Z9.out; have z10 := Z10.out; have z11 := Z11.out; have z12 := Z12.out; have z13 := Z13.out; have z14 := Z14.out; have z15 := Z15.out; have z16 := Z16.out; have z17 := Z17.out; have z18 := Z18.out; omega))
      have HG_18 := Lib.hid (HG_17.out.keep hk (fun i h1 h2 => by have z1 := Z1.out; have z2 := Z2.out; have z3 := Z3.out; have z4 := Z4.out; have z5 := Z5.out; have z6 := Z6.out; have z7 := Z7.out; have z8 := Z8.out; have z9 := Z9.out; have z10 := Z10.out; have z11 := Z11.out; have z12 := Z12.out; have z13 := Z13.out; have z14 := Z14.out; have z15 := Z15.out; have z16 := Z16.out; have z17 := Z17.out; have z18 := Z18.out; omega))
      clear HB_17 HV_17 HG_17 hk
      go_wp2_with fail
      refine (eqChangeS_n G0 W0 d1 d0 (adF xs hs x).length (adF xs hs x) rfl w18 HG_18.out.lst HV_18.out.lst HVL.out).mono ?_
      rintro e w19 ⟨rfl, hb⟩
      have Z19 := Lib.hid hb.size
      have HB_19 := Lib.hid (Below_next HB_18.out hb)
      have HV_19 := Lib.hid (HV_18.out.keepB hb)
      have HG_19 := Lib.hid (HG_18.out.keepB hb)
      clear HB_18 HV_18 HG_18 hb
      go_wp2_with fail
      refine (markChangeS_m _ G0 d1 (adF xs hs x) w19 HG_19.out HVL.out).mono ?_
      rintro e w20 ⟨rfl, hog, hk⟩
      clear HG_19
      have Z20 := Lib.hid hk.size
      have HB_20 := Lib.hid (HB_19.out.trans (hk.below HB_19.out.size (fun i hi => by have z1 := Z1.out; have z2 := Z2.out; have z3 := Z3.out; have z4 := Z4.out; have z5 := Z5.out; have z6 := Z6.out; have z7 := Z7.out; have z8 := Z8.out; have z9 := Z9.out; have z10 := Z10.out; have z11 := Z11.out; have z12 := Z12.out; have z13 := Z13.out; have z14 := Z14.out; have z15 := Z15.out; have z16 := Z16.out; have z17 := Z17.out; have z18 := Z18.out; have z19 := Z19.out; have z20 := Z20.out; omega)))
      have HV_20 := Lib.hid (HV_19.out.keep hk (fun i h1 h2 => by have z1 := Z1.out; have z2 := Z2.out; have z3 := Z3.out; have z4 := Z4.out; have z5 := Z5.out; have z6 := Z6.out; have z7 := Z7.out; have z8 := Z8.out; have z9 := Z9.out; have z10 := Z10.out; have z11 := Z11.out; have z12 := Z12.out; have z13 := Z13.out; have z14 := Z14.out; have z15 := Z15.out; have z16 := Z16.out; have z17 := Z17.out; have z18 := Z18.out; have z19 := Z19.out; have z20 := Z20.out; omega))
      clear HB_19 HV_19 hk
      have HG_20 := Lib.hid (hog)
      clear hog
      go_wp2_with fail
      refine (heldChangeS_m G0 d1 (adF xs hs x).length w20 HG_20.out.lst HVL.out).mono ?_
      rintro e w21 ⟨rfl, hb⟩
      have Z21 := Lib.hid hb.size
      have HB_21 := Lib.hid (Below_next HB_20.out hb)
      have HV_21 := Lib.hid (HV_20.out.keepB hb)
      have HG_21 := Lib.hid (HG_20.out.keepB hb)
      clear HB_20 HV_20 HG_20 hb
      go_wp2_with fail
      have hb := below_drew w21
      have Z22 := Lib.hid hb.size
      have HB_22 := Lib.hid (Below_next HB_21.out hb)
      have HV_22 := Lib.hid (HV_21.out.keepB hb)
      have HG_22 := Lib.hid (HG_21.out.keepB hb)
      clear HB_21 HV_21 HG_21 hb
      refine wp_region_held_drew (S := (fun w' => w'.cell? ⟨w.heap.size, 0, none⟩ = some (.int .i64 x.tick) ∧ w'.cell? ⟨w.heap.size, 1, none⟩ = some (.int .i64 x.caller) ∧ w'.cell? ⟨w.heap.size, 2, none⟩ = some (.int .i64 x.item) ∧ w'.cell? ⟨w.heap.size, 3, none⟩ = some (.int .i64 x.name) ∧ w'.cell? ⟨w.heap.size, 4, none⟩ = some (.int .i64 x.mark) ∧ w'.cell? ⟨w.heap.size, 5, none⟩ = some (.bool x.review))) (by kernel_rfl) ?_ (fun hHeld0 => ?_)
      · exact HXB.out _ HB_22.out
      refine wpAnyH_take (i := 0) (oi := _) (v := ?_) rfl (by kernel_rfl) (by kernel_rfl) (by kernel_rfl) (fun _ _ _ h => h) (Or.inl ⟨by rfl, ?_⟩) (by assumption) ?_
      rotate_left
      · (intro w hSw; (try dsimp only at hSw); go_simp; try with_reducible rfl)
      try simp only [Act.put, List.setIfInBounds_toArray, List.set_cons_zero, List.set_cons_succ, List.getElem_toArray, List.getElem_cons_zero]
      refine wpAnyH_take (i := 2) (oi := _) (v := ?_) rfl (by kernel_rfl) (by kernel_rfl) (by kernel_rfl) (fun _ _ _ h => h) (Or.inl ⟨by rfl, ?_⟩) (by assumption) ?_
      rotate_left
      · (intro w hSw; (try dsimp only at hSw); go_simp; try with_reducible rfl)
      try simp only [Act.put, List.setIfInBounds_toArray, List.set_cons_zero, List.set_cons_succ, List.getElem_toArray, List.getElem_cons_zero, List.getElem_cons_succ]
      refine wpAnyH_take (i := 4) (oi := _) (v := ?_) rfl (by kernel_rfl) (by kernel_rfl) (by kernel_rfl) (fun _ _ _ h => h) (Or.inl ⟨by rfl, ?_⟩) (by assumption) ?_
      rotate_left
      · (intro w hSw; (try dsimp only at hSw); go_simp; try with_reducible rfl)
      try simp only [Act.put, List.setIfInBounds_toArray, List.set_cons_zero, List.set_cons_succ, List.getElem_toArray, List.getElem_cons_zero, List.getElem_cons_succ]
      refine wpAnyH_ready (rs := [1]) (by kernel_rfl) (by simp) ?_
      refine AllReadyH.cons rfl (fun K hK => ?_) ?_
      rotate_left
      · exact AllReadyH.nil
      go_simp
      go_wp2_with (go_at_call 14; refine (toItemS_c P0 c0 xs _ (HP0.out.next HB_22.out) HF0.out).mono ?_; rintro e w23 ⟨rfl, ⟨ys23, g23, G23, hs, ho⟩, hb⟩; have Z23 := Lib.hid hb.size; have HB_23 := Lib.hid (Below_next HB_22.out hb); have HV_23 := Lib.hid (HV_22.out.keepB hb); have HG_23 := Lib.hid (HG_22.out.keepB hb); have HS23 := Lib.hid hs; have HIt0_23 := Lib.hid ho; clear hb hs ho)
      refine hK.out _ _ ?_ (fun hHeld23 => ?_)
      · ((try dsimp only); exact HXB.out _ HB_23.out)
      clear hK K
      refine wpAnyH_ready (rs := [3]) (by kernel_rfl) (by simp) ?_
      refine AllReadyH.cons rfl (fun K hK => ?_) ?_
      rotate_left
      · exact AllReadyH.nil
      go_simp
      go_wp2_with (go_at_call 15; refine (toChangeS_c P1 c1 hs _ (HP1.out.next HB_23.out) HF1.out).mono ?_; rintro e w24 ⟨rfl, ho, hb⟩; have Z24 := Lib.hid hb.size; have HB_24 := Lib.hid (Below_next HB_23.out hb); have HV_24 := Lib.hid (HV_23.out.keepB hb); have HG_24 := Lib.hid (HG_23.out.keepB hb); have HIt0_24 := Lib.hid (HIt0_23.out.next hb); have HIt1_24 := Lib.hid ho; clear hb ho)
      refine hK.out _ _ ?_ (fun hHeld24 => ?_)
      · ((try dsimp only); exact HXB.out _ HB_24.out)
      clear hK K
      refine wpAnyH_ready (rs := [5]) (by kernel_rfl) (by simp) ?_
      refine AllReadyH.cons rfl (fun K hK => ?_) ?_
      rotate_left
      · exact AllReadyH.nil
      go_simp
      go_wp2_with (go_at_call 32; refine (toChange_any x _).mono ?_; rintro e w25 ⟨rfl, hb⟩; have Z25 := Lib.hid hb.size; have HB_25 := Lib.hid (Below_next HB_24.out hb); have HV_25 := Lib.hid (HV_24.out.keepB hb); have HG_25 := Lib.hid (HG_24.out.keepB hb); have HIt0_25 := Lib.hid (HIt0_24.out.next hb); have HIt1_25 := Lib.hid (HIt1_24.out.keepB hb); clear hb)
      refine hK.out _ _ ?_ (fun hHeld25 => ?_)
      · ((try dsimp only); exact HXB.out _ HB_25.out)
      clear hK K
      refine wpAnyH_ready (rs := [6]) (by kernel_rfl) (by simp) ?_
      refine AllReadyH.cons rfl (fun K hK => ?_) ?_
      rotate_left
      · exact AllReadyH.nil
      go_simp
      go_wp2_with (go_at_call 33; refine (iAddChange_n _ _ _ xs ys23 HS23.out rfl _ _ hs x _ HIt0_25.out.ims HF0.out HIt1_25.out.lst HF1.out ⟨Nat.le_refl _, by have := HF1.out; omega⟩).mono ?_; rintro e w26 ⟨⟨H0, d2, rfl, hoh⟩, hb⟩; have Z26 := Lib.hid hb.size; have HB_26 := Lib.hid (Below_next HB_25.out hb); have HV_26 := Lib.hid (HV_25.out.keepB hb); have HG_26 := Lib.hid (HG_25.out.keepB hb); have HH_26 := Lib.hid hoh; clear hoh;  clear hb)
      refine hK.out _ _ ?_ (fun hHeld26 => ?_)
      · ((try dsimp only); exact HXB.out _ HB_26.out)
      clear hK K
      refine wpAnyH_take (i := 7) (oi := _) (v := ?_) rfl (by kernel_rfl) (by kernel_rfl) (by kernel_rfl) (fun _ _ _ h => h) (Or.inl ⟨by rfl, ?_⟩) (by assumption) ?_
      rotate_left
      · (intro w hSw; (try dsimp only at hSw); go_simp; try with_reducible rfl)
      try simp only [Act.put, List.setIfInBounds_toArray, List.set_cons_zero, List.set_cons_succ, List.getElem_toArray, List.getElem_cons_zero, List.getElem_cons_succ]
      refine wpAnyH_take (i := 8) (oi := _) (v := ?_) rfl (by kernel_rfl) (by kernel_rfl) (by kernel_rfl) (fun _ _ _ h => h) (Or.inl ⟨by rfl, ?_⟩) (by assumption) ?_
      rotate_left
      · (intro w hSw; (try dsimp only at hSw); go_simp; try with_reducible rfl)
      try simp only [Act.put, List.setIfInBounds_toArray, List.set_cons_zero, List.set_cons_succ, List.getElem_toArray, List.getElem_cons_zero, List.getElem_cons_succ]
      refine wpAnyH_take (i := 9) (oi := _) (v := ?_) rfl (by kernel_rfl) (by kernel_rfl) (by kernel_rfl) (fun _ _ _ h => h) (Or.inl ⟨by rfl, ?_⟩) (by assumption) ?_
      rotate_left
      · (intro w hSw; (try dsimp only at hSw); go_simp; try with_reducible rfl)
      try simp only [Act.put, List.setIfInBounds_toArray, List.set_cons_zero, List.set_cons_succ, List.getElem_toArray, List.getElem_cons_zero, List.getElem_cons_succ]
      refine wpAnyH_take (i := 10) (oi := _) (v := ?_) rfl (by kernel_rfl) (by kernel_rfl) (by kernel_rfl) (fun _ _ _ h => h) (Or.inl ⟨by rfl, ?_⟩) (by assumption) ?_
      rotate_left
      · (intro w hSw; (try dsimp only at hSw); go_simp; try with_reducible rfl)
      try simp only [Act.put, List.setIfInBounds_toArray, List.set_cons_zero, List.set_cons_succ, List.getElem_toArray, List.getElem_cons_zero, List.getElem_cons_succ]
      refine wpAnyH_take (i := 11) (oi := _) (v := ?_) rfl (by kernel_rfl) (by kernel_rfl) (by kernel_rfl) (fun _ _ _ h => h) (Or.inl ⟨by rfl, ?_⟩) (by assumption) ?_
      rotate_left
      · (intro w hSw; (try dsimp only at hSw); go_simp; try with_reducible rfl)
      try simp only [Act.put, List.setIfInBounds_toArray, List.set_cons_zero, List.set_cons_succ, List.getElem_toArray, List.getElem_cons_zero, List.getElem_cons_succ]
      refine wpAnyH_done (by kernel_rfl) ?_ _
      clear HB_22 HB_23 HB_24 HB_25 HV_22 HV_23 HV_24 HV_25 HG_22 HG_23 HG_24 HG_25
      go_wp2_with fail
      refine (eqChangeS_n H0 W0 d2 d0 (adF xs hs x).length (adF xs hs x) rfl w26 HH_26.out.lst HV_26.out.lst HVL.out).mono ?_
      rintro e w27 ⟨rfl, hb⟩
      have Z27 := Lib.hid hb.size
      have HB_27 := Lib.hid (Below_next HB_26.out hb)
      have HV_27 := Lib.hid (HV_26.out.keepB hb)
      have HG_27 := Lib.hid (HG_26.out.keepB hb)
      have HH_27 := Lib.hid (HH_26.out.keepB hb)
      clear HB_26 HV_26 HG_26 HH_26 hb
      go_wp2_with fail
      refine (heldChangeS_m G0 d1 (adF xs hs x).length w27 HG_27.out.lst HVL.out).mono ?_
      rintro e w28 ⟨rfl, hb⟩
      have Z28 := Lib.hid hb.size
      have HB_28 := Lib.hid (Below_next HB_27.out hb)
      have HV_28 := Lib.hid (HV_27.out.keepB hb)
      have HG_28 := Lib.hid (HG_27.out.keepB hb)
      have HH_28 := Lib.hid (HH_27.out.keepB hb)
      clear HB_27 HV_27 HG_27 HH_27 hb
      go_wp2
      go_ret
      exact ⟨rfl, Below_next HBW.out HB_28.out⟩
end Go.Proofs.Ythbkfekbpjkhnaa
