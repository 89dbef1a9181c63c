/- Marks without those of a judge, in the model. -/
import Derived.Test.YtfeffkjmjkddnaaMrR
import Derived.Deep.Cut
namespace Go.Proofs.Ytfeffkjmjkddnaa
open Go.ChangeShapes Go.WideShapes Go.ChangeAt Go.RowKit Go.Lib Go.Proofs Go.PlainAid
set_option linter.unusedVariables false

theorem rws_ctt (q : Rw (Rw Int)) : rwsTo q q.xs.length = ctt q := by
  unfold rwsTo ctt
  rw [List.take_length]
theorem ctt_vals {y : Rw (Rw Int)} {ps : List (List Int)} (h1 : y.xs.length = ps.length) (h2 : ∀ k, k < ps.length → (it y.xs k).xs = it ps k) : ctt y = ps := by
  refine it_ext _ _ (by rw [ctt_len]; exact h1) (fun i hi => ?_)
  rw [ctt_len] at hi
  rw [ctt_it]
  exact h2 i (by omega)
set_option maxHeartbeats 8000000 in
set_option maxRecDepth 20000 in
theorem mkWithout_any (x : Mr) (j : Nat) (w : World) (hr : MrIn w w.heap.size x) (hl : MrFits x) (hcap : MrCap x) (hk : MkL (ctt x.G) (ctt x.C)) (hj : j < jgs (ctt x.C)) :
    Calls Try.prog 59 #[.agg #[.slice x.G.A x.G.xs.length x.G.c, .slice x.C.A x.C.xs.length x.C.c], .int .i64 j] w fun e w' => (∃ y : Mr, e = .returned (.agg #[.slice y.G.A y.G.xs.length y.G.c, .slice y.C.A y.C.xs.length y.C.c]) ∧ MrAns ((ctt x.G).map (dropJ j)) ((ctt x.C).map (dropJ j)) w w' y) ∧ Below w.heap.size w w' := by
  obtain ⟨i0, hi, hz0, hz1, hz2⟩ := info_parts Try.infoRwIntS
  have HZ := Lib.hid (And.intro hi (And.intro hz0 (And.intro hz1 hz2)))
  clear hi hz0 hz1 hz2
  obtain ⟨i1, hi, hz0, hz1, hz2⟩ := info_parts Try.infoInt
  have HZI := Lib.hid (And.intro hi (And.intro hz0 (And.intro hz1 hz2)))
  have HR := Lib.hid hr
  have HF := Lib.hid hl
  have HK := Lib.hid hk
  have HCAP := Lib.hid hcap
  have HJJ := Lib.hid hj
  have hg1 := nfit_len hl.g
  have hc1 := nfit_len hl.c
  clear hr hl hk hcap hj hi hz0 hz1 hz2
  go_enter Try.func59, Try.ntmps59
  go_wp2_with fail
  generalize hW : World.alloc (World.alloc (World.alloc w _) _) _ = W
  have HBQ := Lib.hid (show Below w.heap.size w W by
    rw [← hW]
    go_grown)
  have hS : W.heap.size = w.heap.size + 3 := by rw [← hW]; simp
  have HOW := Lib.hid (show w.heap.size + 1 + 1 < W.heap.size by omega)
  have HX := Lib.hid (show Mem2 W w.heap.size (.slice x.G.A x.G.xs.length x.G.c) (.slice x.C.A x.C.xs.length x.C.c) by
    rw [← hW]
    exact ((mem2_new w _ _ rfl _ _).below ((Below.refl _ _).alloc (Nat.le_refl _) _) (by simp)).below ((Below.refl _ _).alloc (Nat.le_refl _) _) (by simp; omega))
  have HY := Lib.hid (show Mem2 W (w.heap.size + 1) (.slice none 0 0) (.slice none 0 0) by
    rw [← hW]
    exact (mem2_new _ _ _ (by simp) _ _).below ((Below.refl _ _).alloc (Nat.le_refl _) _) (by simp))
  have HM0 := Lib.hid (show Mem2 W (w.heap.size + 1 + 1) (.slice none 0 0) (.slice none 0 0) by
    rw [← hW]
    exact mem2_new _ _ _ (by simp) _ _)
  clear hW hS
  go_loopw [14] (fun i wr => ∃ (k : Nat) (v : Value) (ys : List (Rw Int)) (s : Nat → Nat), k ≤ x.G.xs.length ∧ i = .int .i64 k ∧ Hid (Mem2 wr (w.heap.size + 1 + 1) v (.slice none 0 0)) ∧ Hid (NAp W wr v ((rwsTo x.G k).map (dropJ j)) ys s) ∧ Hid (Only (fun i => i = w.heap.size + 1 + 1) W wr)) (fun i _ => x.G.xs.length - (intOf i).toNat)
  case atStart => exact ⟨0, .slice none 0 0, [], fun _ => 0, Nat.zero_le _, rfl, HM0, Lib.hid (NAp.zero _ _), Lib.hid (Only.refl _ _)⟩
  case round =>
    obtain ⟨k, v, ys, s, hk, rfl, HM, HA, HN⟩ := hrel
    have HWr := Lib.hid HN.out.size
    by_cases hlt : k < x.G.xs.length
    · have HCE := Lib.hid (fun w' (hb : Below W.heap.size wr w') => (HM.out.below hb HOW.out).c0)
      have HBd := Lib.hid (show Below W.heap.size wr wr.drew from (below_drew wr).mono HWr.out)
      have HBW := Lib.hid (show Below w.heap.size w wr from HBQ.out.trans (HN.out.below (B := w.heap.size) (by have := HBQ.out.size; omega) (fun i hi => by omega)))
      obtain ⟨b', o', hA', hbl', hc'⟩ := mr_cell HR.out.g (by omega)
      have hck := (HBW.out.cell (p := ⟨b', o' + k, none⟩) hbl').trans (hc' k hlt)
      have hlen : (it x.G.xs k).xs.length = jgs (ctt x.C) := by
        have h1 := (HK.out.gs k (by rw [ctt_len]; exact hlt)).len
        rw [ctt_it] at h1
        exact h1
      have HJ9 := Lib.hid (show j + 1 ≤ (it x.G.xs k).xs.length ∧ 3 ≤ (it x.G.xs k).xs.length ∧ (it x.G.xs k).xs.length ≤ 9 by
        have := HJJ.out
        have := HK.out.j3
        have := HK.out.j9
        omega)
      obtain ⟨bq, oq, hAq, hblq, hcq⟩ := (show Lst w w.heap.size (it x.G.xs k).A (it x.G.xs k).xs from mr_each HR.out.g k hlt).int (by have := HJ9.out; omega)
      have HLQ := Lib.hid (show Lst wr wr.heap.size (some ⟨bq, oq, none⟩) (it x.G.xs k).xs from by
        have h : Lst w w.heap.size (it x.G.xs k).A (it x.G.xs k).xs := mr_each HR.out.g k hlt
        rw [hAq] at h
        exact (h.below HBW.out (Nat.le_refl _)).up HBW.out.size)
      rw [hAq] at hck
      have HTL := Lib.hid (show ((it x.G.xs k).xs.take j).length = j by
        have := HJ9.out
        rw [List.length_take]
        omega)
      have HDL := Lib.hid (show j + ((it x.G.xs k).xs.length - (j + 1)) = (dropJ j (it x.G.xs k).xs).length by
        have := HJ9.out
        rw [dropJ_len _ _ (by omega)]
        omega)
      have hq1 : (0 : Int) ≤ (j : Int) := by omega
      have hq2 : (j : Int) ≤ ((it x.G.xs k).xs.length : Int) := by have := HJ9.out; omega
      have hq3 : (j : Int) + 1 ≤ ((it x.G.xs k).xs.length : Int) := by have := HJ9.out; omega
      have hq4 : (it x.G.xs k).xs.length ≤ (it x.G.xs k).c := (HCAP.out.g k hlt).1
      have hq5 : (it x.G.xs k).c ≤ 9223372036854775807 := (HCAP.out.g k hlt).2
      have hq6 : (it x.G.xs k).xs.length ≤ 9 := HJ9.out.2.2
      have hq7 : j ≤ (it x.G.xs k).c := by have := HJ9.out; omega
      have m1 : IntKind.i64.wrap ((j : Int) + 1) = (j : Int) + 1 := IntWalk.i64_in _ (by have := HJ9.out; omega)
      have m2 : ((j : Int) + 1).toNat = j + 1 := by omega
      have m3 : (0 : Int) ≤ (j : Int) + 1 := by omega
      have HYL := Lib.hid (show ys.length = k ∧ k < 1000 by
        have h1 := HA.out.len
        rw [List.length_map, rwsTo_len _ _ (by omega)] at h1
        have h2 := HK.out.few
        have h3 := HK.out.three
        rw [ctt_len] at h2 h3
        omega)
      have HSU := Lib.hid (show (rwsTo x.G (k + 1)).map (dropJ j) = (rwsTo x.G k).map (dropJ j) ++ [dropJ j (it x.G.xs k).xs] by rw [rwsTo_succ x.G k hlt, List.map_append]; rfl)
      rw [hA']
      clear hc' hA' hcq hAq hlen
      go_upto_region 5 with fail
      clear hck
      refine wp_region_F_drew (fun w' => w'.cell? ⟨w.heap.size + 1 + 1, 0, none⟩ = some v) 14 (by kernel_rfl) ?_ (fun hHeld0 => ?_)
      · ((try dsimp only); exact HCE.out _ HBd.out)
      refine wpAnyF_take (i := 0) (oi := _) (v := ?_) rfl (by kernel_rfl) (by kernel_rfl) (by kernel_rfl) (by kernel_rfl) (fun _ _ _ h => h) (Or.inl ⟨by rfl, ?_⟩) (by assumption) ?_
      rotate_left
      · (intro w hSw; (try dsimp only at hSw); go_simp; try with_reducible rfl)
      try simp only [Act.put, List.setIfInBounds_toArray, List.set_cons_zero, List.set_cons_succ, List.getElem_toArray, List.getElem_cons_zero]
      refine wpAnyF_take (i := 1) (oi := _) (v := ?_) rfl (by kernel_rfl) (by kernel_rfl) (by kernel_rfl) (by kernel_rfl) (fun _ _ _ h => h) (Or.inl ⟨by rfl, ?_⟩) (by assumption) ?_
      rotate_left
      · (intro w hSw; (try dsimp only at hSw); go_simp; try with_reducible rfl)
      try simp only [Act.put, List.setIfInBounds_toArray, List.set_cons_zero, List.set_cons_succ, List.getElem_toArray, List.getElem_cons_zero, List.getElem_cons_succ]
      refine wpAnyF_take (i := 2) (oi := _) (v := ?_) rfl (by kernel_rfl) (by kernel_rfl) (by kernel_rfl) (by kernel_rfl) (fun _ _ _ h => h) (Or.inl ⟨by rfl, ?_⟩) (by assumption) ?_
      rotate_left
      · (intro w hSw; (try dsimp only at hSw); go_simp; try with_reducible rfl)
      try simp only [Act.put, List.setIfInBounds_toArray, List.set_cons_zero, List.set_cons_succ, List.getElem_toArray, List.getElem_cons_zero, List.getElem_cons_succ]
      refine wpAnyF_take (i := 3) (oi := _) (v := ?_) rfl (by kernel_rfl) (by kernel_rfl) (by kernel_rfl) (by kernel_rfl) (fun _ _ _ h => h) (Or.inl ⟨by rfl, ?_⟩) (by assumption) ?_
      rotate_left
      · (intro w hSw; (try dsimp only at hSw); go_simp; try with_reducible rfl)
      try simp only [Act.put, List.setIfInBounds_toArray, List.set_cons_zero, List.set_cons_succ, List.getElem_toArray, List.getElem_cons_zero, List.getElem_cons_succ]
      refine wpAnyF_take (i := 4) (oi := _) (v := ?_) rfl (by kernel_rfl) (by kernel_rfl) (by kernel_rfl) (by kernel_rfl) (fun _ _ _ h => h) (Or.inl ⟨by rfl, ?_⟩) (by assumption) ?_
      rotate_left
      · (intro w hSw; (try dsimp only at hSw); go_simp; try with_reducible rfl)
      try simp only [Act.put, List.setIfInBounds_toArray, List.set_cons_zero, List.set_cons_succ, List.getElem_toArray, List.getElem_cons_zero, List.getElem_cons_succ]
      refine wpAnyF_take (i := 6) (oi := _) (v := ?_) rfl (by kernel_rfl) (by kernel_rfl) (by kernel_rfl) (by kernel_rfl) (fun _ _ _ h => h) (Or.inl ⟨by rfl, ?_⟩) (by assumption) ?_
      rotate_left
      · (intro w hSw; (try dsimp only at hSw); go_simp; try with_reducible rfl)
      try simp only [Act.put, List.setIfInBounds_toArray, List.set_cons_zero, List.set_cons_succ, List.getElem_toArray, List.getElem_cons_zero, List.getElem_cons_succ]
      refine wpAnyF_take (i := 7) (oi := _) (v := ?_) rfl (by kernel_rfl) (by kernel_rfl) (by kernel_rfl) (by kernel_rfl) (fun _ _ _ h => h) (Or.inl ⟨by rfl, ?_⟩) (by assumption) ?_
      rotate_left
      · (intro w hSw; (try dsimp only at hSw); go_simp; try with_reducible rfl)
      try simp only [Act.put, List.setIfInBounds_toArray, List.set_cons_zero, List.set_cons_succ, List.getElem_toArray, List.getElem_cons_zero, List.getElem_cons_succ]
      refine wpAnyF_take (i := 8) (oi := _) (v := ?_) rfl (by kernel_rfl) (by kernel_rfl) (by kernel_rfl) (by kernel_rfl) (fun _ _ _ h => h) (Or.inl ⟨by rfl, ?_⟩) (by assumption) ?_
      rotate_left
      · (intro w hSw; (try dsimp only at hSw); go_simp; try with_reducible rfl)
      try simp only [Act.put, List.setIfInBounds_toArray, List.set_cons_zero, List.set_cons_succ, List.getElem_toArray, List.getElem_cons_zero, List.getElem_cons_succ]
      refine wpAnyF_take (i := 9) (oi := _) (v := ?_) rfl (by kernel_rfl) (by kernel_rfl) (by kernel_rfl) (by kernel_rfl) (fun _ _ _ h => h) (Or.inl ⟨by rfl, ?_⟩) (by assumption) ?_
      rotate_left
      · (intro w hSw; (try dsimp only at hSw); go_simp; try with_reducible rfl)
      try simp only [Act.put, List.setIfInBounds_toArray, List.set_cons_zero, List.set_cons_succ, List.getElem_toArray, List.getElem_cons_zero, List.getElem_cons_succ]
      generalize hAd : (if (it x.G.xs k).c = j + 1 then (some ⟨bq, oq, none⟩ : Option Addr) else some ⟨bq, oq + (j + 1), none⟩) = Ad
      have HAD := Lib.hid hAd
      clear hAd
      refine wpAnyF_one (i := 5) (by kernel_rfl) rfl (fun K hK => ?_)
      go_simp
      go_wp2_with (go_at_call 67; refine (l1OwnR_any (some ⟨bq, oq, none⟩) (it x.G.xs k).c ((it x.G.xs k).xs.take j) j HTL.out _ (lst_take HLQ.out (below_drew wr)) (by have := HJ9.out; omega)).mono ?_; rintro e wa ⟨va, rfl, hra, hb⟩; have HRA := Lib.hid hra; have HLa := Lib.hid (below_next (below_drew wr) hb); have HBa := Lib.hid (show Below W.heap.size wr wa from (below_next (below_drew wr) hb).mono HWr.out); have HWb := Lib.hid (show wr.heap.size ≤ wa.heap.size from hb.size); clear hra hb)
      refine hK.out _ _ ?_ (fun hHeld1 => ?_)
      · ((try dsimp only); first | (with_reducible exact HCE.out _ HBd.out) | (with_reducible exact HCE.out _ HBa.out) | (with_reducible exact HCE.out _ HBc.out) | (with_reducible exact HCE.out _ (Below.trans HBc.out (Below.alloc (Below.refl _ _) HWc.out _))) | (with_reducible exact HCE.out _ HBb.out) | fail)
      clear hK K
      refine wpAnyF_one (i := 10) (by kernel_rfl) rfl (fun K hK => ?_)
      (refine step_append_src _ (by rfl) (.tmp 23) (.tmp 27) 34 (by rfl) wr.drew.heap.size 3 i1 (.int .i64 0) 8 Try.underlying34 HZI.out.1 HZI.out.2.1 HZI.out.2.2.1 HZI.out.2.2.2 rfl _ j (((it x.G.xs k).xs.take j).map (Value.int .i64)) (by rfl) HRA.out _ _ _ (((it x.G.xs k).xs.drop (j + 1)).map (Value.int .i64)) (by rfl) (by rw [List.length_map, List.length_drop]) (fun hp => ⟨_, by rw [← HAD.out]; exact if_neg (by omega), drop_cell HLQ.out HLa.out⟩) (int_one _) (by have := HJ9.out; unfold maxLen; omega) (by have := HJ9.out; omega) HWb.out ?_; intro vc wc hown hgrow hat; have HLc := Lib.hid (show Below wr.heap.size wr wc from Below.grown HLa.out hgrow HWb.out (fun m e => (HRA.out.lt m e).1)); have HBc := Lib.hid (show Below W.heap.size wr wc from HLc.out.mono HWr.out); have HWc := Lib.hid (Nat.le_trans HWr.out HLc.out.size); obtain ⟨g1, c1, hv1, hg1, hg2⟩ := row_pos hown (by have := HJ9.out; omega); subst hv1; have HG1 := Lib.hid (show wr.heap.size ≤ g1 ∧ g1 < wc.heap.size from ⟨hg1, hg2⟩); have HO1 := Lib.hid (show OwnAt wc g1 0 (dropJ j (it x.G.xs k).xs) from drop_own hown HDL.out); rw [HDL.out]; clear hown hgrow hat hg1 hg2)
      refine hK.out _ _ ?_ (fun hHeld2 => ?_)
      · ((try dsimp only); first | (with_reducible exact HCE.out _ HBd.out) | (with_reducible exact HCE.out _ HBa.out) | (with_reducible exact HCE.out _ HBc.out) | (with_reducible exact HCE.out _ (Below.trans HBc.out (Below.alloc (Below.refl _ _) HWc.out _))) | (with_reducible exact HCE.out _ HBb.out) | fail)
      clear hK K
      refine wpAnyF_one (i := 11) (by kernel_rfl) rfl (fun K hK => ?_)
      go_simp
      refine hK.out _ _ ?_ (fun hHeld3 => ?_)
      · ((try dsimp only); first | (with_reducible exact HCE.out _ HBd.out) | (with_reducible exact HCE.out _ HBa.out) | (with_reducible exact HCE.out _ HBc.out) | (with_reducible exact HCE.out _ (Below.trans HBc.out (Below.alloc (Below.refl _ _) HWc.out _))) | (with_reducible exact HCE.out _ HBb.out) | fail)
      clear hK K
      refine wpAnyF_one (i := 12) (by kernel_rfl) rfl (fun K hK => ?_)
      (refine step_append_src _ (by rfl) (.tmp 19) (.tmp 29) 22 (by rfl) W.heap.size 34 i0 (.slice none 0 0) 24 Try.underlying22 HZ.out.1 HZ.out.2.1 HZ.out.2.2.1 HZ.out.2.2.2 rfl _ ys.length (ys.flatMap Flat.cells) (by rfl) ((own_next HA.out.row HLc.out).alloc _) (some ⟨wc.heap.size, 0, none⟩) 1 1 [.slice (some ⟨g1, 0, none⟩) (dropJ j (it x.G.xs k).xs).length c1] (by rfl) rfl (fun _ => ⟨_, rfl, one_slice (by simp)⟩) (one_sliceC _ _ _) (by have := HYL.out; unfold maxLen; omega) (by have := HYL.out; omega) (by have := HWc.out; simp; omega) ?_; intro v1 w5 hown hgrow hat; have HP := Lib.hid (HA.out.more HWr.out HLc.out HG1.out.1 HG1.out.2 HO1.out hown hgrow (hat.imp id (fun e => by rw [e]; simp))); have HBb := Lib.hid (show Below W.heap.size wr w5 from Below.grown (HBc.out.alloc HWc.out _) hgrow (by have := HWc.out; simp; omega) (fun m e => (HA.out.row.lt m e).1)); obtain ⟨m0, m1, mf⟩ := HM.out.below HBb.out HOW.out; obtain ⟨A1, d1, rfl⟩ := slice_form hown; clear hown hgrow hat)
      refine hK.out _ _ ?_ (fun hHeld4 => ?_)
      · ((try dsimp only); first | (with_reducible exact HCE.out _ HBd.out) | (with_reducible exact HCE.out _ HBa.out) | (with_reducible exact HCE.out _ HBc.out) | (with_reducible exact HCE.out _ (Below.trans HBc.out (Below.alloc (Below.refl _ _) HWc.out _))) | (with_reducible exact HCE.out _ HBb.out) | fail)
      clear hK K
      refine wpAnyF_take (i := 13) (oi := _) (v := ?_) rfl (by kernel_rfl) (by kernel_rfl) (by kernel_rfl) (by kernel_rfl) (fun _ _ _ h => h) (Or.inl ⟨by rfl, ?_⟩) (by assumption) ?_
      rotate_left
      · (intro w hSw; (try dsimp only at hSw); go_simp; try with_reducible rfl)
      try simp only [Act.put, List.setIfInBounds_toArray, List.set_cons_zero, List.set_cons_succ, List.getElem_toArray, List.getElem_cons_zero, List.getElem_cons_succ]
      refine wpAnyF_last (by kernel_rfl) rfl (fun K hK => ?_)
      go_simp
      refine hK.out _ _ ?_
      clear hK K
      refine wpAnyF_done (by kernel_rfl) ?_ _
      go_wp2
      go_roundw
      case rel => exact ⟨k + 1, _, _, _, by omega, by go_num, Lib.hid ((HM.out.below HBb.out HOW.out).set0 _), by rw [HSU.out]; exact Lib.hid (HP.out.1.low ⟨w.heap.size + 1 + 1, 0, none⟩ HOW.out _), Lib.hid ((HN.out.then (show Below W.heap.size wr w5 from HBb.out)).setCell (S := fun i => i = w.heap.size + 1 + 1) (p := ⟨w.heap.size + 1 + 1, 0, none⟩) rfl _)⟩
      case measure => simp [intOf]; omega
    · obtain rfl : k = x.G.xs.length := by omega
      obtain ⟨yG, rfl, hG0, hG1, hG2⟩ := HA.out.done
      have HG1 := Lib.hid (show ctt yG = (ctt x.G).map (dropJ j) by rw [← rws_ctt x.G]; exact ctt_vals hG0 hG1)
      have HG2 := Lib.hid hG2
      have HBG := Lib.hid (show Below w.heap.size w wr from HBQ.out.trans (HN.out.below (B := w.heap.size) (by have := HBQ.out.size; omega) (fun i hi => by omega)))
      obtain ⟨W1, hW1⟩ : ∃ W1 : World, W1 = wr := ⟨_, rfl⟩
      rw [← hW1] at HM HA HN HG2 HBG HWr ⊢
      clear hW1
      have HX1 := Lib.hid (HX.out.only HN.out (by have := HOW.out; omega) (by omega))
      have HY1 := Lib.hid (HY.out.only HN.out (by have := HOW.out; omega) (by omega))
      obtain ⟨x0, x1, xf⟩ := HX1.out
      go_wp2_with fail
      clear x0 x1 xf hG0 hG1 hG2 HM0 HBQ
      have HM0 := Lib.hid HM.out
      have HBQ := Lib.hid HBG.out
      have HOWo := Lib.hid HOW.out
      clear HOW
      have HOW := Lib.hid (Nat.lt_of_lt_of_le HOWo.out HWr.out)
      clear HM HBG HWr
      go_loopw [36] (fun i wr => ∃ (k : Nat) (v : Value) (ys : List (Rw Int)) (s : Nat → Nat), k ≤ x.C.xs.length ∧ i = .int .i64 k ∧ Hid (Mem2 wr (w.heap.size + 1 + 1) (.slice yG.A yG.xs.length yG.c) v) ∧ Hid (NAp W1 wr v ((rwsTo x.C k).map (dropJ j)) ys s) ∧ Hid (Only (fun i => i = w.heap.size + 1 + 1) W1 wr)) (fun i _ => x.C.xs.length - (intOf i).toNat)
      case atStart => exact ⟨0, .slice none 0 0, [], fun _ => 0, Nat.zero_le _, rfl, HM0, Lib.hid (NAp.zero _ _), Lib.hid (Only.refl _ _)⟩
      case round =>
        obtain ⟨k, v, ys, s, hk, rfl, HM, HA, HN⟩ := hrel
        have HWr := Lib.hid HN.out.size
        by_cases hlt : k < x.C.xs.length
        · have HCE := Lib.hid (fun w' (hb : Below W1.heap.size wr w') => (HM.out.below hb HOW.out).c1)
          have HBd := Lib.hid (show Below W1.heap.size wr wr.drew from (below_drew wr).mono HWr.out)
          have HBW := Lib.hid (show Below w.heap.size w wr from HBQ.out.trans (HN.out.below (B := w.heap.size) (by have := HBQ.out.size; omega) (fun i hi => by omega)))
          obtain ⟨b', o', hA', hbl', hc'⟩ := mr_cell HR.out.c (by omega)
          have hck := (HBW.out.cell (p := ⟨b', o' + k, none⟩) hbl').trans (hc' k hlt)
          have hlen : (it x.C.xs k).xs.length = jgs (ctt x.C) := by
            have h1 := (HK.out.cs k (by rw [ctt_len]; exact hlt)).len
            rw [ctt_it] at h1
            exact h1
          have HJ9 := Lib.hid (show j + 1 ≤ (it x.C.xs k).xs.length ∧ 3 ≤ (it x.C.xs k).xs.length ∧ (it x.C.xs k).xs.length ≤ 9 by
            have := HJJ.out
            have := HK.out.j3
            have := HK.out.j9
            omega)
          obtain ⟨bq, oq, hAq, hblq, hcq⟩ := (show Lst w w.heap.size (it x.C.xs k).A (it x.C.xs k).xs from mr_each HR.out.c k hlt).int (by have := HJ9.out; omega)
          have HLQ := Lib.hid (show Lst wr wr.heap.size (some ⟨bq, oq, none⟩) (it x.C.xs k).xs from by
            have h : Lst w w.heap.size (it x.C.xs k).A (it x.C.xs k).xs := mr_each HR.out.c k hlt
            rw [hAq] at h
            exact (h.below HBW.out (Nat.le_refl _)).up HBW.out.size)
          rw [hAq] at hck
          have HTL := Lib.hid (show ((it x.C.xs k).xs.take j).length = j by
            have := HJ9.out
            rw [List.length_take]
            omega)
          have HDL := Lib.hid (show j + ((it x.C.xs k).xs.length - (j + 1)) = (dropJ j (it x.C.xs k).xs).length by
            have := HJ9.out
            rw [dropJ_len _ _ (by omega)]
            omega)
          have hq1 : (0 : Int) ≤ (j : Int) := by omega
          have hq2 : (j : Int) ≤ ((it x.C.xs k).xs.length : Int) := by have := HJ9.out; omega
          have hq3 : (j : Int) + 1 ≤ ((it x.C.xs k).xs.length : Int) := by have := HJ9.out; omega
          have hq4 : (it x.C.xs k).xs.length ≤ (it x.C.xs k).c := (HCAP.out.c k hlt).1
          have hq5 : (it x.C.xs k).c ≤ 9223372036854775807 := (HCAP.out.c k hlt).2
          have hq6 : (it x.C.xs k).xs.length ≤ 9 := HJ9.out.2.2
          have hq7 : j ≤ (it x.C.xs k).c := by have := HJ9.out; omega
          have m1 : IntKind.i64.wrap ((j : Int) + 1) = (j : Int) + 1 := IntWalk.i64_in _ (by have := HJ9.out; omega)
          have m2 : ((j : Int) + 1).toNat = j + 1 := by omega
          have m3 : (0 : Int) ≤ (j : Int) + 1 := by omega
          have HYL := Lib.hid (show ys.length = k ∧ k < 1000 by
            have h1 := HA.out.len
            rw [List.length_map, rwsTo_len _ _ (by omega)] at h1
            have h2 := HK.out.few
            have h3 := HK.out.three
            rw [ctt_len] at h2 h3
            omega)
          have HSU := Lib.hid (show (rwsTo x.C (k + 1)).map (dropJ j) = (rwsTo x.C k).map (dropJ j) ++ [dropJ j (it x.C.xs k).xs] by rw [rwsTo_succ x.C k hlt, List.map_append]; rfl)
          rw [hA']
          clear hc' hA' hcq hAq hlen
          go_upto_region 10 with fail
          clear hck
          refine wp_region_F_drew (fun w' => w'.cell? ⟨w.heap.size + 1 + 1, 1, none⟩ = some v) 14 (by kernel_rfl) ?_ (fun hHeld0 => ?_)
          · ((try dsimp only); exact HCE.out _ HBd.out)
          refine wpAnyF_take (i := 0) (oi := _) (v := ?_) rfl (by kernel_rfl) (by kernel_rfl) (by kernel_rfl) (by kernel_rfl) (fun _ _ _ h => h) (Or.inl ⟨by rfl, ?_⟩) (by assumption) ?_
          rotate_left
          · (intro w hSw; (try dsimp only at hSw); go_simp; try with_reducible rfl)
          try simp only [Act.put, List.setIfInBounds_toArray, List.set_cons_zero, List.set_cons_succ, List.getElem_toArray, List.getElem_cons_zero]
          refine wpAnyF_take (i := 1) (oi := _) (v := ?_) rfl (by kernel_rfl) (by kernel_rfl) (by kernel_rfl) (by kernel_rfl) (fun _ _ _ h => h) (Or.inl ⟨by rfl, ?_⟩) (by assumption) ?_
          rotate_left
          · (intro w hSw; (try dsimp only at hSw); go_simp; try with_reducible rfl)
          try simp only [Act.put, List.setIfInBounds_toArray, List.set_cons_zero, List.set_cons_succ, List.getElem_toArray, List.getElem_cons_zero, List.getElem_cons_succ]
          refine wpAnyF_take (i := 2) (oi := _) (v := ?_) rfl (by kernel_rfl) (by kernel_rfl) (by kernel_rfl) (by kernel_rfl) (fun _ _ _ h => h) (Or.inl ⟨by rfl, ?_⟩) (by assumption) ?_
          rotate_left
          · (intro w hSw; (try dsimp only at hSw); go_simp; try with_reducible rfl)
          try simp only [Act.put, List.setIfInBounds_toArray, List.set_cons_zero, List.set_cons_succ, List.getElem_toArray, List.getElem_cons_zero, List.getElem_cons_succ]
          refine wpAnyF_take (i := 3) (oi := _) (v := ?_) rfl (by kernel_rfl) (by kernel_rfl) (by kernel_rfl) (by kernel_rfl) (fun _ _ _ h => h) (Or.inl ⟨by rfl, ?_⟩) (by assumption) ?_
          rotate_left
          · (intro w hSw; (try dsimp only at hSw); go_simp; try with_reducible rfl)
          try simp only [Act.put, List.setIfInBounds_toArray, List.set_cons_zero, List.set_cons_succ, List.getElem_toArray, List.getElem_cons_zero, List.getElem_cons_succ]
          refine wpAnyF_take (i := 4) (oi := _) (v := ?_) rfl (by kernel_rfl) (by kernel_rfl) (by kernel_rfl) (by kernel_rfl) (fun _ _ _ h => h) (Or.inl ⟨by rfl, ?_⟩) (by assumption) ?_
          rotate_left
          · (intro w hSw; (try dsimp only at hSw); go_simp; try with_reducible rfl)
          try simp only [Act.put, List.setIfInBounds_toArray, List.set_cons_zero, List.set_cons_succ, List.getElem_toArray, List.getElem_cons_zero, List.getElem_cons_succ]
          refine wpAnyF_take (i := 6) (oi := _) (v := ?_) rfl (by kernel_rfl) (by kernel_rfl) (by kernel_rfl) (by kernel_rfl) (fun _ _ _ h => h) (Or.inl ⟨by rfl, ?_⟩) (by assumption) ?_
          rotate_left
          · (intro w hSw; (try dsimp only at hSw); go_simp; try with_reducible rfl)
          try simp only [Act.put, List.setIfInBounds_toArray, List.set_cons_zero, List.set_cons_succ, List.getElem_toArray, List.getElem_cons_zero, List.getElem_cons_succ]
          refine wpAnyF_take (i := 7) (oi := _) (v := ?_) rfl (by kernel_rfl) (by kernel_rfl) (by kernel_rfl) (by kernel_rfl) (fun _ _ _ h => h) (Or.inl ⟨by rfl, ?_⟩) (by assumption) ?_
          rotate_left
          · (intro w hSw; (try dsimp only at hSw); go_simp; try with_reducible rfl)
          try simp only [Act.put, List.setIfInBounds_toArray, List.set_cons_zero, List.set_cons_succ, List.getElem_toArray, List.getElem_cons_zero, List.getElem_cons_succ]
          refine wpAnyF_take (i := 8) (oi := _) (v := ?_) rfl (by kernel_rfl) (by kernel_rfl) (by kernel_rfl) (by kernel_rfl) (fun _ _ _ h => h) (Or.inl ⟨by rfl, ?_⟩) (by assumption) ?_
          rotate_left
          · (intro w hSw; (try dsimp only at hSw); go_simp; try with_reducible rfl)
          try simp only [Act.put, List.setIfInBounds_toArray, List.set_cons_zero, List.set_cons_succ, List.getElem_toArray, List.getElem_cons_zero, List.getElem_cons_succ]
          refine wpAnyF_take (i := 9) (oi := _) (v := ?_) rfl (by kernel_rfl) (by kernel_rfl) (by kernel_rfl) (by kernel_rfl) (fun _ _ _ h => h) (Or.inl ⟨by rfl, ?_⟩) (by assumption) ?_
          rotate_left
          · (intro w hSw; (try dsimp only at hSw); go_simp; try with_reducible rfl)
          try simp only [Act.put, List.setIfInBounds_toArray, List.set_cons_zero, List.set_cons_succ, List.getElem_toArray, List.getElem_cons_zero, List.getElem_cons_succ]
          generalize hAd : (if (it x.C.xs k).c = j + 1 then (some ⟨bq, oq, none⟩ : Option Addr) else some ⟨bq, oq + (j + 1), none⟩) = Ad
          have HAD := Lib.hid hAd
          clear hAd
          refine wpAnyF_one (i := 5) (by kernel_rfl) rfl (fun K hK => ?_)
          go_simp
          go_wp2_with (go_at_call 67; refine (l1OwnR_any (some ⟨bq, oq, none⟩) (it x.C.xs k).c ((it x.C.xs k).xs.take j) j HTL.out _ (lst_take HLQ.out (below_drew wr)) (by have := HJ9.out; omega)).mono ?_; rintro e wa ⟨va, rfl, hra, hb⟩; have HRA := Lib.hid hra; have HLa := Lib.hid (below_next (below_drew wr) hb); have HBa := Lib.hid (show Below W1.heap.size wr wa from (below_next (below_drew wr) hb).mono HWr.out); have HWb := Lib.hid (show wr.heap.size ≤ wa.heap.size from hb.size); clear hra hb)
          refine hK.out _ _ ?_ (fun hHeld1 => ?_)
          · ((try dsimp only); first | (with_reducible exact HCE.out _ HBd.out) | (with_reducible exact HCE.out _ HBa.out) | (with_reducible exact HCE.out _ HBc.out) | (with_reducible exact HCE.out _ (Below.trans HBc.out (Below.alloc (Below.refl _ _) HWc.out _))) | (with_reducible exact HCE.out _ HBb.out) | fail)
          clear hK K
          refine wpAnyF_one (i := 10) (by kernel_rfl) rfl (fun K hK => ?_)
          (refine step_append_src _ (by rfl) (.tmp 45) (.tmp 49) 34 (by rfl) wr.drew.heap.size 3 i1 (.int .i64 0) 8 Try.underlying34 HZI.out.1 HZI.out.2.1 HZI.out.2.2.1 HZI.out.2.2.2 rfl _ j (((it x.C.xs k).xs.take j).map (Value.int .i64)) (by rfl) HRA.out _ _ _ (((it x.C.xs k).xs.drop (j + 1)).map (Value.int .i64)) (by rfl) (by rw [List.length_map, List.length_drop]) (fun hp => ⟨_, by rw [← HAD.out]; exact if_neg (by omega), drop_cell HLQ.out HLa.out⟩) (int_one _) (by have := HJ9.out; unfold maxLen; omega) (by have := HJ9.out; omega) HWb.out ?_; intro vc wc hown hgrow hat; have HLc := Lib.hid (show Below wr.heap.size wr wc from Below.grown HLa.out hgrow HWb.out (fun m e => (HRA.out.lt m e).1)); have HBc := Lib.hid (show Below W1.heap.size wr wc from HLc.out.mono HWr.out); have HWc := Lib.hid (Nat.le_trans HWr.out HLc.out.size); obtain ⟨g1, c1, hv1, hg1, hg2⟩ := row_pos hown (by have := HJ9.out; omega); subst hv1; have HG1 := Lib.hid (show wr.heap.size ≤ g1 ∧ g1 < wc.heap.size from ⟨hg1, hg2⟩); have HO1 := Lib.hid (show OwnAt wc g1 0 (dropJ j (it x.C.xs k).xs) from drop_own hown HDL.out); rw [HDL.out]; clear hown hgrow hat hg1 hg2)
          refine hK.out _ _ ?_ (fun hHeld2 => ?_)
          · ((try dsimp only); first | (with_reducible exact HCE.out _ HBd.out) | (with_reducible exact HCE.out _ HBa.out) | (with_reducible exact HCE.out _ HBc.out) | (with_reducible exact HCE.out _ (Below.trans HBc.out (Below.alloc (Below.refl _ _) HWc.out _))) | (with_reducible exact HCE.out _ HBb.out) | fail)
          clear hK K
          refine wpAnyF_one (i := 11) (by kernel_rfl) rfl (fun K hK => ?_)
          go_simp
          refine hK.out _ _ ?_ (fun hHeld3 => ?_)
          · ((try dsimp only); first | (with_reducible exact HCE.out _ HBd.out) | (with_reducible exact HCE.out _ HBa.out) | (with_reducible exact HCE.out _ HBc.out) | (with_reducible exact HCE.out _ (Below.trans HBc.out (Below.alloc (Below.refl _ _) HWc.out _))) | (with_reducible exact HCE.out _ HBb.out) | fail)
          clear hK K
          refine wpAnyF_one (i := 12) (by kernel_rfl) rfl (fun K hK => ?_)
          (refine step_append_src _ (by rfl) (.tmp 41) (.tmp 51) 22 (by rfl) W1.heap.size 34 i0 (.slice none 0 0) 24 Try.underlying22 HZ.out.1 HZ.out.2.1 HZ.out.2.2.1 HZ.out.2.2.2 rfl _ ys.length (ys.flatMap Flat.cells) (by rfl) ((own_next HA.out.row HLc.out).alloc _) (some ⟨wc.heap.size, 0, none⟩) 1 1 [.slice (some ⟨g1, 0, none⟩) (dropJ j (it x.C.xs k).xs).length c1] (by rfl) rfl (fun _ => ⟨_, rfl, one_slice (by simp)⟩) (one_sliceC _ _ _) (by have := HYL.out; unfold maxLen; omega) (by have := HYL.out; omega) (by have := HWc.out; simp; omega) ?_; intro v1 w5 hown hgrow hat; have HP := Lib.hid (HA.out.more HWr.out HLc.out HG1.out.1 HG1.out.2 HO1.out hown hgrow (hat.imp id (fun e => by rw [e]; simp))); have HBb := Lib.hid (show Below W1.heap.size wr w5 from Below.grown (HBc.out.alloc HWc.out _) hgrow (by have := HWc.out; simp; omega) (fun m e => (HA.out.row.lt m e).1)); obtain ⟨m0, m1, mf⟩ := HM.out.below HBb.out HOW.out; obtain ⟨A1, d1, rfl⟩ := slice_form hown; clear hown hgrow hat)
          refine hK.out _ _ ?_ (fun hHeld4 => ?_)
          · ((try dsimp only); first | (with_reducible exact HCE.out _ HBd.out) | (with_reducible exact HCE.out _ HBa.out) | (with_reducible exact HCE.out _ HBc.out) | (with_reducible exact HCE.out _ (Below.trans HBc.out (Below.alloc (Below.refl _ _) HWc.out _))) | (with_reducible exact HCE.out _ HBb.out) | fail)
          clear hK K
          refine wpAnyF_take (i := 13) (oi := _) (v := ?_) rfl (by kernel_rfl) (by kernel_rfl) (by kernel_rfl) (by kernel_rfl) (fun _ _ _ h => h) (Or.inl ⟨by rfl, ?_⟩) (by assumption) ?_
          rotate_left
          · (intro w hSw; (try dsimp only at hSw); go_simp; try with_reducible rfl)
          try simp only [Act.put, List.setIfInBounds_toArray, List.set_cons_zero, List.set_cons_succ, List.getElem_toArray, List.getElem_cons_zero, List.getElem_cons_succ]
          refine wpAnyF_last (by kernel_rfl) rfl (fun K hK => ?_)
          go_simp
          refine hK.out _ _ ?_
          clear hK K
          refine wpAnyF_done (by kernel_rfl) ?_ _
          go_wp2
          go_roundw
          case rel => exact ⟨k + 1, _, _, _, by omega, by go_num, Lib.hid ((HM.out.below HBb.out HOW.out).set1 _), by rw [HSU.out]; exact Lib.hid (HP.out.1.low ⟨w.heap.size + 1 + 1, 1, none⟩ HOW.out _), Lib.hid ((HN.out.then (show Below W1.heap.size wr w5 from HBb.out)).setCell (S := fun i => i = w.heap.size + 1 + 1) (p := ⟨w.heap.size + 1 + 1, 1, none⟩) rfl _)⟩
          case measure => simp [intOf]; omega
        · obtain rfl : k = x.C.xs.length := by omega
          obtain ⟨yC, rfl, hC0, hC1, hC2⟩ := HA.out.done
          have HC1 := Lib.hid (show ctt yC = (ctt x.C).map (dropJ j) by rw [← rws_ctt x.C]; exact ctt_vals hC0 hC1)
          have HC2 := Lib.hid hC2
          have HGK := Lib.hid (Nst.own_keep HG2.out HN.out (fun i hi e => by have := hi.1; have := HOWo.out; omega))
          have HY2 := Lib.hid (HY1.out.only HN.out (by have := HOW.out; omega) (by omega))
          have HBE := Lib.hid (show Below w.heap.size w wr from HBQ.out.trans (HN.out.below (B := w.heap.size) (by have := HBQ.out.size; omega) (fun i hi => by omega)))
          have e2 : (w.heap.size + 1 + 1 = w.heap.size + 1) = False := by simp
          have e3 : (w.heap.size + 1 = w.heap.size + 1 + 1) = False := by simp
          clear hC0 hC1 hC2
          obtain ⟨n0, n1, nf⟩ := HM.out
          obtain ⟨m0, m1, mf⟩ := HY2.out
          go_wp2_with fail
          generalize hw9 : (World.setCell (World.setCell wr _ _) _ _) = w9
          have hn9 : Mem2 w9 (w.heap.size + 1) (.slice yG.A yG.xs.length yG.c) (.slice yC.A yC.xs.length yC.c) := by
            rw [← hw9]
            exact (HY2.out.set0 _).set1 _
          have ht : Only (fun i => i = w.heap.size + 1) wr w9 := by
            rw [← hw9]
            exact ((Only.refl (fun i => i = w.heap.size + 1) wr).put (w.heap.size + 1) 0 rfl _).put (w.heap.size + 1) 1 rfl _
          clear hw9 n0 n1 nf m0 m1 mf
          obtain ⟨m0, m1, mf⟩ := hn9
          have h1 := HOWo.out
          have h2 := HOW.out
          have h3 := HWr.out
          have hts := ht.size
          refine bodyPost_ret (v := .agg #[.slice yG.A yG.xs.length yG.c, .slice yC.A yC.xs.length yC.c]) (by simp [results, Try.results59, go_sem, m0, m1]) rfl ?_
          refine ⟨⟨⟨yG, yC⟩, rfl, ⟨⟨_, _, Nst.own_keep HGK.out ht (fun i hi e => ?_), Nst.own_keep HC2.out ht (fun i hi e => ?_), fun i hi => ?_, fun i hi => ?_, fun i h h' => ?_⟩, HG1.out, HC1.out⟩⟩, HBE.out.trans (ht.below (by omega) (fun i hi => by omega))⟩
          · have := hi.1
            omega
          · have := hi.1
            omega
          · have := hi.1
            have := hi.2
            exact ⟨by omega, by omega⟩
          · have := hi.1
            have := hi.2
            exact ⟨by omega, by omega⟩
          · have := h.2
            have := h'.1
            omega
end Go.Proofs.Ytfeffkjmjkddnaa
