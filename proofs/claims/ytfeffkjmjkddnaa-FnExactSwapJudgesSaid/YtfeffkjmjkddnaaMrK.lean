/- Marks with memory of their own, in the model. -/
import Derived.Test.YtfeffkjmjkddnaaMrJ
import Derived.Deep.Cut
namespace Go.Proofs.Ytfeffkjmjkddnaa
open Go.ChangeShapes Go.WideShapes Go.ChangeAt Go.RowKit Go.Lib Go.Proofs Go.PlainAid
set_option linter.unusedVariables false

set_option maxHeartbeats 8000000 in
set_option maxRecDepth 20000 in
theorem mkOwn_any (x : Mr) (w : World) (hr : MrIn w w.heap.size x) (hl : MrFits x) (hk : MkL (ctt x.G) (ctt x.C)) :
    Calls Try.prog 54 #[x.val] w fun e w' => (∃ y : Mr, e = .returned (.agg #[.slice y.G.A y.G.xs.length y.G.c, .slice y.C.A y.C.xs.length y.C.c]) ∧ MrSame x y ∧ MrOwn (iv w.heap.size w'.heap.size) w' y) ∧ Below w.heap.size w w' := by
  obtain ⟨i0, hi, hz0, hz1, hz2⟩ := info_parts Try.infoRwIntS
  have HZ := Lib.hid (And.intro hi (And.intro hz0 (And.intro hz1 hz2)))
  have HR := Lib.hid hr
  have HF := Lib.hid hl
  have HK := Lib.hid hk
  have hg1 := nfit_len hl.g
  have hc1 := nfit_len hl.c
  clear hr hl hk hi hz0 hz1 hz2
  unfold Mr.val
  go_enter Try.func54, Try.ntmps54
  go_wp2_with fail
  generalize hW : World.alloc (World.alloc (World.alloc w _) _) _ = W
  have HBQ := Lib.hid (show Below w.heap.size w W by
    rw [← hW]
    go_grown)
  have hS : W.heap.size = w.heap.size + 3 := by rw [← hW]; simp
  have HOW := Lib.hid (show w.heap.size + 1 + 1 < W.heap.size by omega)
  have HX := Lib.hid (show Mem2 W w.heap.size (.slice x.G.A x.G.xs.length x.G.c) (.slice x.C.A x.C.xs.length x.C.c) by
    rw [← hW]
    exact ((mem2_new w _ _ rfl _ _).below ((Below.refl _ _).alloc (Nat.le_refl _) _) (by simp)).below ((Below.refl _ _).alloc (Nat.le_refl _) _) (by simp; omega))
  have HY := Lib.hid (show Mem2 W (w.heap.size + 1) (.slice none 0 0) (.slice none 0 0) by
    rw [← hW]
    exact (mem2_new _ _ _ (by simp) _ _).below ((Below.refl _ _).alloc (Nat.le_refl _) _) (by simp))
  have HM0 := Lib.hid (show Mem2 W (w.heap.size + 1 + 1) (.slice none 0 0) (.slice none 0 0) by
    rw [← hW]
    exact mem2_new _ _ _ (by simp) _ _)
  clear hW hS
  go_loopw [12] (fun i wr => ∃ (k : Nat) (v : Value) (ys : List (Rw Int)) (s : Nat → Nat), k ≤ x.G.xs.length ∧ i = .int .i64 k ∧ Hid (Mem2 wr (w.heap.size + 1 + 1) v (.slice none 0 0)) ∧ Hid (NAp W wr v (rwsTo x.G k) ys s) ∧ Hid (Only (fun i => i = w.heap.size + 1 + 1) W wr)) (fun i _ => x.G.xs.length - (intOf i).toNat)
  case atStart => exact ⟨0, .slice none 0 0, [], fun _ => 0, Nat.zero_le _, rfl, HM0, Lib.hid (NAp.zero _ _), Lib.hid (Only.refl _ _)⟩
  case round =>
    obtain ⟨k, v, ys, s, hk, rfl, HM, HA, HN⟩ := hrel
    have HWr := Lib.hid HN.out.size
    by_cases hlt : k < x.G.xs.length
    · have HCE := Lib.hid (fun w' (hb : Below W.heap.size wr w') => (HM.out.below hb HOW.out).c0)
      have HBd := Lib.hid (show Below W.heap.size wr wr.drew from (below_drew wr).mono HWr.out)
      have HBW := Lib.hid (show Below w.heap.size w wr from HBQ.out.trans (HN.out.below (B := w.heap.size) (by have := HBQ.out.size; omega) (fun i hi => by omega)))
      have HE := Lib.hid (Nst.next (mr_each HR.out.g k hlt) HBW.out)
      obtain ⟨b', o', hA', hbl', hc'⟩ := mr_cell HR.out.g (by omega)
      have hck := (HBW.out.cell (p := ⟨b', o' + k, none⟩) hbl').trans (hc' k hlt)
      have hlk := nfit_len (nfit_each HF.out.g k hlt)
      have HL3 := Lib.hid (show 0 < (it x.G.xs k).xs.length by
        have h1 := (HK.out.gs k (by rw [ctt_len]; exact hlt)).len
        rw [ctt_it] at h1
        have := HK.out.j3
        omega)
      have HYL := Lib.hid (show ys.length = k ∧ k < 1000 by
        have h1 := HA.out.len
        rw [rwsTo_len _ _ (by omega)] at h1
        have h2 := HK.out.few
        have h3 := HK.out.three
        rw [ctt_len] at h2 h3
        omega)
      have HSU := Lib.hid (rwsTo_succ x.G k hlt)
      rw [hA']
      clear hc' hA'
      go_upto_region 5 with fail
      clear hck
      refine wp_region_F_drew (fun w' => w'.cell? ⟨w.heap.size + 1 + 1, 0, none⟩ = some v) 7 (by kernel_rfl) ?_ (fun hHeld0 => ?_)
      · ((try dsimp only); exact HCE.out _ HBd.out)
      refine wpAnyF_take (i := 0) (oi := _) (v := ?_) rfl (by kernel_rfl) (by kernel_rfl) (by kernel_rfl) (by kernel_rfl) (fun _ _ _ h => h) (Or.inl ⟨by rfl, ?_⟩) (by assumption) ?_
      rotate_left
      · (intro w hSw; (try dsimp only at hSw); go_simp; try with_reducible rfl)
      try simp only [Act.put, List.setIfInBounds_toArray, List.set_cons_zero, List.set_cons_succ, List.getElem_toArray, List.getElem_cons_zero]
      refine wpAnyF_take (i := 1) (oi := _) (v := ?_) rfl (by kernel_rfl) (by kernel_rfl) (by kernel_rfl) (by kernel_rfl) (fun _ _ _ h => h) (Or.inl ⟨by rfl, ?_⟩) (by assumption) ?_
      rotate_left
      · (intro w hSw; (try dsimp only at hSw); go_simp; try with_reducible rfl)
      try simp only [Act.put, List.setIfInBounds_toArray, List.set_cons_zero, List.set_cons_succ, List.getElem_toArray, List.getElem_cons_zero, List.getElem_cons_succ]
      refine wpAnyF_take (i := 2) (oi := _) (v := ?_) rfl (by kernel_rfl) (by kernel_rfl) (by kernel_rfl) (by kernel_rfl) (fun _ _ _ h => h) (Or.inl ⟨by rfl, ?_⟩) (by assumption) ?_
      rotate_left
      · (intro w hSw; (try dsimp only at hSw); go_simp; try with_reducible rfl)
      try simp only [Act.put, List.setIfInBounds_toArray, List.set_cons_zero, List.set_cons_succ, List.getElem_toArray, List.getElem_cons_zero, List.getElem_cons_succ]
      refine wpAnyF_one (i := 3) (by kernel_rfl) rfl (fun K hK => ?_)
      go_simp
      go_wp2_with (go_at_call 67; refine (l1Own_any (it x.G.xs k).A (it x.G.xs k).c (it x.G.xs k).xs _ (Nst.next (r := it x.G.xs k) HE.out (below_drew _)) hlk HL3.out).mono ?_; rintro e wa ⟨g1, c1, rfl, ho1, hg1, hg2, hb⟩; have HLa := Lib.hid (below_next (below_drew wr) hb); have HBa := Lib.hid (show Below W.heap.size wr wa from (below_next (below_drew wr) hb).mono HWr.out); have HO1 := Lib.hid ho1; have HG1 := Lib.hid (show wr.heap.size ≤ g1 ∧ g1 < wa.heap.size from ⟨hg1, hg2⟩); have HWa := Lib.hid (Nat.le_trans HWr.out (show wr.heap.size ≤ wa.heap.size from hb.size)); clear ho1 hg1 hg2 hb)
      refine hK.out _ _ ?_ (fun hHeld1 => ?_)
      · ((try dsimp only); first | (with_reducible exact HCE.out _ HBd.out) | (with_reducible exact HCE.out _ HBa.out) | (with_reducible exact HCE.out _ (Below.trans HBa.out (Below.alloc (Below.refl _ _) HWa.out _))) | (with_reducible exact HCE.out _ HBb.out) | fail)
      clear hK K
      refine wpAnyF_one (i := 4) (by kernel_rfl) rfl (fun K hK => ?_)
      go_simp
      refine hK.out _ _ ?_ (fun hHeld2 => ?_)
      · ((try dsimp only); first | (with_reducible exact HCE.out _ HBd.out) | (with_reducible exact HCE.out _ HBa.out) | (with_reducible exact HCE.out _ (Below.trans HBa.out (Below.alloc (Below.refl _ _) HWa.out _))) | (with_reducible exact HCE.out _ HBb.out) | fail)
      clear hK K
      refine wpAnyF_one (i := 5) (by kernel_rfl) rfl (fun K hK => ?_)
      (refine step_append_src _ (by rfl) (.tmp 17) (.tmp 20) 22 (by rfl) W.heap.size 34 i0 (.slice none 0 0) 24 Try.underlying22 HZ.out.1 HZ.out.2.1 HZ.out.2.2.1 HZ.out.2.2.2 rfl _ ys.length (ys.flatMap Flat.cells) (by rfl) ((own_next HA.out.row HLa.out).alloc _) (some ⟨wa.heap.size, 0, none⟩) 1 1 [.slice (some ⟨g1, 0, none⟩) (it x.G.xs k).xs.length c1] (by rfl) rfl (fun _ => ⟨_, rfl, one_slice (by simp)⟩) (one_sliceC _ _ _) (by have := HYL.out; unfold maxLen; omega) (by have := HYL.out; omega) (by have := HWa.out; simp; omega) ?_; intro v1 w5 hown hgrow hat; have HP := Lib.hid (HA.out.more HWr.out HLa.out HG1.out.1 HG1.out.2 HO1.out hown hgrow (hat.imp id (fun e => by rw [e]; simp))); have HBb := Lib.hid (show Below W.heap.size wr w5 from Below.grown ((HLa.out.mono HWr.out).alloc HWa.out _) hgrow (by have := HWa.out; simp; omega) (fun m e => (HA.out.row.lt m e).1)); obtain ⟨m0, m1, mf⟩ := HM.out.below HBb.out HOW.out; obtain ⟨A1, d1, rfl⟩ := slice_form hown; clear hown hgrow hat)
      refine hK.out _ _ ?_ (fun hHeld3 => ?_)
      · ((try dsimp only); first | (with_reducible exact HCE.out _ HBd.out) | (with_reducible exact HCE.out _ HBa.out) | (with_reducible exact HCE.out _ (Below.trans HBa.out (Below.alloc (Below.refl _ _) HWa.out _))) | (with_reducible exact HCE.out _ HBb.out) | fail)
      clear hK K
      refine wpAnyF_take (i := 6) (oi := _) (v := ?_) rfl (by kernel_rfl) (by kernel_rfl) (by kernel_rfl) (by kernel_rfl) (fun _ _ _ h => h) (Or.inl ⟨by rfl, ?_⟩) (by assumption) ?_
      rotate_left
      · (intro w hSw; (try dsimp only at hSw); go_simp; try with_reducible rfl)
      try simp only [Act.put, List.setIfInBounds_toArray, List.set_cons_zero, List.set_cons_succ, List.getElem_toArray, List.getElem_cons_zero, List.getElem_cons_succ]
      refine wpAnyF_last (by kernel_rfl) rfl (fun K hK => ?_)
      go_simp
      refine hK.out _ _ ?_
      clear hK K
      refine wpAnyF_done (by kernel_rfl) ?_ _
      go_wp2
      go_roundw
      case rel => exact ⟨k + 1, _, _, _, by omega, by go_num, Lib.hid ((HM.out.below HBb.out HOW.out).set0 _), by rw [HSU.out]; exact Lib.hid (HP.out.1.low ⟨w.heap.size + 1 + 1, 0, none⟩ HOW.out _), Lib.hid ((HN.out.then (show Below W.heap.size wr w5 from HBb.out)).setCell (S := fun i => i = w.heap.size + 1 + 1) (p := ⟨w.heap.size + 1 + 1, 0, none⟩) rfl _)⟩
      case measure => simp [intOf]; omega
    · obtain rfl : k = x.G.xs.length := by omega
      obtain ⟨yG, rfl, hG1, hG2⟩ := HA.out.all
      have HG1 := Lib.hid hG1
      have HG2 := Lib.hid hG2
      have HBG := Lib.hid (show Below w.heap.size w wr from HBQ.out.trans (HN.out.below (B := w.heap.size) (by have := HBQ.out.size; omega) (fun i hi => by omega)))
      obtain ⟨W1, hW1⟩ : ∃ W1 : World, W1 = wr := ⟨_, rfl⟩
      rw [← hW1] at HM HA HN HG2 HBG HWr ⊢
      clear hW1
      have HX1 := Lib.hid (HX.out.only HN.out (by have := HOW.out; omega) (by omega))
      have HY1 := Lib.hid (HY.out.only HN.out (by have := HOW.out; omega) (by omega))
      obtain ⟨x0, x1, xf⟩ := HX1.out
      go_wp2_with fail
      clear x0 x1 xf hG1 hG2 HM0 HBQ
      have HM0 := Lib.hid HM.out
      have HBQ := Lib.hid HBG.out
      have HOWo := Lib.hid HOW.out
      clear HOW
      have HOW := Lib.hid (Nat.lt_of_lt_of_le HOWo.out HWr.out)
      clear HM HBG HWr
      go_loopw [27] (fun i wr => ∃ (k : Nat) (v : Value) (ys : List (Rw Int)) (s : Nat → Nat), k ≤ x.C.xs.length ∧ i = .int .i64 k ∧ Hid (Mem2 wr (w.heap.size + 1 + 1) (.slice yG.A yG.xs.length yG.c) v) ∧ Hid (NAp W1 wr v (rwsTo x.C k) ys s) ∧ Hid (Only (fun i => i = w.heap.size + 1 + 1) W1 wr)) (fun i _ => x.C.xs.length - (intOf i).toNat)
      case atStart => exact ⟨0, .slice none 0 0, [], fun _ => 0, Nat.zero_le _, rfl, HM0, Lib.hid (NAp.zero _ _), Lib.hid (Only.refl _ _)⟩
      case round =>
        obtain ⟨k, v, ys, s, hk, rfl, HM, HA, HN⟩ := hrel
        have HWr := Lib.hid HN.out.size
        by_cases hlt : k < x.C.xs.length
        · have HCE := Lib.hid (fun w' (hb : Below W1.heap.size wr w') => (HM.out.below hb HOW.out).c1)
          have HBd := Lib.hid (show Below W1.heap.size wr wr.drew from (below_drew wr).mono HWr.out)
          have HBW := Lib.hid (show Below w.heap.size w wr from HBQ.out.trans (HN.out.below (B := w.heap.size) (by have := HBQ.out.size; omega) (fun i hi => by omega)))
          have HE := Lib.hid (Nst.next (mr_each HR.out.c k hlt) HBW.out)
          obtain ⟨b', o', hA', hbl', hc'⟩ := mr_cell HR.out.c (by omega)
          have hck := (HBW.out.cell (p := ⟨b', o' + k, none⟩) hbl').trans (hc' k hlt)
          have hlk := nfit_len (nfit_each HF.out.c k hlt)
          have HL3 := Lib.hid (show 0 < (it x.C.xs k).xs.length by
            have h1 := (HK.out.cs k (by rw [ctt_len]; exact hlt)).len
            rw [ctt_it] at h1
            have := HK.out.j3
            omega)
          have HYL := Lib.hid (show ys.length = k ∧ k < 1000 by
            have h1 := HA.out.len
            rw [rwsTo_len _ _ (by omega)] at h1
            have h2 := HK.out.few
            have h3 := HK.out.three
            rw [ctt_len] at h2 h3
            omega)
          have HSU := Lib.hid (rwsTo_succ x.C k hlt)
          rw [hA']
          clear hc' hA'
          go_upto_region 10 with fail
          clear hck
          refine wp_region_F_drew (fun w' => w'.cell? ⟨w.heap.size + 1 + 1, 1, none⟩ = some v) 7 (by kernel_rfl) ?_ (fun hHeld0 => ?_)
          · ((try dsimp only); exact HCE.out _ HBd.out)
          refine wpAnyF_take (i := 0) (oi := _) (v := ?_) rfl (by kernel_rfl) (by kernel_rfl) (by kernel_rfl) (by kernel_rfl) (fun _ _ _ h => h) (Or.inl ⟨by rfl, ?_⟩) (by assumption) ?_
          rotate_left
          · (intro w hSw; (try dsimp only at hSw); go_simp; try with_reducible rfl)
          try simp only [Act.put, List.setIfInBounds_toArray, List.set_cons_zero, List.set_cons_succ, List.getElem_toArray, List.getElem_cons_zero]
          refine wpAnyF_take (i := 1) (oi := _) (v := ?_) rfl (by kernel_rfl) (by kernel_rfl) (by kernel_rfl) (by kernel_rfl) (fun _ _ _ h => h) (Or.inl ⟨by rfl, ?_⟩) (by assumption) ?_
          rotate_left
          · (intro w hSw; (try dsimp only at hSw); go_simp; try with_reducible rfl)
          try simp only [Act.put, List.setIfInBounds_toArray, List.set_cons_zero, List.set_cons_succ, List.getElem_toArray, List.getElem_cons_zero, List.getElem_cons_succ]
          refine wpAnyF_take (i := 2) (oi := _) (v := ?_) rfl (by kernel_rfl) (by kernel_rfl) (by kernel_rfl) (by kernel_rfl) (fun _ _ _ h => h) (Or.inl ⟨by rfl, ?_⟩) (by assumption) ?_
          rotate_left
          · (intro w hSw; (try dsimp only at hSw); go_simp; try with_reducible rfl)
          try simp only [Act.put, List.setIfInBounds_toArray, List.set_cons_zero, List.set_cons_succ, List.getElem_toArray, List.getElem_cons_zero, List.getElem_cons_succ]
          refine wpAnyF_one (i := 3) (by kernel_rfl) rfl (fun K hK => ?_)
          go_simp
          go_wp2_with (go_at_call 67; refine (l1Own_any (it x.C.xs k).A (it x.C.xs k).c (it x.C.xs k).xs _ (Nst.next (r := it x.C.xs k) HE.out (below_drew _)) hlk HL3.out).mono ?_; rintro e wa ⟨g1, c1, rfl, ho1, hg1, hg2, hb⟩; have HLa := Lib.hid (below_next (below_drew wr) hb); have HBa := Lib.hid (show Below W1.heap.size wr wa from (below_next (below_drew wr) hb).mono HWr.out); have HO1 := Lib.hid ho1; have HG1 := Lib.hid (show wr.heap.size ≤ g1 ∧ g1 < wa.heap.size from ⟨hg1, hg2⟩); have HWa := Lib.hid (Nat.le_trans HWr.out (show wr.heap.size ≤ wa.heap.size from hb.size)); clear ho1 hg1 hg2 hb)
          refine hK.out _ _ ?_ (fun hHeld1 => ?_)
          · ((try dsimp only); first | (with_reducible exact HCE.out _ HBd.out) | (with_reducible exact HCE.out _ HBa.out) | (with_reducible exact HCE.out _ (Below.trans HBa.out (Below.alloc (Below.refl _ _) HWa.out _))) | (with_reducible exact HCE.out _ HBb.out) | fail)
          clear hK K
          refine wpAnyF_one (i := 4) (by kernel_rfl) rfl (fun K hK => ?_)
          go_simp
          refine hK.out _ _ ?_ (fun hHeld2 => ?_)
          · ((try dsimp only); first | (with_reducible exact HCE.out _ HBd.out) | (with_reducible exact HCE.out _ HBa.out) | (with_reducible exact HCE.out _ (Below.trans HBa.out (Below.alloc (Below.refl _ _) HWa.out _))) | (with_reducible exact HCE.out _ HBb.out) | fail)
          clear hK K
          refine wpAnyF_one (i := 5) (by kernel_rfl) rfl (fun K hK => ?_)
          (refine step_append_src _ (by rfl) (.tmp 32) (.tmp 35) 22 (by rfl) W1.heap.size 34 i0 (.slice none 0 0) 24 Try.underlying22 HZ.out.1 HZ.out.2.1 HZ.out.2.2.1 HZ.out.2.2.2 rfl _ ys.length (ys.flatMap Flat.cells) (by rfl) ((own_next HA.out.row HLa.out).alloc _) (some ⟨wa.heap.size, 0, none⟩) 1 1 [.slice (some ⟨g1, 0, none⟩) (it x.C.xs k).xs.length c1] (by rfl) rfl (fun _ => ⟨_, rfl, one_slice (by simp)⟩) (one_sliceC _ _ _) (by have := HYL.out; unfold maxLen; omega) (by have := HYL.out; omega) (by have := HWa.out; simp; omega) ?_; intro v1 w5 hown hgrow hat; have HP := Lib.hid (HA.out.more HWr.out HLa.out HG1.out.1 HG1.out.2 HO1.out hown hgrow (hat.imp id (fun e => by rw [e]; simp))); have HBb := Lib.hid (show Below W1.heap.size wr w5 from Below.grown ((HLa.out.mono HWr.out).alloc HWa.out _) hgrow (by have := HWa.out; simp; omega) (fun m e => (HA.out.row.lt m e).1)); obtain ⟨m0, m1, mf⟩ := HM.out.below HBb.out HOW.out; obtain ⟨A1, d1, rfl⟩ := slice_form hown; clear hown hgrow hat)
          refine hK.out _ _ ?_ (fun hHeld3 => ?_)
          · ((try dsimp only); first | (with_reducible exact HCE.out _ HBd.out) | (with_reducible exact HCE.out _ HBa.out) | (with_reducible exact HCE.out _ (Below.trans HBa.out (Below.alloc (Below.refl _ _) HWa.out _))) | (with_reducible exact HCE.out _ HBb.out) | fail)
          clear hK K
          refine wpAnyF_take (i := 6) (oi := _) (v := ?_) rfl (by kernel_rfl) (by kernel_rfl) (by kernel_rfl) (by kernel_rfl) (fun _ _ _ h => h) (Or.inl ⟨by rfl, ?_⟩) (by assumption) ?_
          rotate_left
          · (intro w hSw; (try dsimp only at hSw); go_simp; try with_reducible rfl)
          try simp only [Act.put, List.setIfInBounds_toArray, List.set_cons_zero, List.set_cons_succ, List.getElem_toArray, List.getElem_cons_zero, List.getElem_cons_succ]
          refine wpAnyF_last (by kernel_rfl) rfl (fun K hK => ?_)
          go_simp
          refine hK.out _ _ ?_
          clear hK K
          refine wpAnyF_done (by kernel_rfl) ?_ _
          go_wp2
          go_roundw
          case rel => exact ⟨k + 1, _, _, _, by omega, by go_num, Lib.hid ((HM.out.below HBb.out HOW.out).set1 _), by rw [HSU.out]; exact Lib.hid (HP.out.1.low ⟨w.heap.size + 1 + 1, 1, none⟩ HOW.out _), Lib.hid ((HN.out.then (show Below W1.heap.size wr w5 from HBb.out)).setCell (S := fun i => i = w.heap.size + 1 + 1) (p := ⟨w.heap.size + 1 + 1, 1, none⟩) rfl _)⟩
          case measure => simp [intOf]; omega
        · obtain rfl : k = x.C.xs.length := by omega
          obtain ⟨yC, rfl, hC1, hC2⟩ := HA.out.all
          have HC1 := Lib.hid hC1
          have HC2 := Lib.hid hC2
          have HGK := Lib.hid (Nst.own_keep HG2.out HN.out (fun i hi e => by have := hi.1; have := HOWo.out; omega))
          have HY2 := Lib.hid (HY1.out.only HN.out (by have := HOW.out; omega) (by omega))
          have HBE := Lib.hid (show Below w.heap.size w wr from HBQ.out.trans (HN.out.below (B := w.heap.size) (by have := HBQ.out.size; omega) (fun i hi => by omega)))
          have e2 : (w.heap.size + 1 + 1 = w.heap.size + 1) = False := by simp
          have e3 : (w.heap.size + 1 = w.heap.size + 1 + 1) = False := by simp
          clear hC1 hC2
          obtain ⟨n0, n1, nf⟩ := HM.out
          obtain ⟨m0, m1, mf⟩ := HY2.out
          go_wp2_with fail
          generalize hw9 : (World.setCell (World.setCell wr _ _) _ _) = w9
          have hn9 : Mem2 w9 (w.heap.size + 1) (.slice yG.A yG.xs.length yG.c) (.slice yC.A yC.xs.length yC.c) := by
            rw [← hw9]
            exact (HY2.out.set0 _).set1 _
          have ht : Only (fun i => i = w.heap.size + 1) wr w9 := by
            rw [← hw9]
            exact ((Only.refl (fun i => i = w.heap.size + 1) wr).put (w.heap.size + 1) 0 rfl _).put (w.heap.size + 1) 1 rfl _
          clear hw9 n0 n1 nf m0 m1 mf
          obtain ⟨m0, m1, mf⟩ := hn9
          have h1 := HOWo.out
          have h2 := HOW.out
          have h3 := HWr.out
          have hts := ht.size
          refine bodyPost_ret (v := .agg #[.slice yG.A yG.xs.length yG.c, .slice yC.A yC.xs.length yC.c]) (by simp [results, Try.results54, go_sem, m0, m1]) rfl ?_
          refine ⟨⟨⟨yG, yC⟩, rfl, ⟨HG1.out, HC1.out⟩, _, _, Nst.own_keep HGK.out ht (fun i hi e => ?_), Nst.own_keep HC2.out ht (fun i hi e => ?_), fun i hi => ?_, fun i hi => ?_, fun i h h' => ?_⟩, HBE.out.trans (ht.below (by omega) (fun i hi => by omega))⟩
          · have := hi.1
            omega
          · have := hi.1
            omega
          · have := hi.1
            have := hi.2
            exact ⟨by omega, by omega⟩
          · have := hi.1
            have := hi.2
            exact ⟨by omega, by omega⟩
          · have := h.2
            have := h'.1
            omega
end Go.Proofs.Ytfeffkjmjkddnaa
