/- ChangedCalls of the model. -/
import Derived.Test.YtpmjfanalcaodaaShZ
import Derived.Deep.RegionHeld3
namespace Go.Proofs.Ytpmjfanalcaodaa
open Go.ChangeShapes Go.WideShapes Go.ChangeAt Go.RowKit Go.Lib Go.Proofs
set_option linter.unusedVariables false

set_option maxHeartbeats 8000000 in
set_option maxRecDepth 100000 in
theorem sChangedCalls_any (x y : Sh) (w : World) (hr : ShIn w w.heap.size x) (hr2 : ShIn w w.heap.size y) (hl : ShFits x) (hl2 : ShFits y) :
    Calls Try.prog 48 #[x.val, y.val] w fun e w' => (∃ r : Rw (Rw Int), e = .returned (.tuple #[.slice r.A r.xs.length r.c, .bool (pB (ChOk x y))]) ∧ PairsAns (chL x y) w w' r) ∧ Below w.heap.size w w' := by
  obtain ⟨W, hW, hB, hX, hY, hsx, hsy⟩ : ∃ W, W = (w.alloc (.cells #[.slice x.P x.l.length x.c, .slice x.V.A x.V.xs.length x.V.c, .slice x.R x.rv.length x.e] 32)).alloc (.cells #[.slice y.P y.l.length y.c, .slice y.V.A y.V.xs.length y.V.c, .slice y.R y.rv.length y.e] 32) ∧ Below w.heap.size w W ∧ ShMem W w.heap.size x ∧ ShMem W (w.heap.size + 1) y ∧ w.heap.size < W.heap.size ∧ w.heap.size + 1 < W.heap.size :=
    ⟨_, rfl, below_next (below_alloc _ _) (below_alloc _ _), (imMem_new w _ 32 rfl _ _ _).below (below_alloc _ _) (by simp), imMem_new _ _ 32 (by simp) _ _ _, by simp; omega, by simp⟩
  have HR := Lib.hid (hr.next hB)
  have HR' := Lib.hid (hr2.next hB)
  have HB0 := Lib.hid hB
  have HX := Lib.hid hX
  have HY := Lib.hid hY
  have HF := Lib.hid hl
  have HF' := Lib.hid hl2
  clear hr hr2 hl hl2 hB hX hY
  unfold Sh.val
  go_enter Try.func48, Try.ntmps48
  go_wp2_with fail
  rw [← hW]
  clear hW
  have HC := Lib.hid (caGood_any x W HR.out HF.out)
  by_cases h1 : ShOk x
  rotate_left
  · rw [pB_no h1] at HC
    have HP := Lib.hid (And.intro (pB_no (fun q : ChOk x y => h1 q.a)) (chL_no (fun q : ChOk x y => h1 q.a)))
    clear h1
    refine HC.out.mono ?_
    rintro e w1 ⟨rfl, hb1⟩
    have HB1 := Lib.hid (below_next HB0.out hb1)
    clear hb1
    go_wp2
    go_returns
    rw [HP.out.1, HP.out.2]
    exact ⟨⟨⟨none, 0, []⟩, rfl, PairsAns.nil _ _⟩, HB1.out⟩
  rw [pB_yes h1] at HC
  have H1 := Lib.hid h1
  clear h1
  refine HC.out.mono ?_
  rintro e w1 ⟨rfl, hb1⟩
  have HB1 := Lib.hid (below_next HB0.out hb1)
  have HX1 := Lib.hid (HX.out.below hb1 hsx)
  have HY1 := Lib.hid (HY.out.below hb1 hsy)
  have HR1 := Lib.hid (HR.out.next hb1)
  have HR1' := Lib.hid (HR'.out.next hb1)
  have hs1 := Nat.lt_of_lt_of_le hsx hb1.size
  have ht1 := Nat.lt_of_lt_of_le hsy hb1.size
  clear hb1 HC
  obtain ⟨y0, y1, y2, yf⟩ := HY1.out
  have HC := Lib.hid (caGood_any y w1 HR1'.out HF'.out)
  go_wp2_with fail
  clear y0 y1 y2 yf
  by_cases h2 : ShOk y
  rotate_left
  · rw [pB_no h2] at HC
    have HP := Lib.hid (And.intro (pB_no (fun q : ChOk x y => h2 q.b)) (chL_no (fun q : ChOk x y => h2 q.b)))
    clear h2
    refine HC.out.mono ?_
    rintro e w2 ⟨rfl, hb2⟩
    have HB2 := Lib.hid (below_next HB1.out hb2)
    clear hb2
    go_wp2
    go_returns
    rw [HP.out.1, HP.out.2]
    exact ⟨⟨⟨none, 0, []⟩, rfl, PairsAns.nil _ _⟩, HB2.out⟩
  rw [pB_yes h2] at HC
  have H2 := Lib.hid h2
  clear h2
  refine HC.out.mono ?_
  rintro e w2 ⟨rfl, hb2⟩
  have HB2 := Lib.hid (below_next HB1.out hb2)
  have HX2 := Lib.hid (HX1.out.below hb2 hs1)
  have HY2 := Lib.hid (HY1.out.below hb2 ht1)
  have HR2 := Lib.hid (HR1.out.next hb2)
  have HR2' := Lib.hid (HR1'.out.next hb2)
  have hs2 := Nat.lt_of_lt_of_le hs1 hb2.size
  have ht2 := Nat.lt_of_lt_of_le ht1 hb2.size
  clear hb2 HC
  obtain ⟨x0, x1, x2, xf⟩ := HX2.out
  obtain ⟨y0, y1, y2, yf⟩ := HY2.out
  have HC := Lib.hid (itSame_any x.P y.P x.c y.c x.l y.l w2 HR2.out.its HR2'.out.its HF.out.its HF'.out.its)
  go_wp2_with fail
  clear x0 x1 x2 xf y0 y1 y2 yf
  by_cases h3 : SameN x.l y.l
  rotate_left
  · rw [pB_no h3] at HC
    have HP := Lib.hid (And.intro (pB_no (fun q : ChOk x y => h3 q.nm)) (chL_no (fun q : ChOk x y => h3 q.nm)))
    clear h3
    refine HC.out.mono ?_
    rintro e w3 ⟨rfl, hb3⟩
    have HB3 := Lib.hid (below_next HB2.out hb3)
    clear hb3
    go_wp2
    go_returns
    rw [HP.out.1, HP.out.2]
    exact ⟨⟨⟨none, 0, []⟩, rfl, PairsAns.nil _ _⟩, HB3.out⟩
  rw [pB_yes h3] at HC
  have HOK := Lib.hid (⟨H1.out, H2.out, h3⟩ : ChOk x y)
  have HP := Lib.hid (And.intro (pB_yes HOK.out) (chL_yes HOK.out))
  clear h3
  refine HC.out.mono ?_
  rintro e w3 ⟨rfl, hb3⟩
  have HB3 := Lib.hid (below_next HB2.out hb3)
  have HX3 := Lib.hid (HX2.out.below hb3 hs2)
  have HY3 := Lib.hid (HY2.out.below hb3 ht2)
  have HR3 := Lib.hid (HR2.out.next hb3)
  have HR3' := Lib.hid (HR2'.out.next hb3)
  have hs3 := Nat.lt_of_lt_of_le hs2 hb3.size
  have ht3 := Nat.lt_of_lt_of_le ht2 hb3.size
  clear hb3 HC
  obtain ⟨x0, x1, x2, xf⟩ := HX3.out
  obtain ⟨i0, hi, hz0, hz1, hz2⟩ := info_parts Try.infoRwI
  have HZ := Lib.hid (And.intro hi (And.intro hz0 (And.intro hz1 hz2)))
  have HN3 := Lib.hid (nmN_le H1.out)
  have h14 := H1.out.ls.len
  clear hi hz0 hz1 hz2
  go_wp2_with fail
  clear x0 x1 x2 xf
  have HCELL := Lib.hid (fun w' (hb : Below w3.heap.size w3 w') => shBox_cells (HX3.out.below hb hs3) (HY3.out.below hb ht3))
  go_loopw [6, 29] (fun v p wr => ∃ (i : Nat) (ys : List (Rw Int)) (s : Nat → Nat), i ≤ x.l.length ∧ p = .int .i64 i ∧ Hid (NAp w3 wr v (plI (nmN x.l) (chD x y) i) ys s) ∧ Hid (Below w3.heap.size w3 wr)) (fun _ p _ => x.l.length - (intOf p).toNat)
  case atStart => exact ⟨0, [], fun _ => 0, Nat.zero_le _, rfl, Lib.hid (NAp.zero w3 w3), Lib.hid (Below.refl _ _)⟩
  case round =>
    obtain ⟨i, ys, s, hk, rfl, HA, HB⟩ := hrel
    by_cases hlt : i < x.l.length
    · obtain ⟨b, o, hA, hbl, hc⟩ := HR3.out.its.out.im (by omega)
      rw [hA]
      obtain ⟨c0, c1, c2⟩ := (hc i hlt).below HB.out hbl
      have hn3 := HN3.out i hlt
      have HNN := Lib.hid (show nmN x.l i = (it x.l i).ns.length from rfl)
      clear hc
      go_wp2_with fail
      clear c0 c1 c2
      have hb3 := below_alloc wr (.cells #[.slice (it x.l i).A (it x.l i).ns.length (it x.l i).c, .slice (it x.l i).L (it x.l i).ms.length (it x.l i).d, .bool (it x.l i).late] 85)
      generalize World.alloc wr _ = w5 at hb3 ⊢
      have HB3' := Lib.hid (below_next HB.out hb3)
      have HA3 := Lib.hid (show NAp w3 w5 _ (plI (nmN x.l) (chD x y) i ++ plJ (chD x y) i 0) ys s by rw [show plJ (chD x y) i 0 = [] from rfl, List.append_nil]; exact HA.out.next hb3)
      clear hb3
      rw [← HNN.out]
      rw [← hA]
      have HAA := Lib.hid hA
      clear hA
      go_loopw [6, 37] (fun v p wr => ∃ (j : Nat) (ys : List (Rw Int)) (s : Nat → Nat), j ≤ nmN x.l i ∧ p = .int .i64 j ∧ Hid (NAp w3 wr v (plI (nmN x.l) (chD x y) i ++ plJ (chD x y) i j) ys s) ∧ Hid (Below w3.heap.size w3 wr)) (fun _ p _ => nmN x.l i - (intOf p).toNat)
      case atStart => exact ⟨0, ys, s, Nat.zero_le _, rfl, HA3, HB3'⟩
      case round =>
        obtain ⟨j, ys, s, hj, rfl, HJ, HBJ⟩ := hrel
        by_cases hjl : j < nmN x.l i
        · have HQx := Lib.hid (fun w' (hb : Below w3.heap.size w3 w') => caCall_any x i j w' (HR3.out.next hb) HF.out H1.out hlt hjl)
          have HQy := Lib.hid (fun w' (hb : Below w3.heap.size w3 w') => caCall_any y i j w' (HR3'.out.next hb) HF'.out H2.out (by have := HOK.out.nm.len; omega) (by have := HOK.out.nm.each i hlt; unfold nmN at hjl; rw [this]; exact hjl))
          unfold Sh.val at HQx HQy
          have hbd := plI_len (n := nmN x.l) (D := chD x y) i (fun k hk => HN3.out k (by omega))
          have hbd2 := plJ_len (chD x y) i j
          have HLN := Lib.hid HJ.out.len
          have HPL := Lib.hid (show (plI (nmN x.l) (chD x y) i ++ plJ (chD x y) i j).length ≤ 60 by rw [List.length_append]; omega)
          clear hbd hbd2
          have HBd := Lib.hid (below_next HBJ.out (below_drew wr))
          have HJd := Lib.hid (HJ.out.next (below_drew wr))
          go_wp2_with fail
          by_cases hq : caI x i j = caI y i j
          · have HP := Lib.hid (plJ_no (D := chD x y) (i := i) (j := j) (by unfold chD; exact decide_eq_false (fun h => h hq)))
            have hd : (caI x i j != caI y i j) = false := by simpa using hq
            clear hq
            go_region_held3 (fun w' => w'.cell? ⟨w.heap.size, 0, none⟩ = some (.slice x.P x.l.length x.c) ∧ w'.cell? ⟨w.heap.size, 1, none⟩ = some (.slice x.V.A x.V.xs.length x.V.c) ∧ w'.cell? ⟨w.heap.size, 2, none⟩ = some (.slice x.R x.rv.length x.e) ∧ w'.cell? ⟨w.heap.size + 1, 0, none⟩ = some (.slice y.P y.l.length y.c) ∧ w'.cell? ⟨w.heap.size + 1, 1, none⟩ = some (.slice y.V.A y.V.xs.length y.V.c) ∧ w'.cell? ⟨w.heap.size + 1, 2, none⟩ = some (.slice y.R y.rv.length y.e))
              (first | exact HCELL.out _ HBd.out | exact HCELL.out _ HBa.out | exact HCELL.out _ HBc.out | exact HCELL.out _ HB4.out)
              (first
                | (go_at_call 80; (with_reducible refine (HQx.out _ HBd.out).mono ?_); rintro e wa ⟨rfl, hb⟩; have HBa := Lib.hid (below_next HBd.out hb); have HJa := Lib.hid (HJd.out.next hb); clear hb)
                | (go_at_call 80; (with_reducible refine (HQy.out _ HBa.out).mono ?_); rintro e w4 ⟨rfl, hb⟩; have HB4 := Lib.hid (below_next HBa.out hb); have HJ4 := Lib.hid (HJa.out.next hb); clear hb)
                | (go_at_call 80; (with_reducible refine (HQy.out _ HBd.out).mono ?_); rintro e wc ⟨rfl, hb⟩; have HBc := Lib.hid (below_next HBd.out hb); have HJc := Lib.hid (HJd.out.next hb); clear hb)
                | (go_at_call 80; (with_reducible refine (HQx.out _ HBc.out).mono ?_); rintro e w4 ⟨rfl, hb⟩; have HB4 := Lib.hid (below_next HBc.out hb); have HJ4 := Lib.hid (HJc.out.next hb); clear hb)
                | fail)
            all_goals
              go_wp2
              go_roundw
              case rel => exact ⟨j + 1, ys, s, by omega, by go_num, by rw [HP.out]; exact HJ4, HB4⟩
              case measure => simp [intOf]; omega
          · have HP := Lib.hid (plJ_yes (D := chD x y) (i := i) (j := j) (by unfold chD; exact decide_eq_true hq))
            have hd : (caI x i j != caI y i j) = true := by simpa using hq
            clear hq
            go_region_held3 (fun w' => w'.cell? ⟨w.heap.size, 0, none⟩ = some (.slice x.P x.l.length x.c) ∧ w'.cell? ⟨w.heap.size, 1, none⟩ = some (.slice x.V.A x.V.xs.length x.V.c) ∧ w'.cell? ⟨w.heap.size, 2, none⟩ = some (.slice x.R x.rv.length x.e) ∧ w'.cell? ⟨w.heap.size + 1, 0, none⟩ = some (.slice y.P y.l.length y.c) ∧ w'.cell? ⟨w.heap.size + 1, 1, none⟩ = some (.slice y.V.A y.V.xs.length y.V.c) ∧ w'.cell? ⟨w.heap.size + 1, 2, none⟩ = some (.slice y.R y.rv.length y.e))
              (first | exact HCELL.out _ HBd.out | exact HCELL.out _ HBa.out | exact HCELL.out _ HBc.out | exact HCELL.out _ HB4.out)
              (first
                | (go_at_call 80; (with_reducible refine (HQx.out _ HBd.out).mono ?_); rintro e wa ⟨rfl, hb⟩; have HBa := Lib.hid (below_next HBd.out hb); have HJa := Lib.hid (HJd.out.next hb); clear hb)
                | (go_at_call 80; (with_reducible refine (HQy.out _ HBa.out).mono ?_); rintro e w4 ⟨rfl, hb⟩; have HB4 := Lib.hid (below_next HBa.out hb); have HJ4 := Lib.hid (HJa.out.next hb); clear hb)
                | (go_at_call 80; (with_reducible refine (HQy.out _ HBd.out).mono ?_); rintro e wc ⟨rfl, hb⟩; have HBc := Lib.hid (below_next HBd.out hb); have HJc := Lib.hid (HJd.out.next hb); clear hb)
                | (go_at_call 80; (with_reducible refine (HQx.out _ HBc.out).mono ?_); rintro e w4 ⟨rfl, hb⟩; have HB4 := Lib.hid (below_next HBc.out hb); have HJ4 := Lib.hid (HJc.out.next hb); clear hb)
                | fail)
            all_goals
              go_wp2_with (at_builtin; refine wpList_append_src _ rfl (.tmp 49) (.tmp 53) 49 rfl w3.heap.size 62 i0 (.slice none 0 0) 24 Try.underlying49 HZ.out.1 HZ.out.2.1 HZ.out.2.2.1 HZ.out.2.2.2 rfl _ ys.length (ys.flatMap Flat.cells) rfl ((HJ4.out.row.alloc _).alloc _) (some ⟨w4.heap.size + 1, 0, none⟩) 1 1 [.slice (some ⟨w4.heap.size, 0, none⟩) 2 2] rfl rfl (fun _ => ⟨_, rfl, one_slice (by simp)⟩) (one_sliceC _ _ _) (by have := HLN.out; have := HPL.out; unfold maxLen; omega) (by have := HLN.out; have := HPL.out; omega) (by have := HB4.out.size; simp; omega) ?_; intro v1 w6 hown hgrow hat)
              have hps := HJ4.out.push HB4.out hown hgrow (by
                rcases hat with h | h
                · exact .inl h
                · exact .inr (by rw [h]; simp))
              have HPS := Lib.hid hps.1
              have HB6 := Lib.hid hps.2
              clear hown hgrow hat hps
              go_roundw
              case rel => exact ⟨j + 1, _, _, by omega, by go_num, by rw [HP.out, ← List.append_assoc]; exact HPS, HB6⟩
              case measure => simp [intOf]; omega
        · obtain rfl : j = nmN x.l i := by omega
          go_wp2
          rw [HAA.out]
          go_roundw
          case rel => exact ⟨i + 1, ys, s, by omega, by go_num, HJ, HBJ⟩
          case measure => simp [intOf]; omega
    · obtain rfl : i = x.l.length := by omega
      obtain ⟨r, rfl, h1, h2, h3⟩ := HA.out.done
      have H1' := Lib.hid (And.intro h1 (And.intro h2 h3))
      clear h1 h2 h3
      go_wp2
      go_returns
      rw [HP.out.1, HP.out.2]
      exact ⟨⟨r, rfl, H1'.out.1, H1'.out.2.1, Nst.own_mono H1'.out.2.2 (fun i hi => ⟨Nat.le_trans HB3.out.size hi.1, hi.2⟩)⟩, below_next HB3.out HB.out⟩
end Go.Proofs.Ytpmjfanalcaodaa
