/- The open names in the model. -/
import Derived.Test.YtbhfhjhegcfdkaaShT
namespace Go.Proofs.Ytbhfhjhegcfdkaa
open Go.ChangeShapes Go.WideShapes Go.ChangeAt Go.RowKit Go.Lib Go.Proofs
set_option linter.unusedVariables false

set_option maxHeartbeats 400000 in
set_option maxRecDepth 100000 in
theorem caOpen_any (x : Sh) (w : World) (hr : ShIn w w.heap.size x) (hl : ShFits x) (hok : ShOk x) :
    Calls Try.prog 17 #[x.val] w fun e w' => (∃ y : Rw (Rw Int), e = .returned (.slice y.A y.xs.length y.c) ∧ PairsAns (plI (nmN x.l) (opD x) x.l.length) w w' y) ∧ Below w.heap.size w w' := by
  obtain ⟨i0, hi, hz0, hz1, hz2⟩ := info_parts Try.infoRwI
  have HZ := Lib.hid (And.intro hi (And.intro hz0 (And.intro hz1 hz2)))
  have hb0 := below_alloc w (.cells #[.slice x.P x.l.length x.c, .slice x.V.A x.V.xs.length x.V.c, .slice x.R x.rv.length x.e] 33)
  have HR := Lib.hid (hr.next hb0)
  have HX := Lib.hid (imMem_new w _ 33 rfl (.slice x.P x.l.length x.c) (.slice x.V.A x.V.xs.length x.V.c) (.slice x.R x.rv.length x.e))
  have hsW : w.heap.size < (w.alloc (.cells #[.slice x.P x.l.length x.c, .slice x.V.A x.V.xs.length x.V.c, .slice x.R x.rv.length x.e] 33)).heap.size := by simp
  have HB0 := Lib.hid hb0
  have HF := Lib.hid hl
  have HK := Lib.hid hok
  have h14 := hok.ls.len
  have HN3 := Lib.hid (nmN_le hok)
  clear hr hl hok hb0 hi hz0 hz1 hz2
  unfold Sh.val
  go_enter Try.func17, Try.ntmps17
  go_wp2_with fail
  generalize World.alloc w _ = W at HR HX HB0 hsW ⊢
  go_loopw [3, 10] (fun v p wr => ∃ (i : Nat) (ys : List (Rw Int)) (s : Nat → Nat), i ≤ x.l.length ∧ p = .int .i64 i ∧ Hid (NAp W wr v (plI (nmN x.l) (opD x) i) ys s) ∧ Hid (Below W.heap.size W wr)) (fun _ p _ => x.l.length - (intOf p).toNat)
  case atStart => exact ⟨0, [], fun _ => 0, Nat.zero_le _, rfl, Lib.hid (NAp.zero W W), Lib.hid (Below.refl _ _)⟩
  case round =>
    obtain ⟨i, ys, s, hk, rfl, HA, HB⟩ := hrel
    by_cases hlt : i < x.l.length
    · obtain ⟨b, o, hA, hbl, hc⟩ := HR.out.its.out.im (by omega)
      rw [hA]
      obtain ⟨c0, c1, c2⟩ := (hc i hlt).below HB.out hbl
      have hn3 := HN3.out i hlt
      have HNN := Lib.hid (show nmN x.l i = (it x.l i).ns.length from rfl)
      clear hc
      go_wp2_with fail
      clear c0 c1 c2
      have hb3 := below_alloc wr (.cells #[.slice (it x.l i).A (it x.l i).ns.length (it x.l i).c, .slice (it x.l i).L (it x.l i).ms.length (it x.l i).d, .bool (it x.l i).late] 56)
      generalize World.alloc wr _ = w3 at hb3 ⊢
      have HB3 := Lib.hid (below_next HB.out hb3)
      have HA3 := Lib.hid (show NAp W w3 _ (plI (nmN x.l) (opD x) i ++ plJ (opD x) i 0) ys s by rw [show plJ (opD x) i 0 = [] from rfl, List.append_nil]; exact HA.out.next hb3)
      clear hb3
      rw [← HNN.out]
      go_loopw [3, 18] (fun v p wr => ∃ (j : Nat) (ys : List (Rw Int)) (s : Nat → Nat), j ≤ nmN x.l i ∧ p = .int .i64 j ∧ Hid (NAp W wr v (plI (nmN x.l) (opD x) i ++ plJ (opD x) i j) ys s) ∧ Hid (Below W.heap.size W wr)) (fun _ p _ => nmN x.l i - (intOf p).toNat)
      case atStart => exact ⟨0, ys, s, Nat.zero_le _, rfl, HA3, HB3⟩
      case round =>
        obtain ⟨j, ys, s, hj, rfl, HJ, HBJ⟩ := hrel
        by_cases hjl : j < nmN x.l i
        · have HC := Lib.hid (caCall_any x i j wr (HR.out.next HBJ.out) HF.out HK.out hlt hjl)
          unfold Sh.val at HC
          rw [hA] at HC
          obtain ⟨y0, y1, y2, yf⟩ := HX.out.below HBJ.out hsW
          have hbd := plI_len (n := nmN x.l) (D := opD x) i (fun k hk => HN3.out k (by omega))
          have hbd2 := plJ_len (opD x) i j
          have HLN := Lib.hid HJ.out.len
          have HPL := Lib.hid (show (plI (nmN x.l) (opD x) i ++ plJ (opD x) i j).length ≤ 60 by rw [List.length_append]; omega)
          by_cases hq : caI x i j < 0
          rotate_left
          · have HP := Lib.hid (plJ_no (D := opD x) (i := i) (j := j) (decide_eq_false hq))
            have hq' : 0 ≤ caI x i j := by omega
            clear hq hbd hbd2
            go_wp2_with (go_at_call 39; refine HC.out.mono ?_; rintro e w4 ⟨rfl, hb4⟩; have HB4 := Lib.hid (below_next HBJ.out hb4); have HJ4 := Lib.hid (HJ.out.next hb4); clear hb4)
            go_roundw
            case rel => exact ⟨j + 1, ys, s, by omega, by go_num, by rw [HP.out]; exact HJ4, HB4⟩
            case measure => simp [intOf]; omega
          · have HP := Lib.hid (plJ_yes (D := opD x) (i := i) (j := j) (decide_eq_true hq))
            clear hbd hbd2
            go_wp2_with (first
              | (go_at_call 39; refine HC.out.mono ?_; rintro e w4 ⟨rfl, hb4⟩; have HB4 := Lib.hid (below_next HBJ.out hb4); have HJ4 := Lib.hid (HJ.out.next hb4); clear hb4)
              | (at_builtin; refine wpList_append_src _ rfl (.tmp 26) (.tmp 30) 44 rfl W.heap.size 54 i0 (.slice none 0 0) 24 Try.underlying44 HZ.out.1 HZ.out.2.1 HZ.out.2.2.1 HZ.out.2.2.2 rfl _ ys.length (ys.flatMap Flat.cells) rfl ((HJ4.out.row.alloc _).alloc _) (some ⟨w4.heap.size + 1, 0, none⟩) 1 1 [.slice (some ⟨w4.heap.size, 0, none⟩) 2 2] rfl rfl (fun _ => ⟨_, rfl, one_slice (by simp)⟩) (one_sliceC _ _ _) (by have := HLN.out; have := HPL.out; unfold maxLen; omega) (by have := HLN.out; have := HPL.out; omega) (by have := HB4.out.size; simp; omega) ?_; intro v1 w6 hown hgrow hat))
            have hps := HJ4.out.push HB4.out hown hgrow (by
              rcases hat with h | h
              · exact .inl h
              · exact .inr (by rw [h]; simp))
            have HPS := Lib.hid hps.1
            have HB6 := Lib.hid hps.2
            clear hown hgrow hat hps
            go_roundw
            case rel => exact ⟨j + 1, _, _, by omega, by go_num, by rw [HP.out, ← List.append_assoc]; exact HPS, HB6⟩
            case measure => simp [intOf]; omega
        · obtain rfl : j = nmN x.l i := by omega
          go_wp2
          go_roundw
          case rel => exact ⟨i + 1, ys, s, by omega, by go_num, HJ, HBJ⟩
          case measure => simp [intOf]; omega
    · obtain rfl : i = x.l.length := by omega
      obtain ⟨y, rfl, h1, h2, h3⟩ := HA.out.done
      have H1 := Lib.hid (And.intro h1 (And.intro h2 h3))
      clear h1 h2 h3
      go_wp2
      go_ret
      exact ⟨⟨y, rfl, H1.out.1, H1.out.2.1, Nst.own_mono H1.out.2.2 (fun i hi => ⟨Nat.le_trans HB0.out.size hi.1, hi.2⟩)⟩, below_next HB0.out HB.out⟩
end Go.Proofs.Ytbhfhjhegcfdkaa
