/- Votes that differ from their calls: counted by the program. -/
import Derived.Test.YtpmjfanalcaodaaShDi
import Derived.Deep.RegionHeld3
namespace Go.Proofs.Ytpmjfanalcaodaa
open Go.ChangeShapes Go.WideShapes Go.ChangeAt Go.RowKit Go.Lib Go.Proofs Go.Shelf
set_option linter.unusedVariables false

set_option maxHeartbeats 4000000 in
set_option maxRecDepth 100000 in
theorem diP_any (x : Sh) (k i j p q : Nat) (w : World) (hm : ShMem w p x) (hp : p < w.heap.size) (hq : w.cell? ⟨q, 0, none⟩ = some (.int .i64 k)) (hr : ShIn w w.heap.size x) (hl : ShFits x) (hok : ShOk x) (hk : k < 3) (hi : i < x.l.length) (hj : j < (it x.l i).ns.length) :
    Calls Try.prog 88 (#[.int .i64 (i : Int), .int .i64 (j : Int)] ++ #[.pointer (some ⟨p, 0, none⟩), .pointer (some ⟨q, 0, none⟩)]) w fun e w' => e = .returned (.bool (diD x k i j)) ∧ Below w.heap.size w w' := by
  show Calls Try.prog 88 #[.int .i64 (i : Int), .int .i64 (j : Int), .pointer (some ⟨p, 0, none⟩), .pointer (some ⟨q, 0, none⟩)] w _
  have HC := Lib.hid (callIn_any x i j w hr hl hok hi hj)
  have hrv := hr.vo
  obtain ⟨b0, o0, b1, o1, b2, o2, e0, l0, l1, l2, d0, d1, d2⟩ := spot_cells (⟨hok.vo, hi, hj⟩ : Spot x i j) hr.vo k hk
  have h3 := hok.vo.len
  have hll := hl.its.len
  have hnn := (hl.its.each i hi).ns.1
  obtain ⟨x0, x1, x2, xf⟩ := hm
  rw [e0, h3] at x1
  have HV := Lib.hid (And.intro e0 h3)
  have q1 : (0 : Int) ≤ (i : Int) := by omega
  have q2 : (i : Int) < (x.l.length : Int) := by omega
  have q3 : (0 : Int) ≤ (j : Int) := by omega
  have q4 : (j : Int) < ((it x.l i).ns.length : Int) := by omega
  have q5 : (0 : Int) ≤ (k : Int) := by omega
  have q6 : (k : Int) < 3 := by omega
  have HD := Lib.hid (show diD x k i j = (decide (0 ≤ caI x i j) && (!decide (vt x.V k i j = -1) && !decide (vt x.V k i j = caI x i j))) from rfl)
  unfold Sh.val at HC
  rw [HV.out.1, HV.out.2] at HC
  clear hr hl hok hi hj hrv e0 h3
  rw [HD.out]
  generalize hv : vt x.V k i j = v at d2 ⊢
  generalize hc : caI x i j = c at HC ⊢
  clear hc hv HD
  unfold ansC at HC
  by_cases hc0 : c < 0
  · rw [if_pos hc0, decide_eq_false (by omega : ¬ 0 ≤ c)] at HC
    rw [decide_eq_false (by omega : ¬ 0 ≤ c)]
    clear hc0
    go_enter Try.func88, Try.ntmps88
    go_wp2_with (go_at_call 81; refine HC.out.mono ?_; rintro e w2 ⟨rfl, hb2⟩; have HB2 := Lib.hid hb2; clear hb2)
    go_ret
    exact ⟨rfl, HB2.out⟩
  · rw [if_neg hc0, decide_eq_true (by omega : 0 ≤ c)] at HC
    rw [decide_eq_true (by omega : 0 ≤ c)]
    by_cases h1 : v = -1
    · subst h1
      go_enter Try.func88, Try.ntmps88
      go_wp2_with (go_at_call 81; refine HC.out.mono ?_; rintro e w2 ⟨rfl, hb2⟩; have HB2 := Lib.hid hb2; clear hb2)
      go_ret
      exact ⟨by simp, HB2.out⟩
    · rw [decide_eq_false h1]
      have hd : (v == -1) = false := by simpa using h1
      by_cases h2 : v = c
      · subst h2
        go_enter Try.func88, Try.ntmps88
        go_wp2_with (go_at_call 81; refine HC.out.mono ?_; rintro e w2 ⟨rfl, hb2⟩; have HB2 := Lib.hid hb2; clear hb2)
        all_goals first | (exfalso; omega) | (go_ret; exact ⟨by simp, HB2.out⟩)
      · rw [decide_eq_false h2]
        have hd2 : (v == c) = false := by simpa using h2
        go_enter Try.func88, Try.ntmps88
        go_wp2_with (go_at_call 81; refine HC.out.mono ?_; rintro e w2 ⟨rfl, hb2⟩; have HB2 := Lib.hid hb2; clear hb2)
        all_goals first | (exfalso; omega) | (go_ret; exact ⟨by simp [h1, h2], HB2.out⟩)
set_option maxHeartbeats 8000000 in
set_option maxRecDepth 100000 in
theorem iDissents_any (x : Sh) (w : World) (hr : ShIn w w.heap.size x) (hl : ShFits x) :
    Calls Try.prog 42 #[x.val] w fun e w' => (∃ y : Rw Int, e = .returned (.tuple #[.slice y.A y.xs.length y.c, .bool (pB (ShOk x))]) ∧ IntsAns (diL x) w w' y) ∧ Below w.heap.size w w' := by
  have hb0 := below_alloc w (.cells #[.slice x.P x.l.length x.c, .slice x.V.A x.V.xs.length x.V.c, .slice x.R x.rv.length x.e] 32)
  have HR := Lib.hid (hr.next hb0)
  have HX := Lib.hid (imMem_new w _ 32 rfl (.slice x.P x.l.length x.c) (.slice x.V.A x.V.xs.length x.V.c) (.slice x.R x.rv.length x.e))
  have hsW : w.heap.size < (w.alloc (.cells #[.slice x.P x.l.length x.c, .slice x.V.A x.V.xs.length x.V.c, .slice x.R x.rv.length x.e] 32)).heap.size := by simp
  have HB0 := Lib.hid hb0
  have HF := Lib.hid hl
  have hll := hl.its.len
  clear hr hl hb0
  unfold Sh.val
  go_enter Try.func42, Try.ntmps42
  go_wp2_with fail
  generalize World.alloc w _ = W at HR HX HB0 hsW ⊢
  have HC := Lib.hid (iIsSheet_any x W HR.out HF.out)
  by_cases h1 : ShOk x
  rotate_left
  · rw [pB_no h1] at HC
    have HP := Lib.hid (And.intro (pB_no h1) (diL_no h1))
    clear h1
    refine HC.out.mono ?_
    rintro e w1 ⟨rfl, hb1⟩
    have HB1 := Lib.hid (below_next HB0.out hb1)
    clear hb1
    go_wp2
    go_returns
    rw [HP.out.1, HP.out.2]
    exact ⟨⟨⟨none, 0, []⟩, rfl, rfl, Owned.nil _ _ _⟩, HB1.out⟩
  rw [pB_yes h1] at HC
  have HP := Lib.hid (And.intro (pB_yes h1) (diL_yes h1))
  have H1 := Lib.hid h1
  clear h1
  refine HC.out.mono ?_
  rintro e w1 ⟨rfl, hb1⟩
  have HB1 := Lib.hid (below_next HB0.out hb1)
  have HX1 := Lib.hid (HX.out.below hb1 hsW)
  have HR1 := Lib.hid (HR.out.next hb1)
  have hs1 := Nat.lt_of_lt_of_le hsW hb1.size
  clear hb1 HC
  obtain ⟨i0, hi, hz0, hz1, hz2⟩ := info_parts Try.infoInt
  have HZ := Lib.hid (made_flat (α := Int) #[.int .i64 0] 0 3 rfl (by decide))
  have eG : ∀ args w, (callFunc 88 args).run Try.prog w = .ok (.enter 88 args) w := enters_of Try.func88 (by kernel_rfl) rfl
  have HG := Lib.hid eG
  clear eG
  go_wp2_with (at_make; refine wpList_make_full _ rfl (.const (.int .i64 3)) (.const (.int .i64 3)) 62 rfl w1.heap.size 3 i0 (.int .i64 0) 1 Try.underlying62 hi hz0 hz1 .i64 .i64 _ _ 3 rfl rfl rfl rfl (by rw [hz2]; omega) (by unfold maxLen; omega) (Nat.le_refl _) ?_; intro w2 hown hgrow; have hb2 : Below w1.heap.size w1 w2 := (Below.refl _ _).grown hgrow (Nat.le_refl _) (fun k e => by cases e))
  have HW := Lib.hid (show OwnAt w2 w1.heap.size 0 (diK x 0) from own_of_row (α := Int) (cap := 3) (e := 3) (base := w1.heap.size) (List.replicate 3 (0 : Int)) (by rw [← HZ.out]; exact hown))
  have hs2 := (hown.lt w1.heap.size rfl).2
  have HB2 := Lib.hid hb2
  clear hown hgrow hb2 hi hz0 hz1 hz2
  go_loopw [12] (fun p wr => ∃ k : Nat, k ≤ 3 ∧ p = .int .i64 k ∧ Hid (OwnAt wr w1.heap.size 0 (diK x k)) ∧ w1.heap.size < wr.heap.size ∧ Hid (Below w1.heap.size w1 wr)) (fun p _ => 3 - (intOf p).toNat)
  case atStart => exact ⟨0, Nat.zero_le _, rfl, HW, hs2, HB2⟩
  case round =>
    obtain ⟨k, hk, rfl, HO, hsr, HB⟩ := hrel
    by_cases hlt : k < 3
    · have hlt' : (k : Int) < 3 := by omega
      go_wp2_with fail
      generalize hW5 : World.alloc wr _ = W5
      have hb5 : Below wr.heap.size wr W5 := by rw [← hW5]; exact below_alloc _ _
      have hc5 : W5.cell? ⟨wr.heap.size, 0, none⟩ = some (.int .i64 k) := by rw [← hW5]; exact (new_one wr wr.heap.size (.int .i64 k) _ rfl).1
      have hl5 : wr.heap.size < W5.heap.size := by rw [← hW5]; simp
      clear hW5
      have hb6 := hb5.drew
      have hc6 : W5.drew.cell? ⟨wr.heap.size, 0, none⟩ = some (.int .i64 k) := hc5
      have HB6 := Lib.hid (below_next HB.out hb6)
      have HO6 := Lib.hid (HO.out.block (hb6.block _ hsr))
      have HM6 := Lib.hid (HX1.out.below HB6.out hs1)
      have HS6 := Lib.hid (And.intro HM6.out.c0 hc6)
      have hl6 : wr.heap.size < W5.drew.heap.size := hl5
      have hs6 : w.heap.size < W5.drew.heap.size := Nat.lt_of_lt_of_le hs1 HB6.out.size
      have hr6 : w1.heap.size < W5.drew.heap.size := Nat.lt_of_lt_of_le hsr hb6.size
      have HC := Lib.hid (namesWhere_any x.P x.c x.l 88 #[.pointer (some ⟨w.heap.size, 0, none⟩), .pointer (some ⟨wr.heap.size, 0, none⟩)] (diD x k) W5.drew (HR1.out.next HB6.out).its H1.out.ls HG.out (fun W' hb i j hi hj => diP_any x k i j w.heap.size wr.heap.size W' (HM6.out.below hb hs6) (Nat.lt_of_lt_of_le hs6 hb.size) ((hb.cell (p := ⟨wr.heap.size, 0, none⟩) hl6).trans hc6) ((HR1.out.next HB6.out).next hb) HF.out H1.out hlt hi hj))
      clear hb5 hc5 hb6 hc6
      go_region_held3 (fun w' => w'.cell? ⟨w.heap.size, 0, none⟩ = some (.slice x.P x.l.length x.c) ∧ w'.cell? ⟨wr.heap.size, 0, none⟩ = some (.int .i64 k))
        (first | exact HS6.out | exact HS7.out | exact ⟨(World.cell?_setCell_other _ _ _ _ (fun e => by have q := congrArg Addr.block e; simp at q; omega)).trans HS7.out.1, (World.cell?_setCell_other _ _ _ _ (fun e => by have q := congrArg Addr.block e; simp at q; omega)).trans HS7.out.2⟩)
        (first | (go_at_call 83; refine HC.out.mono ?_; rintro e w7 ⟨⟨y, rfl, hy1, hy2, hy3⟩, hb7⟩; have HY := Lib.hid (show y.xs.length = diN x k from hy1); have HB7 := Lib.hid (below_next HB6.out hb7); have HO7 := Lib.hid (HO6.out.block (hb7.block _ hr6)); have hs7 := Nat.lt_of_lt_of_le hr6 hb7.size; have HS7 := Lib.hid (And.intro ((hb7.cell (p := ⟨w.heap.size, 0, none⟩) hs6).trans HS6.out.1) ((hb7.cell (p := ⟨wr.heap.size, 0, none⟩) hl6).trans HS6.out.2)); obtain ⟨u0, u1⟩ := HO7.out.int0 k (by rw [diK_len]; exact hlt); clear hy1 hy2 hy3 hb7))
      have HP7 := Lib.hid (HO7.out.putInt0 k (y.xs.length : Int) (by rw [diK_len]; exact hlt))
      rw [show (diK x k).set k (y.xs.length : Int) = diK x (k + 1) by rw [HY.out]; rfl] at HP7
      go_wp2
      go_roundw
      case rel => exact ⟨k + 1, by omega, by go_num, HP7, by simpa [World.setCell] using hs7, Lib.hid (HB7.out.setCell (Nat.le_refl _) _)⟩
      case measure => simp [intOf]; omega
    · obtain rfl : k = 3 := by omega
      go_wp2
      go_returns
      rw [HP.out.1, HP.out.2]
      refine ⟨⟨⟨some ⟨w1.heap.size, 0, none⟩, 3, diK x 3⟩, ?_, rfl, fun _ => ⟨_, 0, rfl, ⟨Nat.le_of_lt hs1, hsr⟩, hsr, HO.out⟩⟩, below_next HB1.out HB.out⟩
      show _ = Ending.returned (Value.tuple #[Value.slice (some ⟨w1.heap.size, 0, none⟩) (diK x 3).length 3, Value.bool true])
      rw [diK_len]
      try rfl
end Go.Proofs.Ytpmjfanalcaodaa
