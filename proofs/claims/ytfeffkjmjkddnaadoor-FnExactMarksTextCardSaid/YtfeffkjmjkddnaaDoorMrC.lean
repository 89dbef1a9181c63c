/- Valid marks in the model. -/
import Derived.Test.YtfeffkjmjkddnaaDoorMrB
import Derived.Deep.RegionHeld3
namespace Go.Proofs.YtfeffkjmjkddnaaDoor
open Go.ChangeShapes Go.WideShapes Go.ChangeAt Go.RowKit
set_option linter.unusedVariables false

theorem l1In_any (n lo hi : Int) (w : World) :
    Calls Tryd.prog 28 #[.int .i64 n, .int .i64 lo, .int .i64 hi] w fun e w' => e = .returned (.bool (pB (lo ≤ n ∧ n ≤ hi))) ∧ w' = w := by
  by_cases h1 : lo ≤ n
  · by_cases h2 : n ≤ hi
    · rw [pB_yes ⟨h1, h2⟩]
      go_enter Tryd.func28, Tryd.ntmps28
      go_wp2
      go_ret
      simp [*]
    · rw [pB_no (fun q => h2 q.2)]
      have h3 : hi < n := by omega
      clear h2
      go_enter Tryd.func28, Tryd.ntmps28
      go_wp2
      go_ret
      simp
      omega
  · rw [pB_no (fun q => h1 q.1)]
    have h2 : n < lo := by omega
    clear h1
    go_enter Tryd.func28, Tryd.ntmps28
    go_wp2
    go_ret
    simp
def InV (lo hi : Int) (l : List Int) : Prop := ∀ j, j < l.length → lo ≤ it l j ∧ it l j ≤ hi
theorem l1All_any (A : Option Addr) (c n : Nat) (xs : List Int) (lo hi : Int) (hn : xs.length = n) (w : World) (hr : Lst w w.heap.size A xs) (hl : n ≤ 1048576) :
    Calls Tryd.prog 42 #[.slice A n c, .int .i64 lo, .int .i64 hi] w fun e w' => e = .returned (.bool (pB (InV lo hi xs))) ∧ w' = w := by
  subst hn
  have HR := Lib.hid hr
  clear hr
  go_enter Tryd.func42, Tryd.ntmps42
  go_wp2
  go_loop [11] (fun i => ∃ k : Nat, k ≤ xs.length ∧ i = .int .i64 k ∧ Hid (∀ j, j < k → lo ≤ it xs j ∧ it xs j ≤ hi)) (fun i => xs.length - (intOf i).toNat)
  case atStart => exact ⟨0, Nat.zero_le _, rfl, Lib.hid none_yet⟩
  case round =>
    obtain ⟨k, hk, rfl, HI⟩ := hrel
    by_cases hlt : k < xs.length
    · obtain ⟨b, o, rfl, hbl, hc⟩ := HR.out.int (by omega)
      have hck := hc k hlt
      have HC := Lib.hid (l1In_any (it xs k) lo hi)
      clear hc
      by_cases h : lo ≤ it xs k ∧ it xs k ≤ hi
      · rw [pB_yes h] at HC
        have HZ := Lib.hid h
        clear h
        go_wp2_with (go_at_call 28; refine (HC.out _).mono ?_; rintro e w2 ⟨rfl, rfl⟩)
        go_round
        case rel => exact ⟨k + 1, by omega, by go_num, Lib.hid (one_more HI.out HZ.out)⟩
        case measure => simp [intOf]; omega
      · rw [pB_no h] at HC
        have HV := Lib.hid (pB_no (fun hh : InV lo hi xs => h (hh k hlt)))
        clear h
        go_wp2_with (go_at_call 28; refine (HC.out _).mono ?_; rintro e w2 ⟨rfl, rfl⟩)
        go_ret
        exact ⟨by rw [HV.out]; rfl, rfl⟩
    · obtain rfl : k = xs.length := by omega
      have HV := Lib.hid (pB_yes (show InV lo hi xs from HI.out))
      go_wp2
      go_ret
      exact ⟨by rw [HV.out]; rfl, rfl⟩
theorem l1All_r (r : Rw Int) (n : Nat) (lo hi : Int) (w : World) (hn : r.xs.length = n) (hr : Nst.In w w.heap.size r) (hl : n ≤ 1048576) :
    Calls Tryd.prog 42 #[.slice r.A n r.c, .int .i64 lo, .int .i64 hi] w fun e w' => e = .returned (.bool (pB (InV lo hi r.xs))) ∧ w' = w := l1All_any r.A r.c n r.xs lo hi hn w hr hl

theorem mkList_no (r : Rw Int) (J : Nat) (w : World) (hr : Nst.In w w.heap.size r) (hl : NFit r) (hJ : J ≤ 1048576) :
    Calls Tryd.prog 27 #[.slice r.A r.xs.length r.c, .int .i64 J, .bool false] w fun e w' => e = .returned (.bool (pB (RowV GdOk J r.xs))) ∧ w' = w := by
  have HR := Lib.hid hr
  have hl' := nfit_len hl
  clear hr hl
  by_cases h1 : r.xs.length = J
  · subst h1
    have HC := Lib.hid (l1All_r r r.xs.length (-5) 5 w rfl HR.out hl')
    have HV := Lib.hid (show pB (InV (-5) 5 r.xs) = pB (RowV GdOk r.xs.length r.xs) from pB_iff ⟨fun h => ⟨rfl, h⟩, fun h => h.each⟩)
    rw [HV.out] at HC
    clear HV
    obtain ⟨q, hq⟩ : ∃ q, q = pB (RowV GdOk r.xs.length r.xs) := ⟨_, rfl⟩
    rw [← hq] at HC ⊢
    clear hq
    go_enter Tryd.func27, Tryd.ntmps27
    go_wp2
    go_loop [11] (fun i => ∃ k : Nat, k ≤ r.xs.length ∧ i = .int .i64 k) (fun i => r.xs.length - (intOf i).toNat)
    case atStart => exact ⟨0, Nat.zero_le _, rfl⟩
    case round =>
      obtain ⟨k, hk, rfl⟩ := hrel
      by_cases hlt : k < r.xs.length
      · obtain ⟨b, o, hA, hbl, hc⟩ := (show Lst w w.heap.size r.A r.xs from HR.out).int (by omega)
        have hck := hc k hlt
        rw [hA]
        clear hc hA
        go_wp2
        go_round
        case rel => exact ⟨k + 1, by omega, by go_num⟩
        case measure => simp [intOf]; omega
      · obtain rfl : k = r.xs.length := by omega
        go_wp2_with (go_at_call 42; refine HC.out.mono ?_; rintro e w2 ⟨rfl, rfl⟩)
        go_ret
        exact ⟨rfl, rfl⟩
  · have HV := Lib.hid (pB_no (fun q : RowV GdOk J r.xs => h1 q.len))
    have hd : ((r.xs.length : Int) == (J : Int)) = false := by simp; omega
    clear h1
    go_enter Tryd.func27, Tryd.ntmps27
    go_wp2
    go_loop [11] (fun i => ∃ k : Nat, k ≤ r.xs.length ∧ i = .int .i64 k) (fun i => r.xs.length - (intOf i).toNat)
    case atStart => exact ⟨0, Nat.zero_le _, rfl⟩
    case round =>
      obtain ⟨k, hk, rfl⟩ := hrel
      by_cases hlt : k < r.xs.length
      · obtain ⟨b, o, hA, hbl, hc⟩ := (show Lst w w.heap.size r.A r.xs from HR.out).int (by omega)
        have hck := hc k hlt
        rw [hA]
        clear hc hA
        go_wp2
        go_round
        case rel => exact ⟨k + 1, by omega, by go_num⟩
        case measure => simp [intOf]; omega
      · obtain rfl : k = r.xs.length := by omega
        go_wp2
        go_ret
        exact ⟨by rw [HV.out]; rfl, rfl⟩
theorem mkList_yes (r : Rw Int) (J : Nat) (w : World) (hr : Nst.In w w.heap.size r) (hl : NFit r) (hJ : J ≤ 1048576) :
    Calls Tryd.prog 27 #[.slice r.A r.xs.length r.c, .int .i64 J, .bool true] w fun e w' => e = .returned (.bool (pB (RowV CpOk J r.xs))) ∧ w' = w := by
  have HR := Lib.hid hr
  have hl' := nfit_len hl
  clear hr hl
  go_enter Tryd.func27, Tryd.ntmps27
  go_wp2
  go_loop [11] (fun i => ∃ k : Nat, k ≤ r.xs.length ∧ i = .int .i64 k ∧ Hid (∀ j, j < k → (it r.xs j).tmod 25 = 0)) (fun i => r.xs.length - (intOf i).toNat)
  case atStart => exact ⟨0, Nat.zero_le _, rfl, Lib.hid none_yet⟩
  case round =>
    obtain ⟨k, hk, rfl, HI⟩ := hrel
    by_cases hlt : k < r.xs.length
    · obtain ⟨b, o, hA, hbl, hc⟩ := (show Lst w w.heap.size r.A r.xs from HR.out).int (by omega)
      have hck := hc k hlt
      rw [hA]
      clear hc hA
      by_cases h : (it r.xs k).tmod 25 = 0
      · have HH := Lib.hid (one_more (Q := fun j => (it r.xs j).tmod 25 = 0) HI.out h)
        have hd : ((it r.xs k).tmod 25 != 0) = false := by simp [h]
        clear h
        go_wp2
        go_round
        case rel => exact ⟨k + 1, by omega, by go_num, HH⟩
        case measure => simp [intOf]; omega
      · have HV := Lib.hid (pB_no (fun q : RowV CpOk J r.xs => h (q.each k hlt).st))
        have hd : ((it r.xs k).tmod 25 != 0) = true := by simp [h]
        clear h
        go_wp2
        go_ret
        exact ⟨by rw [HV.out]; rfl, rfl⟩
    · obtain rfl : k = r.xs.length := by omega
      by_cases h1 : r.xs.length = J
      · have HC := Lib.hid (l1All_r r r.xs.length 0 1000 w rfl HR.out hl')
        have HV := Lib.hid (show pB (InV 0 1000 r.xs) = pB (RowV CpOk J r.xs) from pB_iff ⟨fun h => ⟨h1, fun j hj => ⟨(h j hj).1, (h j hj).2, HI.out j hj⟩⟩, fun h j hj => ⟨(h.each j hj).lo, (h.each j hj).hi⟩⟩)
        rw [HV.out] at HC
        have hd : ((r.xs.length : Int) == (J : Int)) = true := by simp [h1]
        clear HV h1
        go_wp2_with (go_at_call 42; refine HC.out.mono ?_; rintro e w2 ⟨rfl, rfl⟩)
        go_ret
        exact ⟨rfl, rfl⟩
      · have HV := Lib.hid (pB_no (fun q : RowV CpOk J r.xs => h1 q.len))
        have hd : ((r.xs.length : Int) == (J : Int)) = false := by simp; omega
        clear h1
        go_wp2
        go_ret
        exact ⟨by rw [HV.out]; rfl, rfl⟩
theorem mr_cell {w : World} {B : Nat} {q : Rw (Rw Int)} (h : Nst.In w B q) (hp : 0 < q.xs.length) : ∃ b o, q.A = some ⟨b, o, none⟩ ∧ b < B ∧ ∀ i, i < q.xs.length → w.cell? ⟨b, o + i, none⟩ = some (.slice (it q.xs i).A (it q.xs i).xs.length (it q.xs i).c) := (show NIn w B q.A q.xs from h).out.rw hp
theorem mr_each {w : World} {B : Nat} {q : Rw (Rw Int)} (h : Nst.In w B q) (i : Nat) (hi : i < q.xs.length) : Nst.In w B (it q.xs i) := (show NIn w B q.A q.xs from h).each i hi
set_option maxHeartbeats 4000000 in
theorem mkAll_any (x : Mr) (w : World) (hr : MrIn w w.heap.size x) (hl : MrFits x) :
    Calls Tryd.prog 15 #[x.val] w fun e w' => e = .returned (.bool (pB (MkL (ctt x.G) (ctt x.C)))) ∧ Below w.heap.size w w' := by
  have hb0 := below_alloc w (.cells #[.slice x.G.A x.G.xs.length x.G.c, .slice x.C.A x.C.xs.length x.C.c] 28)
  have HR := Lib.hid (hr.next hb0)
  have HX := Lib.hid (mrBox_new w 28 x)
  have HB0 := Lib.hid hb0
  have HF := Lib.hid hl
  have hg1 := nfit_len hl.g
  have hc1 := nfit_len hl.c
  clear hr hl hb0
  unfold Mr.val
  by_cases h1 : x.C.xs.length = 3
  rotate_left
  · have HV := Lib.hid (pB_no (fun q : MkL (ctt x.G) (ctt x.C) => h1 (by rw [← ctt_len]; exact q.three)))
    have hd : ((x.C.xs.length : Int) != 3) = true := by simp; omega
    clear h1
    go_enter Tryd.func15, Tryd.ntmps15
    go_wp2_with fail
    generalize World.alloc w _ = W at HR HX HB0 ⊢
    obtain ⟨x0, x1, xf⟩ := HX.out.mem
    go_wp2
    go_ret
    exact ⟨by rw [HV.out]; rfl, HB0.out⟩
  have hd : ((x.C.xs.length : Int) != 3) = false := by simp [h1]
  have H3 := Lib.hid h1
  have h13 : 0 < x.C.xs.length := by omega
  clear h1
  rcases Nat.lt_or_ge 14 x.G.xs.length with h2 | h2
  · have HV := Lib.hid (pB_no (fun q : MkL (ctt x.G) (ctt x.C) => by have := q.few; rw [ctt_len] at this; omega))
    go_enter Tryd.func15, Tryd.ntmps15
    go_wp2_with fail
    generalize World.alloc w _ = W at HR HX HB0 ⊢
    obtain ⟨x0, x1, xf⟩ := HX.out.mem
    go_wp2
    go_ret
    exact ⟨by rw [HV.out]; rfl, HB0.out⟩
  obtain ⟨b, o, hA, hbl, hc⟩ := mr_cell HR.out.c h13
  have hc0 := hc 0 h13
  rw [Nat.add_zero] at hc0
  have h0p : (0 : Int) < (x.C.xs.length : Int) := by omega
  have HCC := Lib.hid hc
  have HA := Lib.hid hA
  rw [hA] at HX HR HB0 hc0 HCC
  rw [hA]
  clear hc hA
  have HJ := Lib.hid (show (it x.C.xs 0).xs.length = jgs (ctt x.C) by unfold jgs; rw [ctt_it])
  have hj0 := nfit_len (nfit_each HF.out.c 0 h13)
  go_enter Tryd.func15, Tryd.ntmps15
  go_wp2_with fail
  generalize World.alloc w _ = W at HR HX HB0 HCC hc0 ⊢
  clear hc0
  rw [HJ.out]
  rw [HJ.out] at hj0
  go_loopw [26] (fun i wr => ∃ k : Nat, k ≤ x.G.xs.length ∧ i = .int .i64 k ∧ Hid (∀ i, i < k → RowV GdOk (jgs (ctt x.C)) (it x.G.xs i).xs) ∧ wr = W) (fun i _ => x.G.xs.length - (intOf i).toNat)
  case atStart => exact ⟨0, Nat.zero_le _, rfl, Lib.hid none_yet, rfl⟩
  case round =>
    obtain ⟨k, hk, rfl, HI, rfl⟩ := hrel
    by_cases hlt : k < x.G.xs.length
    · obtain ⟨b', o', hA', hbl', hc'⟩ := mr_cell HR.out.g (by omega)
      have hck := hc' k hlt
      have HC := Lib.hid (mkList_no (it x.G.xs k) (jgs (ctt x.C)) wr (mr_each HR.out.g k hlt) (nfit_each HF.out.g k hlt) hj0)
      rw [hA']
      clear hc' hA'
      by_cases h : RowV GdOk (jgs (ctt x.C)) (it x.G.xs k).xs
      · rw [pB_yes h] at HC
        have HZ := Lib.hid (one_more (Q := fun i => RowV GdOk (jgs (ctt x.C)) (it x.G.xs i).xs) HI.out h)
        clear h
        go_wp2_with (go_at_call 27; refine HC.out.mono ?_; rintro e w2 ⟨rfl, rfl⟩)
        go_roundw
        case rel => exact ⟨k + 1, by omega, by go_num, HZ, trivial⟩
        case measure => simp [intOf]; omega
      · rw [pB_no h] at HC
        have HV := Lib.hid (pB_no (fun q : MkL (ctt x.G) (ctt x.C) => h (by rw [← ctt_it]; exact q.gs k (by rw [ctt_len]; exact hlt))))
        clear h
        go_wp2_with (go_at_call 27; refine HC.out.mono ?_; rintro e w2 ⟨rfl, rfl⟩)
        go_ret
        exact ⟨by rw [HV.out]; rfl, HB0.out⟩
    · obtain rfl : k = x.G.xs.length := by omega
      have HGS := Lib.hid HI.out
      obtain ⟨x0, x1, xf⟩ := HX.out.mem
      go_wp2_with fail
      clear x0 x1
      go_loopw [38] (fun i w1 => ∃ k : Nat, k ≤ x.C.xs.length ∧ i = .int .i64 k ∧ Hid (∀ i, i < k → RowV CpOk (jgs (ctt x.C)) (it x.C.xs i).xs) ∧ w1 = wr) (fun i _ => x.C.xs.length - (intOf i).toNat)
      case atStart => exact ⟨0, Nat.zero_le _, rfl, Lib.hid none_yet, rfl⟩
      case round =>
        obtain ⟨k, hk, rfl, HI, rfl⟩ := hrel
        by_cases hlt : k < x.C.xs.length
        · have hck := HCC.out k hlt
          have HC := Lib.hid (mkList_yes (it x.C.xs k) (jgs (ctt x.C)) wr (mr_each HR.out.c k hlt) (nfit_each HF.out.c k hlt) hj0)
          rw [HA.out]
          by_cases h : RowV CpOk (jgs (ctt x.C)) (it x.C.xs k).xs
          · rw [pB_yes h] at HC
            have HZ := Lib.hid (one_more (Q := fun i => RowV CpOk (jgs (ctt x.C)) (it x.C.xs i).xs) HI.out h)
            clear h
            go_wp2_with (go_at_call 27; refine HC.out.mono ?_; rintro e w2 ⟨rfl, rfl⟩)
            go_roundw
            case rel => exact ⟨k + 1, by omega, by go_num, HZ, trivial⟩
            case measure => simp [intOf]; omega
          · rw [pB_no h] at HC
            have HV := Lib.hid (pB_no (fun q : MkL (ctt x.G) (ctt x.C) => h (by rw [← ctt_it]; exact q.cs k (by rw [ctt_len]; exact hlt))))
            clear h
            go_wp2_with (go_at_call 27; refine HC.out.mono ?_; rintro e w2 ⟨rfl, rfl⟩)
            go_ret
            exact ⟨by rw [HV.out]; rfl, HB0.out⟩
        · obtain rfl : k = x.C.xs.length := by omega
          have HV := Lib.hid (show pB ((3 : Int) ≤ (jgs (ctt x.C) : Int) ∧ (jgs (ctt x.C) : Int) ≤ 9) = pB (MkL (ctt x.G) (ctt x.C)) from pB_iff ⟨fun h => ⟨by rw [ctt_len]; exact h2, by rw [ctt_len]; exact H3.out, by omega, by omega, fun i hi => by rw [ctt_it]; exact HGS.out i (by rw [← ctt_len]; exact hi), fun i hi => by rw [ctt_it]; exact HI.out i (by rw [← ctt_len]; exact hi)⟩, fun h => ⟨by have := h.j3; omega, by have := h.j9; omega⟩⟩)
          go_wp2_with (go_at_call 28; refine (l1In_any _ _ _ _).mono ?_; rintro e w2 ⟨rfl, rfl⟩)
          go_ret
          exact ⟨by rw [← HV.out]; rfl, HB0.out⟩
end Go.Proofs.YtfeffkjmjkddnaaDoor
