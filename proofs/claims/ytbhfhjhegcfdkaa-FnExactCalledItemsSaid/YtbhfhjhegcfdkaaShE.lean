/- IsSheet of the model: reviews, and all of it. -/
import Derived.Test.YtbhfhjhegcfdkaaShD
namespace Go.Proofs.Ytbhfhjhegcfdkaa
open Go.ChangeShapes Go.WideShapes Go.ChangeAt Go.RowKit
set_option linter.unusedVariables false

theorem l1InQ (b : Bool) (n lo hi : Int) (w : World) (h : pB (lo ≤ n ∧ n ≤ hi) = b) :
    Calls Try.prog 62 #[.int .i64 n, .int .i64 lo, .int .i64 hi] w fun e w' => e = .returned (.bool b) ∧ w' = w := by
  subst h
  exact l1In_any n lo hi w
structure RvBox (w : World) (b : Nat) (r : Rv) : Prop where
  c0 : w.cell? ⟨b, 0, none⟩ = some (.int .i64 r.item)
  c1 : w.cell? ⟨b, 1, none⟩ = some (.int .i64 r.name)
  c2 : w.cell? ⟨b, 2, none⟩ = some (.int .i64 r.mark)
theorem rvBox_new (w : World) (t : TypeId) (r : Rv) : RvBox (w.alloc (.cells #[.int .i64 r.item, .int .i64 r.name, .int .i64 r.mark] t)) w.heap.size r := by
  constructor <;> simp
set_option maxHeartbeats 1000000 in
theorem caReview_any (P : Option Addr) (c : Nat) (xs : List Im) (r : Rv) (w : World) (hr : Ims w w.heap.size P xs) (hl : ImsFits xs) :
    Calls Try.prog 38 #[.slice P xs.length c, r.val] w fun e w' => e = .returned (.bool (pB (RvOk xs r))) ∧ Below w.heap.size w w' := by
  have hb0 := below_alloc w (.cells #[.int .i64 r.item, .int .i64 r.name, .int .i64 r.mark] 71)
  have HR := Lib.hid (hr.next hb0)
  have HX := Lib.hid (rvBox_new w 71 r)
  have HB0 := Lib.hid (fun q => below_next hb0 (below_drewN (w.alloc (.cells #[.int .i64 r.item, .int .i64 r.name, .int .i64 r.mark] 71)) q))
  have HF := Lib.hid hl
  have hl' := hl.len
  clear hr hl hb0
  unfold Rv.val
  go_enter Try.func38, Try.ntmps38
  go_wp2_with fail
  generalize World.alloc w _ = W at HR HX HB0 ⊢
  obtain ⟨x0, x1, x2⟩ := HX.out
  by_cases h1 : 0 ≤ r.item ∧ r.item ≤ (xs.length : Int) - 1
  rotate_left
  · have HV := Lib.hid (pB_no (fun hh : RvOk xs r => h1 ⟨hh.nm.i0, by have := hh.nm.i1; omega⟩))
    have HC := Lib.hid (pB_no h1)
    clear h1
    go_quiet (first | (go_at_call 62; exact Calls.quiet_of_same (l1InQ _ _ _ _ _ HC.out)))
    go_wp2
    go_ret
    exact ⟨by rw [HV.out]; rfl, HB0.out _⟩
  have HC := Lib.hid (pB_yes h1)
  obtain ⟨i, hi⟩ : ∃ i : Nat, r.item = (i : Int) := ⟨r.item.toNat, by omega⟩
  have HI := Lib.hid hi
  rw [hi] at x0 HC
  have q1 : (0 : Int) ≤ (i : Int) := by omega
  have q2 : (i : Int) < (xs.length : Int) := by omega
  have hit : i < xs.length := by omega
  clear h1 hi
  obtain ⟨b, o, rfl, hbl, hc⟩ := HR.out.out.im (by omega)
  obtain ⟨c0, c1, c2⟩ := hc i hit
  have hns := (HF.out.each i hit).ns.1
  clear hc c1 c2
  by_cases h2 : 0 ≤ r.name ∧ r.name ≤ ((it xs i).ns.length : Int) - 1
  rotate_left
  · have HV := Lib.hid (pB_no (fun hh : RvOk xs r => h2 ⟨hh.nm.n0, by have := hh.nm.n1; rw [HI.out] at this; simp only [Int.toNat_natCast] at this; omega⟩))
    have HC2 := Lib.hid (pB_no h2)
    clear h2
    go_quiet (first | (go_at_call 62; first | exact Calls.quiet_of_same (l1InQ _ _ _ _ _ HC.out) | exact Calls.quiet_of_same (l1InQ _ _ _ _ _ HC2.out)))
    go_wp2
    go_ret
    exact ⟨by rw [HV.out]; rfl, HB0.out _⟩
  have HC2 := Lib.hid (pB_yes h2)
  have HN := Lib.hid h2
  clear h2
  by_cases h3 : (0 : Int) ≤ r.mark ∧ r.mark ≤ 3
  · have HV := Lib.hid (pB_yes (⟨⟨by rw [HI.out]; omega, by rw [HI.out]; omega, HN.out.1, by rw [HI.out]; have := HN.out.2; simp only [Int.toNat_natCast]; omega⟩, h3⟩ : RvOk xs r))
    have HC3 := Lib.hid (pB_yes h3)
    clear h3
    go_quiet (first | (go_at_call 62; first | exact Calls.quiet_of_same (l1InQ _ _ _ _ _ HC.out) | exact Calls.quiet_of_same (l1InQ _ _ _ _ _ HC2.out) | exact Calls.quiet_of_same (l1InQ _ _ _ _ _ HC3.out)))
    go_wp2
    go_ret
    exact ⟨by rw [HV.out]; rfl, HB0.out _⟩
  · have HV := Lib.hid (pB_no (fun hh : RvOk xs r => h3 hh.mark))
    have HC3 := Lib.hid (pB_no h3)
    clear h3
    go_quiet (first | (go_at_call 62; first | exact Calls.quiet_of_same (l1InQ _ _ _ _ _ HC.out) | exact Calls.quiet_of_same (l1InQ _ _ _ _ _ HC2.out) | exact Calls.quiet_of_same (l1InQ _ _ _ _ _ HC3.out)))
    go_wp2
    go_ret
    exact ⟨by rw [HV.out]; rfl, HB0.out _⟩

/-- A block with the three cells of a sheet. -/
theorem sh_cells {w w' : World} {b : Nat} {v0 v1 v2 : Value} (h : ImMem w b v0 v1 v2) (hlt : b < w.heap.size) (hb : Below w.heap.size w w') : ImMem w' b v0 v1 v2 := h.below hb hlt
set_option maxHeartbeats 2000000 in
set_option maxRecDepth 20000 in
theorem caGood_any (x : Sh) (w : World) (hr : ShIn w w.heap.size x) (hl : ShFits x) :
    Calls Try.prog 16 #[x.val] w fun e w' => e = .returned (.bool (pB (ShOk x))) ∧ Below w.heap.size w w' := by
  have hb0 := below_alloc w (.cells #[.slice x.P x.l.length x.c, .slice x.V.A x.V.xs.length x.V.c, .slice x.R x.rv.length x.e] 33)
  have HR := Lib.hid (hr.next hb0)
  have HX := Lib.hid (imMem_new w _ 33 rfl (.slice x.P x.l.length x.c) (.slice x.V.A x.V.xs.length x.V.c) (.slice x.R x.rv.length x.e))
  have hsW : w.heap.size < (w.alloc (.cells #[.slice x.P x.l.length x.c, .slice x.V.A x.V.xs.length x.V.c, .slice x.R x.rv.length x.e] 33)).heap.size := by simp
  have HB0 := Lib.hid hb0
  have HF := Lib.hid hl
  have hvl := nfit_len hl.vo
  have hrl := hl.re
  clear hr hl hb0
  unfold Sh.val
  go_enter Try.func16, Try.ntmps16
  go_wp2_with fail
  generalize World.alloc w _ = W at HR HX HB0 hsW ⊢
  have HC := Lib.hid (caClean_any x.P x.c x.l W HR.out.its HF.out.its)
  by_cases hcl : Clean x.l
  rotate_left
  · rw [pB_no hcl] at HC
    have HV := Lib.hid (pB_no (fun hh : ShOk x => hcl ⟨hh.ls, hh.un⟩))
    clear hcl
    refine HC.out.mono ?_
    rintro e w1 ⟨rfl, hb1⟩
    have HB1 := Lib.hid (below_next HB0.out hb1)
    obtain ⟨x0, x1, x2, xf⟩ := HX.out.below hb1 hsW
    clear hb1
    go_wp2
    go_ret
    exact ⟨by rw [HV.out]; rfl, HB1.out⟩
  rw [pB_yes hcl] at HC
  have HCL := Lib.hid hcl
  clear hcl
  refine HC.out.mono ?_
  rintro e w1 ⟨rfl, hb1⟩
  have HB1 := Lib.hid (below_next HB0.out hb1)
  have HX1 := Lib.hid (HX.out.below hb1 hsW)
  have HR1 := Lib.hid (HR.out.next hb1)
  have hs1 := Nat.lt_of_lt_of_le hsW hb1.size
  clear hb1
  obtain ⟨x0, x1, x2, xf⟩ := HX1.out
  by_cases h3 : x.V.xs.length = 3
  rotate_left
  · have HV := Lib.hid (pB_no (fun hh : ShOk x => h3 hh.vo.len))
    have hd : ((x.V.xs.length : Int) != 3) = true := by simp; omega
    clear h3
    go_wp2
    go_ret
    exact ⟨by rw [HV.out]; rfl, HB1.out⟩
  have HV3 := Lib.hid h3
  rw [h3] at x1
  clear h3
  rcases Nat.lt_or_ge 20 x.rv.length with h20 | h20
  · have HV := Lib.hid (pB_no (fun hh : ShOk x => by have := hh.re.few; omega))
    go_wp2
    go_ret
    exact ⟨by rw [HV.out]; rfl, HB1.out⟩
  obtain ⟨bV, oV, hA, hbV, hcV⟩ := (show NIn w1 w1.heap.size x.V.A x.V.xs from HR1.out.vo).out.rw (by rw [HV3.out]; omega)
  rw [hA] at x1
  have HCV := Lib.hid hcV
  have HXV := Lib.hid (show ImMem w1 w.heap.size (.slice x.P x.l.length x.c) (.slice (some ⟨bV, oV, none⟩) 3 x.V.c) (.slice x.R x.rv.length x.e) by have h := HX1.out; rw [hA, HV3.out] at h; exact h)
  clear hcV hA HX1
  go_wp2_with fail
  clear x0 x1 x2
  go_loopw [26] (fun i wr => ∃ k : Nat, k ≤ 3 ∧ i = .int .i64 k ∧ Hid (∀ i, i < k → VtOne x.l (it x.V.xs i)) ∧ Hid (Below w1.heap.size w1 wr)) (fun i _ => 3 - (intOf i).toNat)
  case atStart => exact ⟨0, Nat.zero_le _, rfl, Lib.hid none_yet, Lib.hid (Below.refl _ _)⟩
  case round =>
    obtain ⟨k, hk, rfl, HI, HBR⟩ := hrel
    by_cases hlt : k < 3
    · obtain ⟨y0, y1, y2, yf⟩ := HXV.out.below HBR.out hs1
      have d0 := (HBR.out.cell (p := ⟨bV, oV + k, none⟩) hbV).trans (HCV.out k (by rw [HV3.out]; exact hlt))
      have HQ := Lib.hid (Nst.next ((show NIn w1 w1.heap.size x.V.A x.V.xs from HR1.out.vo).each k (by rw [HV3.out]; exact hlt)) HBR.out)
      have HT := Lib.hid (HR1.out.its.next HBR.out)
      have HG := Lib.hid (caVotes_any x.P x.c x.l (it x.V.xs k) wr HT.out HQ.out HF.out.its (nfit_each HF.out.vo k (by rw [HV3.out]; exact hlt)))
      by_cases hv : VtOne x.l (it x.V.xs k)
      · rw [pB_yes hv] at HG
        have HVK := Lib.hid hv
        clear hv
        go_wp2_with (go_at_call 37; refine HG.out.mono ?_; rintro e w2 ⟨rfl, hb2⟩; have HB2 := Lib.hid (below_next HBR.out hb2); clear hb2)
        go_roundw
        case rel => exact ⟨k + 1, by omega, by go_num, Lib.hid (one_more HI.out HVK.out), HB2⟩
        case measure => simp [intOf]; omega
      · rw [pB_no hv] at HG
        have HV := Lib.hid (pB_no (fun hh : ShOk x => hv (hh.vo.each k (by rw [HV3.out]; exact hlt))))
        clear hv
        go_wp2_with (go_at_call 37; refine HG.out.mono ?_; rintro e w2 ⟨rfl, hb2⟩; have HB2 := Lib.hid (below_next HBR.out hb2); clear hb2)
        go_ret
        exact ⟨by rw [HV.out]; rfl, below_next HB1.out HB2.out⟩
    · obtain rfl : k = 3 := by omega
      obtain ⟨y0, y1, y2, yf⟩ := HXV.out.below HBR.out hs1
      have HVA := Lib.hid (show VtAll x.l x.V from ⟨HV3.out, fun i hi => HI.out i (by rw [← HV3.out]; exact hi)⟩)
      go_wp2_with fail
      clear y0 y1 y2
      go_loopw [39] (fun i wq => ∃ k : Nat, k ≤ x.rv.length ∧ i = .int .i64 k ∧ Hid (∀ i, i < k → RvOk x.l (it x.rv i)) ∧ Hid (Below w1.heap.size w1 wq)) (fun i _ => x.rv.length - (intOf i).toNat)
      case atStart => exact ⟨0, Nat.zero_le _, rfl, Lib.hid none_yet, HBR⟩
      case round =>
        obtain ⟨k, hk, rfl, HJ, HBQ⟩ := hrel
        by_cases hlt : k < x.rv.length
        · obtain ⟨y0, y1, y2, yf⟩ := HXV.out.below HBQ.out hs1
          obtain ⟨b, o, hA, hbl, hc⟩ := HR1.out.re.rv (by omega)
          obtain ⟨c0, c1, c2⟩ := (hc k hlt).below HBQ.out hbl
          have HG := Lib.hid (fun w' (hb : Below wr.heap.size wr w') => caReview_any x.P x.c x.l (it x.rv k) w' (HR1.out.its.next (below_next HBQ.out hb)) HF.out.its)
          rw [hA]
          rw [hA] at y2
          have hwq : w.heap.size < wr.heap.size := Nat.lt_of_lt_of_le hs1 HBQ.out.size
          clear hc
          by_cases hv : RvOk x.l (it x.rv k)
          · rw [pB_yes hv] at HG
            have HVK := Lib.hid hv
            clear hv
            go_wp2_with (go_at_call 38; refine (HG.out _ (below_alloc _ (.cells #[.int .i64 (it x.rv k).item, .int .i64 (it x.rv k).name, .int .i64 (it x.rv k).mark] 71))).mono ?_; rintro e w2 ⟨rfl, hb2⟩; have HB2 := Lib.hid (below_next (below_next HBQ.out (below_alloc _ _)) hb2); clear hb2)
            rw [← hA]
            go_roundw
            case rel => refine ⟨_, _, _, _, _, _, _, _, _, _, _, _, ⟨k + 1, by omega, ?_, Lib.hid (one_more HJ.out HVK.out), HB2⟩, rfl⟩; go_num
            case measure => simp [intOf]; omega
          · rw [pB_no hv] at HG
            have HV := Lib.hid (pB_no (fun hh : ShOk x => hv (hh.re.each k hlt)))
            clear hv
            go_wp2_with (go_at_call 38; refine (HG.out _ (below_alloc _ (.cells #[.int .i64 (it x.rv k).item, .int .i64 (it x.rv k).name, .int .i64 (it x.rv k).mark] 71))).mono ?_; rintro e w2 ⟨rfl, hb2⟩; have HB2 := Lib.hid (below_next (below_next HBQ.out (below_alloc _ _)) hb2); clear hb2)
            go_ret
            exact ⟨by rw [HV.out]; rfl, below_next HB1.out HB2.out⟩
        · obtain rfl : k = x.rv.length := by omega
          have HV := Lib.hid (pB_yes (⟨HCL.out.ls, HCL.out.un, HVA.out, ⟨h20, HJ.out⟩⟩ : ShOk x))
          go_wp2
          go_ret
          exact ⟨by rw [HV.out]; rfl, below_next HB1.out HBQ.out⟩
end Go.Proofs.Ytbhfhjhegcfdkaa
