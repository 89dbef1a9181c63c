/- IsSheet of the program: reviews, and all of it; of both sides. -/
import Derived.Test.YtbhfhjhegcfdkaaShG
namespace Go.Proofs.Ytbhfhjhegcfdkaa
open Go.ChangeShapes Go.WideShapes Go.ChangeAt Go.RowKit Go.Lib Go.Proofs
set_option linter.unusedVariables false

set_option maxHeartbeats 1000000 in
theorem hasNameAt_any (P : Option Addr) (c : Nat) (xs : List Im) (i n : Int) (w : World) (hr : Ims w w.heap.size P xs) (hl : ImsFits xs) :
    Calls Try.prog 77 #[.slice P xs.length c, .int .i64 i, .int .i64 n] w fun e w' => e = .returned (.bool (pB (NmAt xs i n))) ∧ w' = w := by
  have HR := Lib.hid hr
  have HF := Lib.hid hl
  have hl' := hl.len
  clear hr hl
  by_cases h0 : 0 ≤ i
  rotate_left
  · have HV := Lib.hid (pB_no (fun hh : NmAt xs i n => h0 hh.i0))
    have h0' : i < 0 := by omega
    clear h0
    go_enter Try.func77, Try.ntmps77
    go_wp2
    go_ret
    exact ⟨by rw [HV.out]; rfl, rfl⟩
  obtain ⟨k, rfl⟩ : ∃ k : Nat, i = (k : Int) := ⟨i.toNat, by omega⟩
  by_cases h1 : k < xs.length
  rotate_left
  · have HV := Lib.hid (pB_no (fun hh : NmAt xs k n => h1 (by have := hh.i1; omega)))
    have h1' : (xs.length : Int) ≤ (k : Int) := by omega
    clear h1
    go_enter Try.func77, Try.ntmps77
    go_wp2
    go_ret
    exact ⟨by rw [HV.out]; rfl, rfl⟩
  have h1' : (k : Int) < (xs.length : Int) := by omega
  by_cases h2 : 0 ≤ n
  rotate_left
  · have HV := Lib.hid (pB_no (fun hh : NmAt xs k n => h2 hh.n0))
    have h2' : n < 0 := by omega
    clear h2
    go_enter Try.func77, Try.ntmps77
    go_wp2
    go_ret
    exact ⟨by rw [HV.out]; rfl, rfl⟩
  obtain ⟨b, o, rfl, hbl, hc⟩ := HR.out.out.im (by omega)
  obtain ⟨c0, c1, c2⟩ := hc k h1
  have hns := (HF.out.each k h1).ns.1
  clear hc c1 c2
  by_cases h3 : n < ((it xs k).ns.length : Int)
  · have HV := Lib.hid (pB_yes (⟨h0, h1', h2, h3⟩ : NmAt xs k n))
    go_enter Try.func77, Try.ntmps77
    go_wp2
    go_ret
    exact ⟨by rw [HV.out]; first | rfl | (simp; omega), rfl⟩
  · have HV := Lib.hid (pB_no (fun hh : NmAt xs k n => h3 hh.n1))
    have h3' : ((it xs k).ns.length : Int) ≤ n := by omega
    clear h3
    go_enter Try.func77, Try.ntmps77
    go_wp2
    go_ret
    exact ⟨by rw [HV.out]; first | rfl | (simp; omega), rfl⟩
theorem isMark_any (v : Int) (w : World) :
    Calls Try.prog 78 #[.int .i64 v] w fun e w' => e = .returned (.bool (pB (MkOk v))) ∧ w' = w := by
  by_cases h : MkOk v
  · rw [pB_yes h]
    exact (isMark_yes v w h).mono fun _ _ k => ⟨k.1, k.2.symm⟩
  · rw [pB_no h]
    exact (isMark_no v w h).mono fun _ _ k => ⟨k.1, k.2.symm⟩
set_option maxHeartbeats 1000000 in
theorem areReviews_any (R : Option Addr) (e : Nat) (rv : List Rv) (P : Option Addr) (c : Nat) (xs : List Im) (w : World) (hv : Lst w w.heap.size R rv) (hr : Ims w w.heap.size P xs) (hl : ImsFits xs) (hrl : rv.length ≤ 1048576) :
    Calls Try.prog 69 #[.slice R rv.length e, .slice P xs.length c] w fun e w' => e = .returned (.bool (pB (RvAll xs rv))) ∧ Below w.heap.size w w' := by
  have HR := Lib.hid hr
  have HF := Lib.hid hl
  have HW := Lib.hid hv
  clear hr hl hv
  rcases Nat.lt_or_ge 20 rv.length with h20 | h20
  · have HV := Lib.hid (pB_no (fun hh : RvAll xs rv => by have := hh.few; omega))
    go_enter Try.func69, Try.ntmps69
    go_wp2
    go_ret
    exact ⟨by rw [HV.out]; rfl, Below.refl _ _⟩
  go_enter Try.func69, Try.ntmps69
  go_wp2
  go_loopw [12] (fun i wr => ∃ k : Nat, k ≤ rv.length ∧ i = .int .i64 k ∧ Hid (∀ i, i < k → RvOk xs (it rv i)) ∧ Hid (Below w.heap.size w wr)) (fun i _ => rv.length - (intOf i).toNat)
  case atStart => exact ⟨0, Nat.zero_le _, rfl, Lib.hid none_yet, Lib.hid (Below.refl _ _)⟩
  case round =>
    obtain ⟨k, hk, rfl, HI, HB⟩ := hrel
    by_cases hlt : k < rv.length
    · obtain ⟨b, o, rfl, hbl, hc⟩ := HW.out.rv (by omega)
      obtain ⟨c0, c1, c2⟩ := (hc k hlt).below HB.out hbl
      clear hc
      go_wp2_with fail
      clear c0 c1 c2
      have HX := Lib.hid (rvBox_new wr 71 (it rv k))
      have hb3 := below_alloc wr (.cells #[.int .i64 (it rv k).item, .int .i64 (it rv k).name, .int .i64 (it rv k).mark] 71)
      generalize World.alloc wr _ = w3 at HX hb3 ⊢
      have HB3 := Lib.hid (below_next HB.out hb3)
      clear hb3
      obtain ⟨x0, x1, x2⟩ := HX.out
      have HC := Lib.hid (hasNameAt_any P c xs (it rv k).item (it rv k).name w3 (HR.out.next HB3.out) HF.out)
      have HM := Lib.hid (isMark_any (it rv k).mark w3)
      by_cases h1 : NmAt xs (it rv k).item (it rv k).name
      · rw [pB_yes h1] at HC
        by_cases h2 : MkOk (it rv k).mark
        · rw [pB_yes h2] at HM
          have HH := Lib.hid (⟨h1, h2⟩ : RvOk xs (it rv k))
          clear h1 h2
          refine HC.out.mono ?_
          rintro e w4 ⟨rfl, rfl⟩
          go_wp2_with (go_at_call 78; refine HM.out.mono ?_; rintro e w5 ⟨rfl, rfl⟩)
          go_roundw
          case rel => exact ⟨k + 1, by omega, by go_num, Lib.hid (one_more HI.out HH.out), HB3⟩
          case measure => simp [intOf]; omega
        · rw [pB_no h2] at HM
          have HV := Lib.hid (pB_no (fun hh : RvAll xs rv => h2 (hh.each k hlt).mark))
          clear h1 h2
          refine HC.out.mono ?_
          rintro e w4 ⟨rfl, rfl⟩
          go_wp2_with (go_at_call 78; refine HM.out.mono ?_; rintro e w5 ⟨rfl, rfl⟩)
          go_ret
          exact ⟨by rw [HV.out]; rfl, HB3.out⟩
      · rw [pB_no h1] at HC
        have HV := Lib.hid (pB_no (fun hh : RvAll xs rv => h1 (hh.each k hlt).nm))
        clear h1
        refine HC.out.mono ?_
        rintro e w4 ⟨rfl, rfl⟩
        go_wp2
        go_ret
        exact ⟨by rw [HV.out]; rfl, HB3.out⟩
    · obtain rfl : k = rv.length := by omega
      have HV := Lib.hid (pB_yes (⟨h20, HI.out⟩ : RvAll xs rv))
      go_wp2
      go_ret
      exact ⟨by rw [HV.out]; rfl, HB.out⟩

set_option maxHeartbeats 2000000 in
theorem iIsSheet_any (x : Sh) (w : World) (hr : ShIn w w.heap.size x) (hl : ShFits x) :
    Calls Try.prog 44 #[x.val] w fun e w' => e = .returned (.bool (pB (ShOk x))) ∧ Below w.heap.size w w' := by
  have hb0 := below_alloc w (.cells #[.slice x.P x.l.length x.c, .slice x.V.A x.V.xs.length x.V.c, .slice x.R x.rv.length x.e] 33)
  have HR := Lib.hid (hr.next hb0)
  have HX := Lib.hid (imMem_new w _ 33 rfl (.slice x.P x.l.length x.c) (.slice x.V.A x.V.xs.length x.V.c) (.slice x.R x.rv.length x.e))
  have hsW : w.heap.size < (w.alloc (.cells #[.slice x.P x.l.length x.c, .slice x.V.A x.V.xs.length x.V.c, .slice x.R x.rv.length x.e] 33)).heap.size := by simp
  have HB0 := Lib.hid hb0
  have HF := Lib.hid hl
  clear hr hl hb0
  unfold Sh.val
  go_enter Try.func44, Try.ntmps44
  go_wp2_with fail
  generalize World.alloc w _ = W at HR HX HB0 hsW ⊢
  have HC := Lib.hid (iAreItems_any x.P x.c x.l W HR.out.its HF.out.its)
  by_cases h1 : ListOk x.l
  rotate_left
  · rw [pB_no h1] at HC
    have HV := Lib.hid (pB_no (fun hh : ShOk x => h1 hh.ls))
    clear h1
    refine HC.out.mono ?_
    rintro e w1 ⟨rfl, hb1⟩
    have HB1 := Lib.hid (below_next HB0.out hb1)
    clear hb1
    go_wp2
    go_ret
    exact ⟨by rw [HV.out]; rfl, HB1.out⟩
  rw [pB_yes h1] at HC
  have H1 := Lib.hid h1
  clear h1
  refine HC.out.mono ?_
  rintro e w1 ⟨rfl, hb1⟩
  have HB1 := Lib.hid (below_next HB0.out hb1)
  have HX1 := Lib.hid (HX.out.below hb1 hsW)
  have HR1 := Lib.hid (HR.out.next hb1)
  have hs1 := Nat.lt_of_lt_of_le hsW hb1.size
  clear hb1 HC
  obtain ⟨x0, x1, x2, xf⟩ := HX1.out
  have HC := Lib.hid (areUnmarked_any x.P x.c x.l w1 HR1.out.its H1.out)
  go_wp2_with fail
  clear x0 x1 x2
  by_cases h2 : NoMks x.l
  rotate_left
  · rw [pB_no h2] at HC
    have HV := Lib.hid (pB_no (fun hh : ShOk x => h2 hh.un))
    clear h2
    refine HC.out.mono ?_
    rintro e w2 ⟨rfl, hb2⟩
    have HB2 := Lib.hid (below_next HB1.out hb2)
    clear hb2
    go_wp2
    go_ret
    exact ⟨by rw [HV.out]; rfl, HB2.out⟩
  rw [pB_yes h2] at HC
  have H2 := Lib.hid h2
  clear h2
  refine HC.out.mono ?_
  rintro e w2 ⟨rfl, hb2⟩
  have HB2 := Lib.hid (below_next HB1.out hb2)
  have HX2 := Lib.hid (HX1.out.below hb2 hs1)
  have HR2 := Lib.hid (HR1.out.next hb2)
  have hs2 := Nat.lt_of_lt_of_le hs1 hb2.size
  clear hb2 HC
  obtain ⟨x0, x1, x2, xf⟩ := HX2.out
  have HC := Lib.hid (areVotes_any x.P x.c x.l x.V w2 HR2.out.its HR2.out.vo HF.out.its HF.out.vo)
  go_wp2_with fail
  clear x0 x1 x2
  by_cases h3 : VtAll x.l x.V
  rotate_left
  · rw [pB_no h3] at HC
    have HV := Lib.hid (pB_no (fun hh : ShOk x => h3 hh.vo))
    clear h3
    refine HC.out.mono ?_
    rintro e w3 ⟨rfl, hb3⟩
    have HB3 := Lib.hid (below_next HB2.out hb3)
    clear hb3
    go_wp2
    go_ret
    exact ⟨by rw [HV.out]; rfl, HB3.out⟩
  rw [pB_yes h3] at HC
  have H3 := Lib.hid h3
  clear h3
  refine HC.out.mono ?_
  rintro e w3 ⟨rfl, hb3⟩
  have HB3 := Lib.hid (below_next HB2.out hb3)
  have HX3 := Lib.hid (HX2.out.below hb3 hs2)
  have HR3 := Lib.hid (HR2.out.next hb3)
  clear hb3 HC
  obtain ⟨x0, x1, x2, xf⟩ := HX3.out
  have HC := Lib.hid (areReviews_any x.R x.e x.rv x.P x.c x.l w3 HR3.out.re HR3.out.its HF.out.its HF.out.re)
  go_wp2_with fail
  clear x0 x1 x2
  refine HC.out.mono ?_
  rintro e w4 ⟨rfl, hb4⟩
  have HB4 := Lib.hid (below_next HB3.out hb4)
  have HV := Lib.hid (show pB (RvAll x.l x.rv) = pB (ShOk x) from pB_iff ⟨fun h => ⟨H1.out, H2.out, H3.out, h⟩, fun h => h.re⟩)
  clear hb4 HC
  go_wp2
  go_ret
  exact ⟨by rw [HV.out]; rfl, HB4.out⟩
end Go.Proofs.Ytbhfhjhegcfdkaa
