/- IsSheet of the program: votes, reviews, all of it. -/
import Derived.Test.YtbhfhjhegcfdkaaShF
namespace Go.Proofs.Ytbhfhjhegcfdkaa
open Go.ChangeShapes Go.WideShapes Go.ChangeAt Go.RowKit Go.Lib Go.Proofs
set_option linter.unusedVariables false

theorem containsFunc_any (A : Option Addr) (c n : Nat) (xs : List Int) (hn : xs.length = n) (w : World) (hr : Lst w w.heap.size A xs) (hl : n ≤ 1048576) :
    Calls Try.prog 81 #[.slice A n c, .func (.func 82) #[] #[]] w fun e w' => e = .returned (.bool (!pB (∀ j, j < xs.length → VtOk (it xs j)))) ∧ w' = w := by
  subst hn
  have HC := Lib.hid (indexFunc_any A c xs w hr hl)
  clear hr
  go_enter Try.func81, Try.ntmps81
  go_wp2_with (go_at_call 86; refine HC.out.mono ?_; rintro e w2 ⟨⟨i, rfl, hi⟩, rfl⟩; have HI := Lib.hid hi; clear hi)
  go_ret
  rcases HI.out with ⟨h1, h2⟩ | ⟨h1, h2⟩
  · rw [pB_no h2]
    exact ⟨by simp; omega, rfl⟩
  · rw [pB_yes h2, h1]
    exact ⟨rfl, rfl⟩
theorem areVotesForItem_any (x : Im) (r : Rw Int) (w : World) (hr : Nst.In w w.heap.size r) (hl : NFit r) (hn : x.ns.length ≤ 1048576) :
    Calls Try.prog 76 #[.slice r.A r.xs.length r.c, x.val] w fun e w' => e = .returned (.bool (pB (VtIt x r))) ∧ Below w.heap.size w w' := by
  have hb0 := below_alloc w (.cells #[.slice x.A x.ns.length x.c, .slice x.L x.ms.length x.d, .bool x.late] 56)
  have HX := Lib.hid (imBox_new w 56 x)
  have HR := Lib.hid (show Lst _ _ r.A r.xs from Nst.next hr hb0)
  have HB := Lib.hid hb0
  have hrl := nfit_len hl
  clear hr hl hb0
  unfold Im.val
  by_cases h1 : r.xs.length = x.ns.length
  rotate_left
  · have HV := Lib.hid (pB_no (fun hh : VtIt x r => h1 hh.len))
    have hd : ((r.xs.length : Int) == (x.ns.length : Int)) = false := by simp; omega
    clear h1
    go_enter Try.func76, Try.ntmps76
    go_wp2_with fail
    generalize World.alloc w _ = W at HR HX HB ⊢
    obtain ⟨lt, x0, x1, x2⟩ := HX.out
    go_wp2
    go_ret
    exact ⟨by rw [HV.out]; rfl, HB.out⟩
  have H1 := Lib.hid h1
  rw [h1]
  rw [h1] at hrl
  clear h1
  go_enter Try.func76, Try.ntmps76
  go_wp2_with fail
  generalize World.alloc w _ = W at HR HX HB ⊢
  obtain ⟨lt, x0, x1, x2⟩ := HX.out
  have HC := Lib.hid (containsFunc_any r.A r.c x.ns.length r.xs H1.out W HR.out (by omega))
  by_cases h2 : ∀ j, j < r.xs.length → VtOk (it r.xs j)
  · rw [pB_yes h2] at HC
    have HV := Lib.hid (pB_yes (⟨H1.out, h2⟩ : VtIt x r))
    clear h2
    go_wp2_with (go_at_call 81; refine HC.out.mono ?_; rintro e w2 ⟨rfl, rfl⟩)
    go_ret
    exact ⟨by rw [HV.out]; rfl, HB.out⟩
  · rw [pB_no h2] at HC
    have HV := Lib.hid (pB_no (fun hh : VtIt x r => h2 hh.each))
    clear h2
    go_wp2_with (go_at_call 81; refine HC.out.mono ?_; rintro e w2 ⟨rfl, rfl⟩)
    go_ret
    exact ⟨by rw [HV.out]; rfl, HB.out⟩
set_option maxHeartbeats 1000000 in
theorem eqFuncV_any (P : Option Addr) (c : Nat) (xs : List Im) (q : Rw (Rw Int)) (w : World) (hr : Ims w w.heap.size P xs) (hq : Nst.In w w.heap.size q) (hl : ImsFits xs) (hf : NFit q) :
    Calls Try.prog 75 #[.slice q.A q.xs.length q.c, .slice P xs.length c, .func (.func 76) #[] #[]] w fun e w' => e = .returned (.bool (pB (VtOne xs q))) ∧ Below w.heap.size w w' := by
  have HR := Lib.hid hr
  have HF := Lib.hid hl
  have hl' := hl.len
  have hql := nfit_len hf
  have HFQ := Lib.hid (nfit_each hf)
  have HQ := Lib.hid (show NIn w w.heap.size q.A q.xs from hq)
  obtain ⟨A, d, rs⟩ := q
  replace hql : rs.length ≤ 1048576 := hql
  replace HQ : Hid (NIn w w.heap.size A rs) := HQ
  replace HFQ : Hid (∀ i, i < rs.length → NFit (it rs i)) := HFQ
  show Calls Try.prog 75 #[.slice A rs.length d, .slice P xs.length c, .func (.func 76) #[] #[]] w _
  have eG : ∀ args w, (callFunc 76 args).run Try.prog w = .ok (.enter 76 args) w := enters_of Try.func76 (by kernel_rfl) rfl
  clear hr hl hq hf
  by_cases hlen : rs.length = xs.length
  rotate_left
  · have HV := Lib.hid (pB_no (fun hh : VtOne xs ⟨A, d, rs⟩ => hlen hh.len))
    have hd : ((rs.length : Int) != (xs.length : Int)) = true := by simp; omega
    clear hlen
    go_enter Try.func75, Try.ntmps75
    go_wp2
    go_ret
    exact ⟨by rw [HV.out]; rfl, Below.refl _ _⟩
  have HLEN := Lib.hid hlen
  rw [hlen]
  clear hlen hql
  go_enter Try.func75, Try.ntmps75
  go_wp2
  go_loopw [17] (fun i wr => ∃ k : Nat, k ≤ xs.length ∧ i = .int .i64 k ∧ Hid (∀ i, i < k → VtIt (it xs i) (it rs i)) ∧ Hid (Below w.heap.size w wr)) (fun i _ => xs.length - (intOf i).toNat)
  case atStart => exact ⟨0, Nat.zero_le _, rfl, Lib.hid none_yet, Lib.hid (Below.refl _ _)⟩
  case round =>
    obtain ⟨k, hk, rfl, HI, HB⟩ := hrel
    by_cases hlt : k < xs.length
    · obtain ⟨b, o, rfl, hbl, hc⟩ := HR.out.out.im (by omega)
      obtain ⟨c0, c1, c2⟩ := (hc k hlt).below HB.out hbl
      obtain ⟨b', o', rfl, hbl', hc'⟩ := HQ.out.out.rw (by have := HLEN.out; omega)
      have d0 := (HB.out.cell (p := ⟨b', o' + k, none⟩) hbl').trans (hc' k (by have := HLEN.out; omega))
      have HE := Lib.hid (Nst.next (HQ.out.each k (by have := HLEN.out; omega)) HB.out)
      have HC := Lib.hid (fun w' (hb : Below wr.heap.size wr w') => areVotesForItem_any (it xs k) (it rs k) w' (Nst.next HE.out hb) (HFQ.out k (by have := HLEN.out; omega)) (HF.out.each k hlt).ns.1)
      have q1 : (0 : Int) ≤ (k : Int) := by omega
      have q2 : (k : Int) < (xs.length : Int) := by omega
      clear hc hc'
      by_cases h : VtIt (it xs k) (it rs k)
      · rw [pB_yes h] at HC
        have HH := Lib.hid h
        clear h
        go_wp2_with (go_at_fn 76; refine (HC.out _ (below_alloc _ (.cells #[.slice (it xs k).A (it xs k).ns.length (it xs k).c, .slice (it xs k).L (it xs k).ms.length (it xs k).d, .bool (it xs k).late] 56))).mono ?_; rintro e w2 ⟨rfl, hb2⟩; have HB2 := Lib.hid (below_next (below_next HB.out (below_alloc _ _)) hb2); clear hb2)
        go_roundw
        case rel => exact ⟨k + 1, by omega, by go_num, Lib.hid (one_more HI.out HH.out), HB2⟩
        case measure => simp [intOf]; omega
      · rw [pB_no h] at HC
        have HV := Lib.hid (pB_no (fun hh : VtOne xs ⟨some ⟨b', o', none⟩, d, rs⟩ => h (hh.each k hlt)))
        clear h
        go_wp2_with (go_at_fn 76; refine (HC.out _ (below_alloc _ (.cells #[.slice (it xs k).A (it xs k).ns.length (it xs k).c, .slice (it xs k).L (it xs k).ms.length (it xs k).d, .bool (it xs k).late] 56))).mono ?_; rintro e w2 ⟨rfl, hb2⟩; have HB2 := Lib.hid (below_next (below_next HB.out (below_alloc _ _)) hb2); clear hb2)
        go_ret
        exact ⟨by rw [HV.out]; rfl, HB2.out⟩
    · obtain rfl : k = xs.length := by omega
      have HV := Lib.hid (pB_yes (⟨HLEN.out, HI.out⟩ : VtOne xs ⟨A, d, rs⟩))
      go_wp2
      go_ret
      exact ⟨by rw [HV.out]; rfl, HB.out⟩
theorem areVotes_any (P : Option Addr) (c : Nat) (xs : List Im) (V : Rw (Rw (Rw Int))) (w : World) (hr : Ims w w.heap.size P xs) (hq : Nst.In w w.heap.size V) (hl : ImsFits xs) (hf : NFit V) :
    Calls Try.prog 68 #[.slice V.A V.xs.length V.c, .slice P xs.length c] w fun e w' => e = .returned (.bool (pB (VtAll xs V))) ∧ Below w.heap.size w w' := by
  have HR := Lib.hid hr
  have HF := Lib.hid hl
  have hql := nfit_len hf
  have HFQ := Lib.hid (nfit_each hf)
  have HQ := Lib.hid (show NIn w w.heap.size V.A V.xs from hq)
  obtain ⟨A, d, rs⟩ := V
  replace hql : rs.length ≤ 1048576 := hql
  replace HQ : Hid (NIn w w.heap.size A rs) := HQ
  replace HFQ : Hid (∀ i, i < rs.length → NFit (it rs i)) := HFQ
  show Calls Try.prog 68 #[.slice A rs.length d, .slice P xs.length c] w _
  clear hr hl hq hf
  by_cases hlen : rs.length = 3
  rotate_left
  · have HV := Lib.hid (pB_no (fun hh : VtAll xs ⟨A, d, rs⟩ => hlen hh.len))
    have hd : ((rs.length : Int) != 3) = true := by simp; omega
    clear hlen
    go_enter Try.func68, Try.ntmps68
    go_wp2
    go_ret
    exact ⟨by rw [HV.out]; rfl, Below.refl _ _⟩
  have HLEN := Lib.hid hlen
  rw [hlen]
  obtain ⟨b', o', rfl, hbl', hc'⟩ := HQ.out.out.rw (by omega)
  have HCV := Lib.hid hc'
  clear hlen hql hc'
  go_enter Try.func68, Try.ntmps68
  go_wp2
  go_loopw [12] (fun i wr => ∃ k : Nat, k ≤ 3 ∧ i = .int .i64 k ∧ Hid (∀ i, i < k → VtOne xs (it rs i)) ∧ Hid (Below w.heap.size w wr)) (fun i _ => 3 - (intOf i).toNat)
  case atStart => exact ⟨0, Nat.zero_le _, rfl, Lib.hid none_yet, Lib.hid (Below.refl _ _)⟩
  case round =>
    obtain ⟨k, hk, rfl, HI, HB⟩ := hrel
    by_cases hlt : k < 3
    · have d0 := (HB.out.cell (p := ⟨b', o' + k, none⟩) hbl').trans (HCV.out k (by have := HLEN.out; omega))
      have HE := Lib.hid (Nst.next (HQ.out.each k (by have := HLEN.out; omega)) HB.out)
      have HC := Lib.hid (eqFuncV_any P c xs (it rs k) wr (HR.out.next HB.out) HE.out HF.out (HFQ.out k (by have := HLEN.out; omega)))
      by_cases h : VtOne xs (it rs k)
      · rw [pB_yes h] at HC
        have HH := Lib.hid h
        clear h
        go_wp2_with (go_at_call 75; refine HC.out.mono ?_; rintro e w2 ⟨rfl, hb2⟩; have HB2 := Lib.hid (below_next HB.out hb2); clear hb2)
        go_roundw
        case rel => exact ⟨k + 1, by omega, by go_num, Lib.hid (one_more HI.out HH.out), HB2⟩
        case measure => simp [intOf]; omega
      · rw [pB_no h] at HC
        have HV := Lib.hid (pB_no (fun hh : VtAll xs ⟨some ⟨b', o', none⟩, d, rs⟩ => h (hh.each k (by show k < rs.length; have := HLEN.out; omega))))
        clear h
        go_wp2_with (go_at_call 75; refine HC.out.mono ?_; rintro e w2 ⟨rfl, hb2⟩; have HB2 := Lib.hid (below_next HB.out hb2); clear hb2)
        go_ret
        exact ⟨by rw [HV.out]; rfl, HB2.out⟩
    · obtain rfl : k = 3 := by omega
      have HV := Lib.hid (pB_yes (⟨HLEN.out, fun i hi => HI.out i (by have h : i < rs.length := hi; have := HLEN.out; omega)⟩ : VtAll xs ⟨some ⟨b', o', none⟩, d, rs⟩))
      go_wp2
      go_ret
      exact ⟨by rw [HV.out]; rfl, HB.out⟩
end Go.Proofs.Ytbhfhjhegcfdkaa
