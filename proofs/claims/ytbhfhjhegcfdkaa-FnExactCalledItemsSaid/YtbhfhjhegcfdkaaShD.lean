/- IsSheet of the model. -/
import Derived.Test.YtbhfhjhegcfdkaaShC
import Derived.Deep.RegionHeld3
namespace Go.Proofs.Ytbhfhjhegcfdkaa
open Go.ChangeShapes Go.WideShapes Go.ChangeAt Go.RowKit
set_option linter.unusedVariables false

theorem l1In_any (n lo hi : Int) (w : World) :
    Calls Try.prog 62 #[.int .i64 n, .int .i64 lo, .int .i64 hi] w fun e w' => e = .returned (.bool (pB (lo ≤ n ∧ n ≤ hi))) ∧ w' = w := by
  by_cases h : lo ≤ n ∧ n ≤ hi
  · rw [pB_yes h]
    exact (l1In_yes n lo hi w h.1 h.2).mono fun _ _ k => ⟨k.1, k.2.symm⟩
  · rw [pB_no h]
    exact (l1In_no n lo hi w (by omega)).mono fun _ _ k => ⟨k.1, k.2.symm⟩
theorem l1AllV_n (A : Option Addr) (c n : Nat) (xs : List Int) (hn : xs.length = n) (w : World) (hr : Lst w w.heap.size A xs) (hl : n ≤ 1048576) :
    Calls Try.prog 61 #[.slice A n c, .int .i64 (-1), .int .i64 3] w fun e w' => e = .returned (.bool (pB (∀ j, j < xs.length → VtOk (it xs j)))) ∧ w' = w := by
  subst hn
  exact l1All_votes A c xs w hr hl
set_option maxHeartbeats 1000000 in
theorem caVotes_any (P : Option Addr) (c : Nat) (xs : List Im) (q : Rw (Rw Int)) (w : World) (hr : Ims w w.heap.size P xs) (hq : Nst.In w w.heap.size q) (hl : ImsFits xs) (hf : NFit q) :
    Calls Try.prog 37 #[.slice P xs.length c, .slice q.A q.xs.length q.c] w fun e w' => e = .returned (.bool (pB (VtOne xs q))) ∧ Below w.heap.size w w' := by
  have HR := Lib.hid hr
  have HF := Lib.hid hl
  have hl' := hl.len
  have hql := nfit_len hf
  have HFQ := Lib.hid (nfit_each hf)
  have HQ := Lib.hid (show NIn w w.heap.size q.A q.xs from hq)
  obtain ⟨A, d, rs⟩ := q
  replace hql : rs.length ≤ 1048576 := hql
  replace HQ : Hid (NIn w w.heap.size A rs) := HQ
  replace HFQ : Hid (∀ i, i < rs.length → NFit (it rs i)) := HFQ
  show Calls Try.prog 37 #[.slice P xs.length c, .slice A rs.length d] w _
  clear hr hl hq hf
  by_cases hlen : rs.length = xs.length
  rotate_left
  · have HV := Lib.hid (pB_no (fun hh : VtOne xs ⟨A, d, rs⟩ => hlen hh.len))
    have hd : ((rs.length : Int) != (xs.length : Int)) = true := by simp; omega
    clear hlen
    go_enter Try.func37, Try.ntmps37
    go_wp2
    go_ret
    exact ⟨by rw [HV.out]; rfl, Below.refl _ _⟩
  have HLEN := Lib.hid hlen
  rw [hlen]
  clear hlen hql
  go_enter Try.func37, Try.ntmps37
  go_wp2
  go_loopw [14] (fun i wr => ∃ k : Nat, k ≤ xs.length ∧ i = .int .i64 k ∧ Hid (∀ i, i < k → VtIt (it xs i) (it rs i)) ∧ Below w.heap.size w wr) (fun i _ => xs.length - (intOf i).toNat)
  case atStart => exact ⟨0, Nat.zero_le _, rfl, Lib.hid none_yet, Below.refl _ _⟩
  case round =>
    obtain ⟨k, hk, rfl, HI, hb⟩ := hrel
    by_cases hlt : k < xs.length
    · obtain ⟨b, o, rfl, hbl, hc⟩ := HR.out.out.im (by omega)
      obtain ⟨c0, c1, c2⟩ := (hc k hlt).below hb hbl
      obtain ⟨b', o', rfl, hbl', hc'⟩ := HQ.out.out.rw (by have := HLEN.out; omega)
      have d0 := (hb.cell (p := ⟨b', o' + k, none⟩) hbl').trans (hc' k (by have := HLEN.out; omega))
      have HE := Lib.hid (Nst.next (HQ.out.each k (by have := HLEN.out; omega)) hb)
      have hfk := nfit_len (HFQ.out k (by have := HLEN.out; omega))
      have hns := (HF.out.each k hlt).ns.1
      have HB := Lib.hid hb
      have q1 : (0 : Int) ≤ (k : Int) := by omega
      have q2 : (k : Int) < (xs.length : Int) := by omega
      clear hc hc' hb
      go_wp2
      have hb6 := below_alloc wr (.cells #[.slice (it xs k).A (it xs k).ns.length (it xs k).c, .slice (it xs k).L (it xs k).ms.length (it xs k).d, .bool (it xs k).late] 56)
      have d6 := (hb6.cell (p := ⟨b', o' + k, none⟩) (by exact Nat.lt_of_lt_of_le hbl' HB.out.size)).trans d0
      have HX6 := imBox_new wr 56 (it xs k)
      have e0 := HX6.c0
      clear c0 c1 c2 d0
      generalize hw6 : World.alloc wr _ = w6 at hb6 d6 HX6 e0 ⊢
      clear hw6 HX6
      have HB6 := Lib.hid (fun q => below_next (below_next HB.out hb6) (below_drewN w6 q))
      have HE6 := Lib.hid (show Lst w6 w6.heap.size (it rs k).A (it rs k).xs from Nst.next HE.out hb6)
      clear hb6
      by_cases h1 : (it rs k).xs.length = (it xs k).ns.length
      rotate_left
      · have HV := Lib.hid (pB_no (fun hh : VtOne xs ⟨some ⟨b', o', none⟩, d, rs⟩ => h1 (hh.each k hlt).len))
        have hd : (((it rs k).xs.length : Int) != ((it xs k).ns.length : Int)) = true := by simp; omega
        clear h1
        go_quiet (fail)
        go_wp2
        go_ret
        exact ⟨by rw [HV.out]; rfl, HB6.out _⟩
      have HH1 := Lib.hid h1
      rw [h1] at d6
      have HC := Lib.hid (fun w' h => l1AllV_n (it rs k).A (it rs k).c (it xs k).ns.length (it rs k).xs h1 w' h (by omega))
      clear h1
      by_cases h2 : ∀ j, j < (it rs k).xs.length → VtOk (it (it rs k).xs j)
      · rw [pB_yes h2] at HC
        have HH2 := Lib.hid h2
        clear h2
        go_quiet (first | (go_at_call 61; exact Calls.quiet_of_same (HC.out _ (HE6.out.drewN _))))
        go_wp2
        go_roundw
        case rel => exact ⟨k + 1, by omega, by go_num, Lib.hid (one_more HI.out ⟨HH1.out, HH2.out⟩), HB6.out _⟩
        case measure => simp [intOf]; omega
      · rw [pB_no h2] at HC
        have HV := Lib.hid (pB_no (fun hh : VtOne xs ⟨some ⟨b', o', none⟩, d, rs⟩ => h2 (hh.each k hlt).each))
        clear h2
        go_quiet (first | (go_at_call 61; exact Calls.quiet_of_same (HC.out _ (HE6.out.drewN _))))
        go_wp2
        go_ret
        exact ⟨by rw [HV.out]; rfl, HB6.out _⟩
    · obtain rfl : k = xs.length := by omega
      have HV := Lib.hid (pB_yes (⟨HLEN.out, HI.out⟩ : VtOne xs ⟨A, d, rs⟩))
      go_wp2
      go_ret
      exact ⟨by rw [HV.out]; rfl, hb⟩
end Go.Proofs.Ytbhfhjhegcfdkaa
