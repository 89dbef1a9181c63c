/- CountSingles in the program. -/
import Derived.Test.YtocjkhfghldnnaaDoorPnE
namespace Go.Proofs.YtocjkhfghldnnaaDoor
open Go.ChangeShapes Go.WideShapes Go.ChangeAt Go.RowKit Go.PlainAid
set_option linter.unusedVariables false

structure NmbOk (x : Cd) (n : Int) : Prop where
  cd : CdOk x
  lo : 1 ≤ n
  hi : n ≤ 14
noncomputable def csV (x : Cd) (n : Int) : Value := pnV (NmbOk x n) (cw x 5 n.toNat)
theorem csV_form (x : Cd) (n : Int) : ∃ (a : Int) (b : Bool), csV x n = .tuple #[.int .i64 a, .bool b] := pnV_form _ _
theorem fsum_all {x : Cd} (h : CdOk x) : fsum x 5 ≤ 24 := by
  have : szF x ((0 : Nat) : Int) x.els.length + szF x ((1 : Nat) : Int) x.els.length + szF x ((2 : Nat) : Int) x.els.length + szF x ((3 : Nat) : Int) x.els.length + szF x ((4 : Nat) : Int) x.els.length = x.els.length := szF_sum x (cdOk_fams h).fam x.els.length (Nat.le_refl _)
  have h2 := h.els.hi
  show 0 + szF x ((0 : Nat) : Int) x.els.length + szF x ((1 : Nat) : Int) x.els.length + szF x ((2 : Nat) : Int) x.els.length + szF x ((3 : Nat) : Int) x.els.length + szF x ((4 : Nat) : Int) x.els.length ≤ 24
  omega
theorem fsum_mono (x : Cd) : ∀ f d, fsum x f ≤ fsum x (f + d)
  | f, 0 => Nat.le_refl _
  | f, d + 1 => by
    have := fsum_mono x f d
    rw [← Nat.add_assoc, fsum]
    omega
theorem fsum_le {x : Cd} (h : CdOk x) {f : Nat} (hf : f ≤ 5) : fsum x f ≤ 24 := by
  have h1 := fsum_mono x f (5 - f)
  rw [show f + (5 - f) = 5 by omega] at h1
  have := fsum_all h
  omega
theorem cwL_mod {x : Cd} (h : CdOk x) {f : Nat} (hf : f ≤ 5) : Mod24 (cwL x f) := fun i => by
  rw [cwL_it]
  have h1 := cw_le x f i
  exact ⟨h1.1, Int.le_trans h1.2 (pow24 (fsum_le h hf))⟩
theorem flm_le {x : Cd} (h : CdOk x) {f : Nat} (hf : f < 5) : flm x f ≤ 9 ∧ it x.lims f = (flm x f : Int) := by
  have := h.lims.lim f (by rw [h.lims.len]; exact hf)
  unfold flm
  omega
theorem fcap_le {x : Cd} (h : CdOk x) : ∀ f, f ≤ 5 → 1 ≤ fcap x f ∧ fcap x f ≤ 1 + 9 * f
  | 0, _ => by simp [fcap]
  | f + 1, hf => by
    have h1 := fcap_le h f (by omega)
    have h2 := flm_le h (show f < 5 by omega)
    rw [fcap]
    omega
theorem fsz_le {x : Cd} (h : CdOk x) (f : Nat) : fsz x f ≤ 24 := by
  have h1 := szF_le x (f : Int) x.els.length
  have h2 := h.els.hi
  unfold fsz
  omega

theorem isNumberOfItems_yes (n : Int) (w : World) (h1 : 1 ≤ n) (h2 : n ≤ 14) : Calls Tryd.prog 38 #[.int .i64 n] w fun e w' => e = .returned (.bool true) ∧ w = w' := by
  go_enter Tryd.func38, Tryd.ntmps38
  go_wp2
  go_ret
  exact ⟨rfl, rfl⟩
theorem isNumberOfItems_no (n : Int) (w : World) (h : ¬ (1 ≤ n ∧ n ≤ 14)) : Calls Tryd.prog 38 #[.int .i64 n] w fun e w' => e = .returned (.bool false) ∧ w = w' := by
  go_enter Tryd.func38, Tryd.ntmps38
  by_cases h1 : 1 ≤ n
  · have h2 : 14 < n := by omega
    go_wp2
    go_ret
    refine ⟨?_, rfl⟩
    rw [show decide (n ≤ 14) = false from decide_eq_false (by omega)]
    rfl
  · have h2 : n < 1 := by omega
    go_wp2
    go_ret
    exact ⟨rfl, rfl⟩

set_option maxHeartbeats 2000000 in
theorem iCountSingles_any (A L : Option Addr) (c d : Nat) (x : Cd) (n : Int) (w : World) (hr : CdAt w A L x) (hl : CdFits x) (ht : Tab w) :
    Calls Tryd.prog 19 #[x.val A c L d, .int .i64 n] w fun e w' => e = .returned (csV x n) ∧ Below w.heap.size w w' := by
  obtain ⟨W, hW, hB⟩ := boxed 31 w A c L d x
  have HB := Lib.hid hB
  have HX := Lib.hid hB.at_
  have HR := Lib.hid (hr.below hB.below)
  have HT := Lib.hid (ht.next hB.below)
  have HL := Lib.hid hl
  clear hr hl hB ht
  unfold boxCd at hW
  unfold Cd.val
  go_enter Tryd.func19, Tryd.ntmps19
  go_wp2_with fail
  rw [← hW]
  clear hW
  refine (iIsCode_any A L c d x W HR.out HL.out HT.out).mono ?_
  rintro e w1 ⟨he, hb1⟩
  have HB1 := Lib.hid (Below_next HB.out.below hb1)
  have HX1 := Lib.hid (HX.out.next hb1)
  have HR1 := Lib.hid (HR.out.below hb1)
  have HT1 := Lib.hid (HT.out.next hb1)
  clear hb1
  by_cases hok : CdOk x
  rotate_left
  · rw [pB_no hok] at he
    subst he
    have HV := Lib.hid (show csV x n = _ from pnV_no (fun h : NmbOk x n => hok h.cd))
    clear hok
    go_wp2
    go_returns
    exact ⟨by rw [HV.out] <;> rfl, HB1.out⟩
  rw [pB_yes hok] at he
  subst he
  have HK := Lib.hid hok
  by_cases hn : 1 ≤ n ∧ n ≤ 14
  rotate_left
  · have HV := Lib.hid (show csV x n = _ from pnV_no (fun h : NmbOk x n => hn ⟨h.lo, h.hi⟩))
    have HN := Lib.hid hn
    clear hok hn
    go_wp2_with (first | (go_at_call 38; refine (isNumberOfItems_no _ _ HN.out).mono ?_; rintro e w3 ⟨rfl, rfl⟩))
    go_returns
    exact ⟨by rw [HV.out] <;> rfl, HB1.out⟩
  obtain ⟨hn1, hn2⟩ := hn
  have HV := Lib.hid (show csV x n = _ from pnV_yes ⟨hok, hn1, hn2⟩)
  have hll1 : 5 ≤ x.lims.length := by rw [hok.lims.len]; omega
  have hll2 : x.lims.length ≤ 5 := by rw [hok.lims.len]; omega
  have HB2 := Lib.hid (below_alloc w1 (.cells #[.int .i64 1] 3))
  have HX2 := Lib.hid (HX1.out.next HB2.out)
  have HL0 := Lib.hid (show Lst (w1.alloc (.cells #[.int .i64 1] 3)) (w1.alloc (.cells #[.int .i64 1] 3)).heap.size (some ⟨w1.heap.size, 0, none⟩) (cwL x 0) from lst_one w1 3)
  obtain ⟨x0, x1, x2, x3, x4, x5⟩ := HX1.out.box
  obtain ⟨y0, y1, y2, y3, y4, y5⟩ := HX2.out.box
  clear hok
  go_wp2_with (first | (go_at_call 38; refine (isNumberOfItems_yes _ _ hn1 hn2).mono ?_; rintro e w3 ⟨rfl, rfl⟩))
  clear x0 x1 x2 x3 x4 x5 y0 y1 y2 y3 y4 y5
  revert HL0 HB2 HX2
  generalize World.alloc w1 _ = w2
  intro HB2 HX2 HL0
  go_loopw [6, 21] (fun s v wr => ∃ (k g d : Nat), k ≤ 5 ∧ v = .int .i64 k ∧ s = .slice (some ⟨g, 0, none⟩) (fcap x k) d ∧ Hid (Lst wr wr.heap.size (some ⟨g, 0, none⟩) (cwL x k)) ∧ Hid (Below w1.heap.size w1 wr)) (fun _ v _ => 5 - (intOf v).toNat)
  case atStart => exact ⟨0, _, 1, Nat.zero_le _, rfl, rfl, HL0, HB2⟩
  case round =>
    obtain ⟨k, g, d1, hk, rfl, rfl, HLK, HBR⟩ := hrel
    have hfc := fcap_le HK.out k hk
    by_cases hlt : k < 5
    · obtain ⟨b, o, rfl, hbl, hc⟩ := HR1.out.lims.int (by omega)
      have c0 := (HBR.out.cell (p := ⟨b, o + k, none⟩) hbl).trans (hc k (by omega))
      obtain ⟨x0, x1, x2, x3, x4, x5⟩ := (HX1.out.next HBR.out).box
      rw [(flm_le HK.out hlt).2] at c0
      have hlm := (flm_le HK.out hlt).1
      have hsz := fsz_le HK.out k
      clear hc
      go_wp2_with (first
        | (go_at_call 29; refine (sizeOfFamily_any A _ c d x k _ (HR1.out.below HBR.out) HK.out hlt (HT1.out.next HBR.out)).mono ?_; rintro e w3 ⟨rfl, hb⟩; have HB3 := Lib.hid (Below_next HBR.out hb); have HLK3 := Lib.hid (HLK.out.next hb); clear hb)
        | (go_at_call 40; refine (choiceCounts_any (fsz x k) (flm x k) _ hsz hlm).mono ?_; rintro e w4 ⟨⟨g4, d4, rfl, hl4⟩, hb⟩; have HLL4 := Lib.hid hl4; have HB4 := Lib.hid (Below_next HB3.out hb); have HLK4 := Lib.hid (HLK3.out.next hb); clear hb hl4)
        | (go_at_call 39;
           have hj := joinedCounts_any (some ⟨g, 0, none⟩) (some ⟨g4, 0, none⟩) d1 d4 (cwL x k) (binL (fsz x k) (min (flm x k) (fsz x k))) w4 HLK4.out HLL4.out (by rw [cwL_len]; omega) (by rw [binL_len]; omega) (by rw [cwL_len, binL_len]; omega) (cwL_mod HK.out hk) (binL_mod hsz _ (Nat.min_le_right _ _));
           rw [cwL_next, cwL_len, cwL_len] at hj; refine hj.mono ?_; clear hj; rintro e w5 ⟨⟨g5, d5, rfl, hd3, hd4, ho, hg1, hg2⟩, hb⟩; have HO5 := Lib.hid (ho.lst hg2); have HB5 := Lib.hid (Below_next HB4.out hb); clear ho hb hg1 hg2))
      go_roundw
      case rel => exact ⟨k + 1, g5, d5, by omega, by go_num, rfl, HO5, HB5⟩
      case measure => simp [intOf]; omega
    · obtain rfl : k = 5 := by omega
      obtain ⟨n', rfl⟩ : ∃ n' : Nat, n = (n' : Int) := ⟨n.toNat, by omega⟩
      have HN := Lib.hid (show (n' : Int).toNat = n' from rfl)
      rcases Nat.lt_or_ge n' (fcap x 5) with hcn | hcn
      · obtain ⟨b, o, hA, hbl, hc⟩ := HLK.out.int (by rw [cwL_len]; omega)
        obtain ⟨rfl, rfl⟩ : g = b ∧ 0 = o := by injection hA with e; injection e with e1 e2; exact ⟨e1, e2⟩
        have c0 := hc n' (by rw [cwL_len]; omega)
        rw [cwL_it, Nat.zero_add] at c0
        clear hc hA
        go_wp2
        go_returns
        exact ⟨by rw [HV.out] <;> rfl, Below_next HB1.out HBR.out⟩
      · have HZ := Lib.hid (cw_far x 5 n' hcn)
        go_wp2
        go_returns
        exact ⟨by rw [HV.out, HN.out, HZ.out] <;> rfl, Below_next HB1.out HBR.out⟩
end Go.Proofs.YtocjkhfghldnnaaDoor
