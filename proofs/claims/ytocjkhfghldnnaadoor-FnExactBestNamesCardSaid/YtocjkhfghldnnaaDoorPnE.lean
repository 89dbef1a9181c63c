/- MostSingles and CountSingles in the program. -/
import Derived.Test.YtocjkhfghldnnaaDoorPnD
import Derived.Test.YtocjkhfghldnnaaDoorCdM
namespace Go.Proofs.YtocjkhfghldnnaaDoor
open Go.ChangeShapes Go.WideShapes Go.ChangeAt Go.RowKit Go.PlainAid
set_option linter.unusedVariables false

theorem binL_mod {m : Nat} (h : m ≤ 24) (c : Nat) (hc : c ≤ m) : Mod24 (binL m c) := fun i => by
  by_cases e : i ≤ c
  · rw [binL_it m c i e]
    exact ⟨bin_nn m i, Int.le_trans (bin_le m i) (pow24 h)⟩
  · rw [it_far (by rw [binL_len]; omega)]
    omega
theorem ones_mod : Mod24 [1, 1] := fun i => by
  match i with
  | 0 => decide
  | 1 => decide
  | i + 2 => rw [it_far (by simp)]; omega
theorem lst_ones (w : World) (t : TypeId) : Lst (w.alloc (.cells #[.int .i64 1, .int .i64 1] t)) (w.alloc (.cells #[.int .i64 1, .int .i64 1] t)).heap.size (some ⟨w.heap.size, 0, none⟩) ([1, 1] : List Int) :=
  Lst.of_int fun _ => ⟨w.heap.size, 0, rfl, by simp, fun i hi => by
    match i, hi with
    | 0, _ => simp; rfl
    | 1, _ => simp; rfl⟩
theorem lst_one (w : World) (t : TypeId) : Lst (w.alloc (.cells #[.int .i64 1] t)) (w.alloc (.cells #[.int .i64 1] t)).heap.size (some ⟨w.heap.size, 0, none⟩) ([1] : List Int) :=
  Lst.of_int fun _ => ⟨w.heap.size, 0, rfl, by simp, fun i hi => by
    match i, hi with
    | 0, _ => simp; rfl⟩
theorem OwnAt.lst {w : World} {g : Nat} {xs : List Int} (h : OwnAt w g 0 xs) (hg : g < w.heap.size) : Lst w w.heap.size (some ⟨g, 0, none⟩) xs := fun _ => ⟨g, 0, rfl, hg, h.cell⟩
theorem lst_take {w : World} {B : Nat} {A : Option Addr} {xs : List Int} (h : Lst w B A xs) (k : Nat) : Lst w B A (xs.take k) := Lst.of_int fun hp => by
  obtain ⟨b, o, h1, h2, h3⟩ := h.int (by rw [List.length_take] at hp; omega)
  refine ⟨b, o, h1, h2, fun i hi => ?_⟩
  rw [List.length_take] at hi
  rw [h3 i (by omega)]
  unfold it
  rw [List.getD_eq_getElem?_getD, List.getD_eq_getElem?_getD, List.getElem?_take_of_lt (by omega)]

set_option maxHeartbeats 2000000 in
theorem choiceCounts_any (n m : Nat) (w : World) (hn : n ≤ 24) (hm : m ≤ 9) :
    Calls Tryd.prog 40 #[.int .i64 n, .int .i64 m] w fun e w' => (∃ g d, e = .returned (.slice (some ⟨g, 0, none⟩) (binL n (min m n)).length d) ∧ Lst w' w'.heap.size (some ⟨g, 0, none⟩) (binL n (min m n))) ∧ Below w.heap.size w w' := by
  go_enter Tryd.func40, Tryd.ntmps40
  go_wp2
  have HL0 := Lib.hid (show Lst (w.alloc (.cells #[.int .i64 1] 3)) (w.alloc (.cells #[.int .i64 1] 3)).heap.size (some ⟨w.heap.size, 0, none⟩) (binL 0 0) from lst_one w 3)
  have HB0 := Lib.hid (below_alloc w (.cells #[.int .i64 1] 3))
  revert HL0 HB0
  generalize World.alloc w _ = w1
  intro HL0 HB0
  go_loopw [5, 8] (fun s v wr => ∃ (k g d : Nat), k ≤ n ∧ v = .int .i64 k ∧ s = .slice (some ⟨g, 0, none⟩) (k + 1) d ∧ k + 1 ≤ d ∧ d ≤ 64 ∧ Hid (Lst wr wr.heap.size (some ⟨g, 0, none⟩) (binL k k)) ∧ Hid (Below w.heap.size w wr)) (fun _ v _ => n - (intOf v).toNat)
  case atStart => exact ⟨0, w.heap.size, 1, Nat.zero_le _, rfl, rfl, Nat.le_refl _, by omega, HL0, HB0⟩
  case round =>
    clear HL0 HB0
    obtain ⟨k, g, d, hk, rfl, rfl, hd1, hd2, HL, HB⟩ := hrel
    have HLN := Lib.hid (binL_len k k)
    by_cases hlt : k < n
    · have HB1 := Lib.hid (Below_next HB.out (below_alloc wr (.cells #[.int .i64 1, .int .i64 1] 3)))
      have HL1 := Lib.hid (HL.out.next (below_alloc wr (.cells #[.int .i64 1, .int .i64 1] 3)))
      have HL2 := Lib.hid (lst_ones wr 3)
      have hj := joinedCounts_any (some ⟨g, 0, none⟩) (some ⟨wr.heap.size, 0, none⟩) d 2 (binL k k) [1, 1] (wr.alloc (.cells #[.int .i64 1, .int .i64 1] 3)) HL1.out HL2.out (by rw [binL_len]; omega) (by decide) (by rw [binL_len]; simp; omega) (binL_mod (by omega) k (Nat.le_refl _)) ones_mod
      rw [binL_next, binL_len, binL_len] at hj
      have HJ := Lib.hid hj
      clear hj
      go_wp2_with (first | (go_at_call 39; refine (HJ.out).mono ?_; rintro e w2 ⟨⟨g2, d2, rfl, hd3, hd4, ho, hg1, hg2⟩, hb⟩; have HO2 := Lib.hid (ho.lst hg2); have HB2 := Lib.hid (Below_next HB1.out hb); clear ho hb hg1 hg2))
      go_roundw
      case rel => exact ⟨k + 1, g2, d2, by omega, by go_num, rfl, hd3, hd4, HO2, HB2⟩
      case measure => simp [intOf]; omega
    · obtain rfl : k = n := by omega
      have HT := Lib.hid (lst_take HL.out (min m k + 1))
      rw [binL_take k (min m k) (by omega)] at HT
      rcases Nat.lt_or_ge k m with hmk | hmk
      · have HE := Lib.hid (Nat.min_eq_right (Nat.le_of_lt hmk))
        rw [HE.out] at HT
        go_wp2
        go_ret
        refine ⟨?_, HB.out⟩
        first
          | exact ⟨g, d, by rw [binL_len] <;> rfl, HT.out⟩
          | exact ⟨g, ⟨d, by rw [binL_len] <;> rfl⟩, HT.out⟩
          | (rw [HE.out]; exact ⟨g, d, by rw [binL_len] <;> rfl, HT.out⟩)
      · have HE := Lib.hid (Nat.min_eq_left hmk)
        rw [HE.out] at HT
        go_wp2
        go_ret
        exact ⟨⟨g, d, by rw [HE.out, binL_len] <;> rfl, by rw [HE.out]; exact HT.out⟩, HB.out⟩

theorem famTo_szF (x : Cd) (f : Int) : ∀ k, (famTo x.els f k).length = szF x f k
  | 0 => rfl
  | k + 1 => by
    rw [szF]
    by_cases h : (it x.els k).fam = f
    · rw [famTo_hit h, if_pos h, List.length_append, famTo_szF x f k]
      rfl
    · rw [famTo_miss h, if_neg h, famTo_szF x f k]
theorem cdOk_fams {x : Cd} (h : CdOk x) : FamsOk x := ⟨h.lims.len, fun f hf => (h.lims.lim f (by rw [h.lims.len]; exact hf)).1, fun i hi => (h.els.el i hi).fam⟩

theorem sizeOfFamily_any (A L : Option Addr) (c d : Nat) (x : Cd) (f : Nat) (w : World) (hr : CdAt w A L x) (hok : CdOk x) (hf : f < 5) (ht : Tab w) :
    Calls Tryd.prog 29 #[x.val A c L d, .int .i64 f] w fun e w' => e = .returned (.int .i64 (fsz x f : Nat)) ∧ Below w.heap.size w w' := by
  obtain ⟨W, hW, hB⟩ := boxed 31 w A c L d x
  have HB := Lib.hid hB
  have HR := Lib.hid (hr.below hB.below)
  have HT := Lib.hid (ht.next hB.below)
  have HL := Lib.hid (Cd.fit hok)
  have HV := Lib.hid (show (famR x (f : Int)).length = fsz x f from by rw [famR_yes ⟨hok, by omega, by omega⟩, famTo_szF]; rfl)
  clear hr hok hB ht
  unfold boxCd at hW
  unfold Cd.val
  go_enter Tryd.func29, Tryd.ntmps29
  go_wp2_with fail
  rw [← hW]
  clear hW
  refine (iOfFamily_any A L c d x (f : Int) W HR.out HL.out HT.out).mono ?_
  rintro e w1 ⟨A', c', rfl, ho, hb1⟩
  have HB1 := Lib.hid (Below_next HB.out.below hb1)
  clear ho hb1
  rw [HV.out]
  go_wp2
  go_ret
  exact ⟨rfl, HB1.out⟩
/-- An answer that is a number and true, or 0 and false. -/
noncomputable def pnV (p : Prop) (v : Int) : Value := @ite _ p (Classical.propDecidable _) (.tuple #[.int .i64 v, .bool true]) (.tuple #[.int .i64 0, .bool false])
theorem pnV_yes {p : Prop} {v : Int} (h : p) : pnV p v = .tuple #[.int .i64 v, .bool true] := by unfold pnV; exact @if_pos _ (Classical.propDecidable _) h _ _ _
theorem pnV_no {p : Prop} {v : Int} (h : ¬ p) : pnV p v = .tuple #[.int .i64 0, .bool false] := by unfold pnV; exact @if_neg _ (Classical.propDecidable _) h _ _ _
theorem pnV_form (p : Prop) (v : Int) : ∃ (a : Int) (b : Bool), pnV p v = .tuple #[.int .i64 a, .bool b] := by
  by_cases h : p
  · exact ⟨_, true, pnV_yes h⟩
  · exact ⟨0, false, pnV_no h⟩
noncomputable def msV (x : Cd) : Value := pnV (CdOk x) ((chTo x 14).out.length : Nat)
/-- What the first families can have. -/
def capTo (x : Cd) : Nat → Nat
  | 0 => 0
  | f + 1 => capTo x f + capF x f
theorem capTo_le {x : Cd} (h : CdOk x) : ∀ f, f ≤ 5 → capTo x f ≤ 9 * f
  | 0, _ => Nat.le_refl _
  | f + 1, hf => by
    have h1 := capTo_le h f (by omega)
    have h2 := h.lims.lim f (by rw [h.lims.len]; omega)
    rw [capTo, capF]
    omega
theorem capTo_all {x : Cd} (h : CdOk x) : min (capTo x 5) 14 = (chTo x 14).out.length := by rw [chTo_count x (cdOk_fams h) 14]; simp [capTo, sum5]

set_option maxHeartbeats 1000000 in
theorem iMostSingles_any (A L : Option Addr) (c d : Nat) (x : Cd) (w : World) (hr : CdAt w A L x) (hl : CdFits x) (ht : Tab w) :
    Calls Tryd.prog 10 #[x.val A c L d] w fun e w' => e = .returned (msV x) ∧ Below w.heap.size w w' := by
  obtain ⟨W, hW, hB⟩ := boxed 31 w A c L d x
  have HB := Lib.hid hB
  have HX := Lib.hid hB.at_
  have HR := Lib.hid (hr.below hB.below)
  have HT := Lib.hid (ht.next hB.below)
  have HL := Lib.hid hl
  clear hr hl hB ht
  unfold boxCd at hW
  unfold Cd.val
  go_enter Tryd.func10, Tryd.ntmps10
  go_wp2_with fail
  rw [← hW]
  clear hW
  refine (iIsCode_any A L c d x W HR.out HL.out HT.out).mono ?_
  rintro e w1 ⟨he, hb1⟩
  have HB1 := Lib.hid (Below_next HB.out.below hb1)
  have HX1 := Lib.hid (HX.out.next hb1)
  have HR1 := Lib.hid (HR.out.below hb1)
  have HT1 := Lib.hid (HT.out.next hb1)
  clear hb1
  by_cases hok : CdOk x
  · rw [pB_yes hok] at he
    subst he
    have HK := Lib.hid hok
    have hll1 : 5 ≤ x.lims.length := by rw [hok.lims.len]; omega
    have hll2 : x.lims.length ≤ 5 := by rw [hok.lims.len]; omega
    have HV := Lib.hid (show msV x = _ from pnV_yes hok)
    clear hok
    obtain ⟨x0, x1, x2, x3, x4, x5⟩ := HX1.out.box
    go_wp2
    clear x0 x1 x2 x3 x4 x5
    go_loopw [4, 13] (fun v i wr => ∃ k : Nat, k ≤ 5 ∧ i = .int .i64 k ∧ v = .int .i64 (capTo x k : Nat) ∧ Hid (Below w1.heap.size w1 wr)) (fun _ i _ => 5 - (intOf i).toNat)
    case atStart => exact ⟨0, Nat.zero_le _, rfl, rfl, Lib.hid (Below.refl _ _)⟩
    case round =>
      obtain ⟨k, hk, rfl, rfl, HBR⟩ := hrel
      have hcl := capTo_le HK.out k hk
      by_cases hlt : k < 5
      · obtain ⟨b, o, rfl, hbl, hc⟩ := HR1.out.lims.int (by omega)
        have c0 := (HBR.out.cell (p := ⟨b, o + k, none⟩) hbl).trans (hc k (by omega))
        obtain ⟨x0, x1, x2, x3, x4, x5⟩ := (HX1.out.next HBR.out).box
        have hlm := HK.out.lims.lim k (by omega)
        obtain ⟨l, hl⟩ : ∃ l : Nat, it x.lims k = (l : Int) := ⟨(it x.lims k).toNat, by omega⟩
        rw [hl] at c0
        have hsz := szF_le x (k : Int) x.els.length
        have hel := HK.out.els.hi
        have HS := Lib.hid (show capTo x (k + 1) = capTo x k + min l (fsz x k) by rw [capTo, capF, hl]; rfl)
        have hsz' : fsz x k ≤ 24 := by unfold fsz; omega
        clear hc
        rcases Nat.lt_or_ge (fsz x k) l with hmk | hmk
        case' inl => rw [Nat.min_eq_right (Nat.le_of_lt hmk)] at HS
        case' inr => rw [Nat.min_eq_left hmk] at HS
        all_goals
          go_wp2_with (first | (go_at_call 29; refine (sizeOfFamily_any A _ c d x k _ (HR1.out.below HBR.out) HK.out hlt (HT1.out.next HBR.out)).mono ?_; rintro e w3 ⟨rfl, hb⟩; have HB3 := Lib.hid (Below_next HBR.out hb); clear hb))
          go_roundw
          case rel => exact ⟨k + 1, by omega, by go_num, congrArg (Value.int .i64) (by have h := HS.out; omega), HB3⟩
          case measure => simp [intOf]; omega
      · obtain rfl : k = 5 := by omega
        have HC := Lib.hid (capTo_all HK.out)
        rcases Nat.lt_or_ge 14 (capTo x 5) with hmk | hmk
        case' inl => rw [Nat.min_eq_right (Nat.le_of_lt hmk)] at HC
        case' inr => rw [Nat.min_eq_left hmk] at HC
        all_goals
          go_wp2
          go_returns
          exact ⟨by rw [HV.out, ← HC.out] <;> rfl, Below_next HB1.out HBR.out⟩
  · rw [pB_no hok] at he
    subst he
    have HV := Lib.hid (show msV x = _ from pnV_no hok)
    clear hok
    go_wp2
    go_returns
    exact ⟨by rw [HV.out] <;> rfl, HB1.out⟩
end Go.Proofs.YtocjkhfghldnnaaDoor
