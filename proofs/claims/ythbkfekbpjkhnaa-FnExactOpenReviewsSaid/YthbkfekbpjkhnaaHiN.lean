/- Histories in the model; IsHistory, both sides. -/
import Derived.Test.YthbkfekbpjkhnaaHiM
import Derived.Test.YthbkfekbpjkhnaaHiG
import Derived.Deep.RegionHeld3
namespace Go.Proofs.Ythbkfekbpjkhnaa
open Go.ChangeShapes Go.WideShapes Go.ChangeAt Go.RowKit Go.Lib Go.Proofs Go.PlainAid
set_option linter.unusedVariables false

/-- The tick of the change ahead. -/
def tkP (hs : List Cg) : Nat → Int
  | 0 => 0
  | k + 1 => (it hs k).tick
theorem tkP_ok {hs : List Cg} {k : Nat} : TkOk hs k ↔ (tkP hs k ≤ (it hs k).tick ∧ (it hs k).tick ≤ 100000 ∧ 0 ≤ (it hs k).tick) := by
  cases k with
  | zero => exact ⟨fun h => ⟨h.t0, h.t1, h.t0⟩, fun h => ⟨h.2.2, h.2.1, fun e => absurd e (by omega)⟩⟩
  | succ k => exact ⟨fun h => ⟨h.up (by omega), h.t1, h.t0⟩, fun h => ⟨h.2.2, h.2.1, fun _ => h.1⟩⟩
theorem tkP_nonneg {hs : List Cg} {k : Nat} (h : ∀ j, j < k → TkOk hs j) : 0 ≤ tkP hs k := by
  cases k with
  | zero => exact Int.le_refl _
  | succ k => exact (h k (by omega)).t0
set_option maxHeartbeats 4000000 in
set_option maxRecDepth 100000 in
theorem hiGood_any (P : Option Addr) (c : Nat) (xs : List Im) (A : Option Addr) (ch : Nat) (hs : List Cg) (w : World) (hr : Ims w w.heap.size P xs) (hok : ListOk xs) (hg : Lst w w.heap.size A hs) (hgl : hs.length ≤ 1048576) :
    Calls Try.prog 46 #[.slice P xs.length c, .slice A hs.length ch] w fun e w' => e = .returned (.bool (pB (HiG xs hs))) ∧ Below w.heap.size w w' := by
  have HR := Lib.hid hr
  have HK := Lib.hid hok
  have HG := Lib.hid hg
  clear hr hok hg
  go_enter Try.func46, Try.ntmps46
  go_wp2_with fail
  go_loopw [5, 12] (fun v q wr => ∃ k : Nat, k ≤ hs.length ∧ q = .int .i64 k ∧ v = .int .i64 (tkP hs k) ∧ Hid (∀ j, j < k → TkOk hs j) ∧ Hid (Below w.heap.size w wr)) (fun _ q _ => hs.length - (intOf q).toNat)
  case atStart => exact ⟨0, Nat.zero_le _, rfl, rfl, Lib.hid (fun j hj => absurd hj (by omega)), Lib.hid (Below.refl _ _)⟩
  case round =>
    obtain ⟨k, hk, rfl, rfl, HT, HB⟩ := hrel
    by_cases hlt : k < hs.length
    · obtain ⟨b, o, rfl, hbl, hcc⟩ := (HG.out.below HB.out (Nat.le_refl _)).cg (by omega)
      obtain ⟨c0, c1, c2, c3, c4, c5⟩ := hcc k hlt
      have hi1 : (0 : Int) ≤ (k : Int) := by omega
      have hi2 : (k : Int) < (hs.length : Int) := by omega
      have hnn := tkP_nonneg HT.out
      clear hcc hbl
      by_cases ht : tkP hs k ≤ (it hs k).tick ∧ (it hs k).tick ≤ 100000
      · have HL := Lib.hid (fun W => l1In_yes (it hs k).tick (tkP hs k) 100000 W ht.1 ht.2)
        have HT2 := Lib.hid (show ∀ j, j < k + 1 → TkOk hs j from fun j hj => by
          rcases Nat.lt_or_ge j k with q | q
          · exact HT.out j q
          · obtain rfl : j = k := by omega
            exact tkP_ok.2 ⟨ht.1, ht.2, by omega⟩)
        clear ht hnn
        go_wp2_with (go_at_call 53; refine (HL.out _).mono ?_; rintro e w2 ⟨rfl, rfl⟩)
        go_roundw
        case rel => exact ⟨k + 1, by omega, by go_num, rfl, HT2, Lib.hid (Below_next HB.out (by go_grown))⟩
        case measure => simp [intOf]; omega
      · have HL := Lib.hid (fun W => l1In_no (it hs k).tick (tkP hs k) 100000 W ht)
        have HV := Lib.hid (show ¬ HiG xs hs from fun h => ht (by have h2 := tkP_ok.1 (h.tk k hlt); exact ⟨h2.1, h2.2.1⟩))
        clear ht hnn
        go_wp2_with (go_at_call 53; refine (HL.out _).mono ?_; rintro e w2 ⟨rfl, rfl⟩)
        go_ret
        exact ⟨by rw [pB_no HV.out]; rfl, Below_next HB.out (by go_grown)⟩
    · obtain rfl : k = hs.length := by omega
      have HE := Lib.hid (cuT_all HT.out)
      have HRN := Lib.hid (hiRun_any P c xs A ch hs 100000 wr (HR.out.next HB.out) HK.out ((HG.out.below HB.out (Nat.le_refl _)).up HB.out.size) hgl HT.out)
      go_wp2_with fail
      refine HRN.out.mono ?_
      rintro e w2 ⟨⟨bx, h | h⟩, hb2⟩
      · obtain ⟨rfl, hn⟩ := h
        have HB2 := Lib.hid (Below_next HB.out hb2)
        rw [HE.out] at hn
        have HV := Lib.hid (show ¬ HiG xs hs from fun h => hn h.ok)
        clear hn hb2
        go_wp2
        go_ret
        exact ⟨by rw [pB_no HV.out]; rfl, HB2.out⟩
      · obtain ⟨rfl, hy, _⟩ := h
        have HB2 := Lib.hid (Below_next HB.out hb2)
        rw [HE.out] at hy
        have HY := Lib.hid hy
        clear hy hb2
        by_cases h60 : hs.length ≤ 60
        · have HV := Lib.hid (show HiG xs hs from ⟨h60, HT.out, HY.out⟩)
          have h61 : (hs.length : Int) ≤ 60 := by omega
          go_wp2
          go_ret
          exact ⟨by rw [pB_yes HV.out]; first | rfl | (simp; done) | (simp; omega), HB2.out⟩
        · have HV := Lib.hid (show ¬ HiG xs hs from fun h => h60 h.few)
          have h61 : (60 : Int) < (hs.length : Int) := by omega
          clear h60
          go_wp2
          go_ret
          exact ⟨by rw [pB_no HV.out]; first | rfl | (simp; done) | (simp; omega), HB2.out⟩
theorem hiAsked_any (P : Option Addr) (c : Nat) (xs : List Im) (A : Option Addr) (ch : Nat) (hs : List Cg) (w : World) (hr : Ims w w.heap.size P xs) (hl : ImsFits xs) (hg : Lst w w.heap.size A hs) (hgl : hs.length ≤ 1048576) :
    Calls Try.prog 52 #[.slice P xs.length c, .slice A hs.length ch] w fun e w' => e = .returned (.bool (pB (HiOk xs hs))) ∧ Below w.heap.size w w' := by
  have HA := Lib.hid (itList_any P c xs w hr hl)
  have HR := Lib.hid hr
  have HG := Lib.hid hg
  by_cases hok : ListOk xs
  · have HV := Lib.hid (show pB (HiOk xs hs) = pB (HiG xs hs) from pB_iff ⟨fun h => h.2, fun h => ⟨hok, h⟩⟩)
    have HK := Lib.hid hok
    rw [pB_yes hok] at HA
    rw [HV.out]
    clear hr hl hg hok
    go_enter Try.func52, Try.ntmps52
    go_wp2_with fail
    refine HA.out.mono ?_
    rintro e w1 ⟨rfl, hb1⟩
    have HB1 := Lib.hid hb1
    clear hb1 HA
    go_wp2_with (go_at_call 46; refine (hiGood_any P c xs A ch hs _ (HR.out.next HB1.out) HK.out ((HG.out.below HB1.out (Nat.le_refl _)).up HB1.out.size) hgl).mono ?_; rintro e w2 ⟨rfl, hb2⟩; have HB2 := Lib.hid (Below_next HB1.out hb2); clear hb2)
    go_ret
    exact ⟨rfl, HB2.out⟩
  · have HV := Lib.hid (pB_no (fun h : HiOk xs hs => hok h.1))
    rw [pB_no hok] at HA
    rw [HV.out]
    clear hr hl hg hok
    go_enter Try.func52, Try.ntmps52
    go_wp2_with fail
    refine HA.out.mono ?_
    rintro e w1 ⟨rfl, hb1⟩
    have HB1 := Lib.hid hb1
    clear hb1 HA
    go_wp2
    go_ret
    exact ⟨rfl, HB1.out⟩
noncomputable def hiV (xs : List Im) (hs : List Cg) : Value := .tuple #[.bool (pB (HiOk xs hs)), .bool (pB (ListOk xs))]
theorem hiV_form (xs : List Im) (hs : List Cg) : ∃ p q : Bool, hiV xs hs = .tuple #[.bool p, .bool q] := ⟨_, _, rfl⟩
theorem hiV_same {xs ys : List Im} (h : SameS xs ys) (hs : List Cg) : hiV ys hs = hiV xs hs := by
  unfold hiV
  rw [pB_iff (hiOk_same h hs), listOk_same h]
theorem sIsHistory_any (P : Option Addr) (c : Nat) (xs : List Im) (A : Option Addr) (ch : Nat) (hs : List Cg) (w : World) (hr : Ims w w.heap.size P xs) (hl : ImsFits xs) (hg : Lst w w.heap.size A hs) (hgl : hs.length ≤ 1048576) (hcap : hs.length ≤ ch ∧ ch ≤ 9223372036854775807) :
    Calls Try.prog 13 #[.slice P xs.length c, .slice A hs.length ch] w fun e w' => e = .returned (hiV xs hs) ∧ Below w.heap.size w w' := by
  have HA := Lib.hid (itList_any P c xs w hr hl)
  have HR := Lib.hid hr
  have HG := Lib.hid hg
  unfold hiV
  by_cases hok : ListOk xs
  · have HV := Lib.hid (show pB (HiOk xs hs) = pB (HiG xs hs) from pB_iff ⟨fun h => h.2, fun h => ⟨hok, h⟩⟩)
    have HK := Lib.hid hok
    rw [pB_yes hok] at HA ⊢
    rw [HV.out]
    clear hr hl hg hok
    go_enter Try.func13, Try.ntmps13
    go_wp2_with fail
    refine HA.out.mono ?_
    rintro e w1 ⟨rfl, hb1⟩
    have HB1 := Lib.hid hb1
    clear hb1 HA
    go_wp2_with (go_at_call 46; refine (hiGood_any P c xs A ch hs _ (HR.out.next HB1.out) HK.out ((HG.out.below HB1.out (Nat.le_refl _)).up HB1.out.size) hgl).mono ?_; rintro e w2 ⟨rfl, hb2⟩; have HB2 := Lib.hid (Below_next HB1.out hb2); clear hb2)
    go_returns
    exact ⟨rfl, HB2.out⟩
  · have HV := Lib.hid (pB_no (fun h : HiOk xs hs => hok h.1))
    rw [pB_no hok] at HA ⊢
    rw [HV.out]
    clear hr hl hg hok
    go_enter Try.func13, Try.ntmps13
    go_wp2_with fail
    refine HA.out.mono ?_
    rintro e w1 ⟨rfl, hb1⟩
    have HB1 := Lib.hid hb1
    clear hb1 HA
    go_wp2
    go_returns
    exact ⟨rfl, HB1.out⟩
theorem iIsHistory_any (P : Option Addr) (c : Nat) (xs : List Im) (A : Option Addr) (ch : Nat) (hs : List Cg) (w : World) (hr : Ims w w.heap.size P xs) (hl : ImsFits xs) (hg : Lst w w.heap.size A hs) (hgl : hs.length ≤ 1048576) (hcap : hs.length ≤ ch ∧ ch ≤ 9223372036854775807) :
    Calls Try.prog 16 #[.slice P xs.length c, .slice A hs.length ch] w fun e w' => e = .returned (hiV xs hs) ∧ Below w.heap.size w w' := by
  have HA := Lib.hid (recordsOf_any P c xs A ch hs w hr hl hg hgl hcap)
  have HR := Lib.hid hr
  have HF := Lib.hid hl
  unfold hiV
  clear hr hl hg
  go_enter Try.func16, Try.ntmps16
  go_wp2_with fail
  refine HA.out.mono ?_
  rintro e w1 ⟨⟨R, d, rs, rfl, _⟩, hb1⟩
  have HB1 := Lib.hid hb1
  clear hb1 HA
  go_wp2_with (go_at_call 49; refine (iAreItems_any P c xs _ (HR.out.next HB1.out) HF.out).mono ?_; rintro e w2 ⟨rfl, hb2⟩; have HB2 := Lib.hid (Below_next HB1.out hb2); clear hb2)
  go_returns
  exact ⟨rfl, HB2.out⟩
end Go.Proofs.Ythbkfekbpjkhnaa
