/- The text of marks in the model. -/
import Derived.Test.YtfeffkjmjkddnaaDoorMrY
namespace Go.Proofs.YtfeffkjmjkddnaaDoor
open Go.ChangeShapes Go.WideShapes Go.ChangeAt Go.RowKit Go.Lib Go.Proofs Go.PlainAid
set_option linter.unusedVariables false

def tx2 (g c : List (List Int)) : Nat → ByteArray
  | 0 => ⟨#[]⟩
  | 1 => gTx g
  | _ + 2 => mTx g c
set_option maxHeartbeats 8000000 in
theorem mkText_any (x : Mr) (w : World) (hr : MrIn w w.heap.size x) (hl : MrFits x) (hk : TxOk (ctt x.G) (ctt x.C)) :
    Calls Tryd.prog 16 #[x.val] w fun e w' => e = .returned (.string (mTx (ctt x.G) (ctt x.C))) ∧ Below w.heap.size w w' := by
  have hb0 := below_alloc w (.cells #[.slice x.G.A x.G.xs.length x.G.c, .slice x.C.A x.C.xs.length x.C.c] 28)
  have HB0 := Lib.hid hb0
  have HR := Lib.hid (hr.next hb0)
  have HX := Lib.hid (mrBox_new w 28 x)
  have HK := Lib.hid hk
  have hg1 := nfit_len hl.g
  have hc1 := nfit_len hl.c
  have hgz := gTx_size hk
  have hez := (show (⟨#[]⟩ : ByteArray).size = 0 from rfl)
  clear hr hl hb0 hk
  unfold Mr.val
  obtain ⟨x0, x1, xf⟩ := HX.out.mem
  go_enter Tryd.func16, Tryd.ntmps16
  go_wp2_with fail
  clear x0 x1 xf
  have h4 : (w.alloc (.cells #[.slice x.G.A x.G.xs.length x.G.c, .slice x.C.A x.C.xs.length x.C.c] 28)).heap.size = w.heap.size + 1 := by simp
  generalize World.alloc w _ = w4 at HB0 HR HX h4 ⊢
  have HBW := Lib.hid (below_alloc w4 (.cells #[.slice x.G.A x.G.xs.length x.G.c, .slice x.C.A x.C.xs.length x.C.c] 22))
  have HPA := Lib.hid (mem2_new w4 (w.heap.size + 1) 22 h4 (.slice x.G.A x.G.xs.length x.G.c) (.slice x.C.A x.C.xs.length x.C.c))
  have hpl : w.heap.size + 1 < (w4.alloc (.cells #[.slice x.G.A x.G.xs.length x.G.c, .slice x.C.A x.C.xs.length x.C.c] 22)).heap.size := by simp [h4]
  have HR5 := Lib.hid (HR.out.next HBW.out)
  have HB5 := Lib.hid (below_next HB0.out HBW.out)
  generalize World.alloc w4 _ = w5 at HBW HPA hpl HR5 HB5 ⊢
  clear h4
  go_loopw [3, 16] (fun s i wr => ∃ k : Nat, k ≤ 2 ∧ i = .int .i64 k ∧ s = .string (tx2 (ctt x.G) (ctt x.C) k) ∧ Hid (Below w5.heap.size w5 wr)) (fun _ i _ => 2 - (RowKit.intOf i).toNat)
  case atStart => exact ⟨0, Nat.zero_le _, rfl, rfl, Lib.hid (Below.refl _ _)⟩
  case round =>
    obtain ⟨k, hk, rfl, rfl, HON⟩ := hrel
    by_cases hlt : k < 2
    · have hpa := HPA.out.below HON.out hpl
      obtain ⟨d0, d1, df⟩ := hpa
      rcases (show k = 0 ∨ k = 1 by omega) with rfl | rfl
      · rw [show tx2 (ctt x.G) (ctt x.C) 0 = ⟨#[]⟩ from rfl, show ((0 : Nat) : Int) = 0 from rfl]
        go_wp2_with fail
        clear d0 d1 df
        go_loopw [3, 23] (fun s i w6 => ∃ j : Nat, j ≤ x.G.xs.length ∧ i = .int .i64 j ∧ s = .string (txR wG ⟨#[]⟩ (ctt x.G) j) ∧ Hid (Below w5.heap.size w5 w6)) (fun _ i _ => x.G.xs.length - (RowKit.intOf i).toNat)
        case atStart => exact ⟨0, Nat.zero_le _, rfl, rfl, HON⟩
        case round =>
          obtain ⟨j, hj, rfl, rfl, HO6⟩ := hrel
          have hts := txR_size wG ⟨#[]⟩ (ctt x.G) HK.out.gs rfl j (by rw [ctt_len]; exact hj)
          by_cases hjl : j < x.G.xs.length
          · obtain ⟨b', o', hA', hbl', hc'⟩ := mr_cell HR5.out.g (by omega)
            have hck := (HO6.out.cell (p := ⟨b', o' + j, none⟩) hbl').trans (hc' j hjl)
            have hkk := HK.out.gs j (by rw [ctt_len]; exact hjl)
            rw [ctt_it] at hkk
            have HKK := Lib.hid hkk
            have hr9 := hkk.2
            have HLL := Lib.hid (show txR wG ⟨#[]⟩ (ctt x.G) (j + 1) = txR wG ⟨#[]⟩ (ctt x.G) j ++ lnST wG (it x.G.xs j).xs by rw [txR, ctt_it])
            have hk17 : j ≤ 17 := by have := HK.out.few; have := HK.out.three; rw [ctt_len] at *; omega
            rw [hA']
            generalize txR wG ⟨#[]⟩ (ctt x.G) j = S0 at hts HLL ⊢
            clear hc' hA' hkk
            go_wp2_with fail
            have HB7 := Lib.hid (below_next HO6.out (below_alloc wr (.cells #[.string ⟨#[103]⟩, .string ⟨#[99]⟩] 9)))
            generalize World.alloc wr _ = w7 at HB7 ⊢
            have HRow7 := Lib.hid (show Lst w7 w7.heap.size (it x.G.xs j).A (it x.G.xs j).xs from Nst.next (mr_each HR5.out.g j hjl) HB7.out)
            clear hck
            generalize it x.G.xs j = R at HKK hr9 HLL HRow7 ⊢
            go_loopw [3, 35] (fun s i w8 => ∃ n : Nat, n ≤ R.xs.length ∧ i = .int .i64 n ∧ s = .string (S0 ++ lnS wG R.xs n) ∧ Hid (Below w7.heap.size w7 w8)) (fun _ i _ => R.xs.length - (RowKit.intOf i).toNat)
            case atStart => exact ⟨0, Nat.zero_le _, rfl, rfl, Lib.hid (Below.refl _ _)⟩
            case round =>
              obtain ⟨n, hn, rfl, rfl, HB8⟩ := hrel
              have hsz := lnS_size wG R.xs HKK.out.1 n hn
              have hws := (show wG.size = 1 from rfl)
              have hs0 : (S0 ++ lnS wG R.xs n).size ≤ 10000 := by rw [ByteArray.size_append]; omega
              by_cases hnl : n < R.xs.length
              · obtain ⟨b, o, hA2, hbl, hc⟩ := HRow7.out.int (by omega)
                have ck := (HB8.out.cell (p := ⟨b, o + n, none⟩) hbl).trans (hc n hnl)
                have hd := SI_size _ (HKK.out.1 n hnl)
                have HV := Lib.hid (l1Int_any (it R.xs n) wr (HKK.out.1 n hnl))
                have HL := Lib.hid (show S0 ++ lnS wG R.xs (n + 1) = (S0 ++ lnS wG R.xs n) ++ (⟨#[32]⟩ ++ SI (it R.xs n)) by rw [lnS, ByteArray.append_assoc])
                generalize S0 ++ lnS wG R.xs n = S1 at hs0 HL ⊢
                rw [hA2]
                clear hc hsz hA2
                go_wp2_with (go_at_call 29; refine HV.out.mono ?_; rintro e w9 ⟨rfl, hb⟩; have HB9 := Lib.hid (below_next HB8.out hb); clear hb)
                go_roundw
                case rel => exact ⟨n + 1, by omega, by go_num, by rw [HL.out], HB9⟩
                case measure => simp [RowKit.intOf]; omega
              · obtain rfl : n = R.xs.length := by omega
                have HL := Lib.hid (show (S0 ++ lnS wG R.xs R.xs.length) ++ ⟨#[10]⟩ = txR wG ⟨#[]⟩ (ctt x.G) (j + 1) by rw [HLL.out, lnST, ByteArray.append_assoc])
                generalize S0 ++ lnS wG R.xs R.xs.length = S1 at hs0 HL ⊢
                go_wp2
                go_roundw
                case rel => exact ⟨j + 1, by omega, by go_num, by rw [← HL.out], Lib.hid (below_next HB7.out HB8.out)⟩
                case measure => simp [RowKit.intOf]; omega
          · obtain rfl : j = x.G.xs.length := by omega
            have HGT := Lib.hid (show txR wG ⟨#[]⟩ (ctt x.G) x.G.xs.length = tx2 (ctt x.G) (ctt x.C) 1 by unfold tx2 gTx; rw [ctt_len])
            rw [HGT.out]
            clear hts
            go_wp2
            go_roundw
            case rel => exact ⟨1, by omega, by go_num, rfl, HO6⟩
            case measure => simp [RowKit.intOf]
      · rw [show tx2 (ctt x.G) (ctt x.C) 1 = gTx (ctt x.G) from rfl, show ((1 : Nat) : Int) = 1 from rfl]
        go_wp2_with fail
        clear d0 d1 df
        go_loopw [3, 23] (fun s i w6 => ∃ j : Nat, j ≤ x.C.xs.length ∧ i = .int .i64 j ∧ s = .string (txR wC (gTx (ctt x.G)) (ctt x.C) j) ∧ Hid (Below w5.heap.size w5 w6)) (fun _ i _ => x.C.xs.length - (RowKit.intOf i).toNat)
        case atStart => exact ⟨0, Nat.zero_le _, rfl, rfl, HON⟩
        case round =>
          obtain ⟨j, hj, rfl, rfl, HO6⟩ := hrel
          have hts := txR_size wC (gTx (ctt x.G)) (ctt x.C) HK.out.cs rfl j (by rw [ctt_len]; exact hj)
          by_cases hjl : j < x.C.xs.length
          · obtain ⟨b', o', hA', hbl', hc'⟩ := mr_cell HR5.out.c (by omega)
            have hck := (HO6.out.cell (p := ⟨b', o' + j, none⟩) hbl').trans (hc' j hjl)
            have hkk := HK.out.cs j (by rw [ctt_len]; exact hjl)
            rw [ctt_it] at hkk
            have HKK := Lib.hid hkk
            have hr9 := hkk.2
            have HLL := Lib.hid (show txR wC (gTx (ctt x.G)) (ctt x.C) (j + 1) = txR wC (gTx (ctt x.G)) (ctt x.C) j ++ lnST wC (it x.C.xs j).xs by rw [txR, ctt_it])
            have hk17 : j ≤ 17 := by have := HK.out.few; have := HK.out.three; rw [ctt_len] at *; omega
            rw [hA']
            generalize txR wC (gTx (ctt x.G)) (ctt x.C) j = S0 at hts HLL ⊢
            clear hc' hA' hkk
            go_wp2_with fail
            have HB7 := Lib.hid (below_next HO6.out (below_alloc wr (.cells #[.string ⟨#[103]⟩, .string ⟨#[99]⟩] 9)))
            generalize World.alloc wr _ = w7 at HB7 ⊢
            have HRow7 := Lib.hid (show Lst w7 w7.heap.size (it x.C.xs j).A (it x.C.xs j).xs from Nst.next (mr_each HR5.out.c j hjl) HB7.out)
            clear hck
            generalize it x.C.xs j = R at HKK hr9 HLL HRow7 ⊢
            go_loopw [3, 35] (fun s i w8 => ∃ n : Nat, n ≤ R.xs.length ∧ i = .int .i64 n ∧ s = .string (S0 ++ lnS wC R.xs n) ∧ Hid (Below w7.heap.size w7 w8)) (fun _ i _ => R.xs.length - (RowKit.intOf i).toNat)
            case atStart => exact ⟨0, Nat.zero_le _, rfl, rfl, Lib.hid (Below.refl _ _)⟩
            case round =>
              obtain ⟨n, hn, rfl, rfl, HB8⟩ := hrel
              have hsz := lnS_size wC R.xs HKK.out.1 n hn
              have hws := (show wC.size = 1 from rfl)
              have hs0 : (S0 ++ lnS wC R.xs n).size ≤ 10000 := by rw [ByteArray.size_append]; omega
              by_cases hnl : n < R.xs.length
              · obtain ⟨b, o, hA2, hbl, hc⟩ := HRow7.out.int (by omega)
                have ck := (HB8.out.cell (p := ⟨b, o + n, none⟩) hbl).trans (hc n hnl)
                have hd := SI_size _ (HKK.out.1 n hnl)
                have HV := Lib.hid (l1Int_any (it R.xs n) wr (HKK.out.1 n hnl))
                have HL := Lib.hid (show S0 ++ lnS wC R.xs (n + 1) = (S0 ++ lnS wC R.xs n) ++ (⟨#[32]⟩ ++ SI (it R.xs n)) by rw [lnS, ByteArray.append_assoc])
                generalize S0 ++ lnS wC R.xs n = S1 at hs0 HL ⊢
                rw [hA2]
                clear hc hsz hA2
                go_wp2_with (go_at_call 29; refine HV.out.mono ?_; rintro e w9 ⟨rfl, hb⟩; have HB9 := Lib.hid (below_next HB8.out hb); clear hb)
                go_roundw
                case rel => exact ⟨n + 1, by omega, by go_num, by rw [HL.out], HB9⟩
                case measure => simp [RowKit.intOf]; omega
              · obtain rfl : n = R.xs.length := by omega
                have HL := Lib.hid (show (S0 ++ lnS wC R.xs R.xs.length) ++ ⟨#[10]⟩ = txR wC (gTx (ctt x.G)) (ctt x.C) (j + 1) by rw [HLL.out, lnST, ByteArray.append_assoc])
                generalize S0 ++ lnS wC R.xs R.xs.length = S1 at hs0 HL ⊢
                go_wp2
                go_roundw
                case rel => exact ⟨j + 1, by omega, by go_num, by rw [← HL.out], Lib.hid (below_next HB7.out HB8.out)⟩
                case measure => simp [RowKit.intOf]; omega
          · obtain rfl : j = x.C.xs.length := by omega
            have HGT := Lib.hid (show txR wC (gTx (ctt x.G)) (ctt x.C) x.C.xs.length = tx2 (ctt x.G) (ctt x.C) 2 by unfold tx2 mTx; rw [ctt_len])
            rw [HGT.out]
            clear hts
            go_wp2
            go_roundw
            case rel => exact ⟨2, by omega, by go_num, rfl, HO6⟩
            case measure => simp [RowKit.intOf]
    · obtain rfl : k = 2 := by omega
      rw [show tx2 (ctt x.G) (ctt x.C) 2 = mTx (ctt x.G) (ctt x.C) from rfl]
      go_wp2
      go_ret
      exact ⟨rfl, below_next HB5.out HON.out⟩
set_option maxHeartbeats 4000000 in
theorem sMarksText_any (x : Mr) (w : World) (hr : MrIn w w.heap.size x) (hl : MrFits x) :
    Calls Tryd.prog 6 #[x.val] w fun e w' => e = .returned (.tuple #[.string (mtF (ctt x.G) (ctt x.C)), .bool (pB (MkL (ctt x.G) (ctt x.C)))]) ∧ Below w.heap.size w w' := by
  have hb0 := below_alloc w (.cells #[.slice x.G.A x.G.xs.length x.G.c, .slice x.C.A x.C.xs.length x.C.c] 28)
  have HB0 := Lib.hid hb0
  have HR := Lib.hid (hr.next hb0)
  have HF := Lib.hid hl
  have HX := Lib.hid (mrBox_new w 28 x)
  have HC := Lib.hid (mkAll_any x _ (hr.next hb0) hl)
  clear hr hl hb0
  unfold Mr.val at HC ⊢
  by_cases h1 : MkL (ctt x.G) (ctt x.C)
  · rw [pB_yes h1] at HC ⊢
    rw [show mtF (ctt x.G) (ctt x.C) = mTx (ctt x.G) (ctt x.C) from pIf_yes h1]
    have HCT := Lib.hid (fun w' hr' => mkText_any x w' hr' HF.out h1.tx)
    unfold Mr.val at HCT
    clear h1
    go_enter Tryd.func6, Tryd.ntmps6
    go_wp2_with (first
      | (go_at_call 15; refine HC.out.mono ?_; rintro e w1 ⟨rfl, hb1⟩; have HB1 := Lib.hid (below_next HB0.out hb1); have HR1 := Lib.hid (HR.out.next hb1); obtain ⟨x0, x1, xf⟩ := (HX.out.next hb1).mem; clear hb1)
      | (go_at_call 16; refine (HCT.out _ HR1.out).mono ?_; rintro e w2 ⟨rfl, hb2⟩; have HB2 := Lib.hid (below_next HB1.out hb2); clear hb2))
    go_returns
    exact ⟨rfl, HB2.out⟩
  · rw [pB_no h1] at HC ⊢
    rw [show mtF (ctt x.G) (ctt x.C) = ⟨#[]⟩ from pIf_no h1]
    clear h1
    go_enter Tryd.func6, Tryd.ntmps6
    go_wp2_with (go_at_call 15; refine HC.out.mono ?_; rintro e w1 ⟨rfl, hb1⟩; have HB1 := Lib.hid (below_next HB0.out hb1); clear hb1)
    go_returns
    exact ⟨rfl, HB1.out⟩
end Go.Proofs.YtfeffkjmjkddnaaDoor
