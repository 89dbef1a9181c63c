/- The text of marks, in the model and in the program. -/
import Derived.Test.YtfeffkjmjkddnaaDoorMrF
import Derived.Test.YtfeffkjmjkddnaaDoorNum
import Derived.Test.YtfeffkjmjkddnaaDoorShelf
namespace Go.Proofs.YtfeffkjmjkddnaaDoor
open Go.ChangeShapes Go.WideShapes Go.ChangeAt Go.RowKit Go.Lib Go.Proofs Go.PlainAid
set_option linter.unusedVariables false

/-- A number in decimal, with its sign. -/
def SI (v : Int) : ByteArray := ⟨(Lib.itoa v).toArray⟩
def NumS (v : Int) : Prop := -2000 ≤ v ∧ v ≤ 2000
theorem bt_size (l : List UInt8) : (⟨l.toArray⟩ : ByteArray).size = l.length := by simp [ByteArray.size]
theorem SI_size (v : Int) (h : NumS v) : (SI v).size ≤ 16 := by
  obtain ⟨h0, h1⟩ := h
  have h2 := dec_len 13 v.toNat (by omega)
  have h3 := dec_len 13 v.natAbs (by omega)
  unfold SI Lib.itoa
  split
  · rw [bt_size, List.length_cons]
    omega
  · rw [bt_size]
    omega
theorem neg_text (v : Int) (h : v < 0) : (⟨#[45]⟩ : ByteArray) ++ ⟨(Lib.decDigits (-v).toNat).toArray⟩ = SI v := by
  unfold SI Lib.itoa
  rw [if_pos h, show (-v).toNat = v.natAbs by omega]
  apply ByteArray.ext
  simp
theorem l1NumI_any (v : Int) (w : World) (h0 : 0 ≤ v) (h : v ≤ 1000000000000) :
    Calls Tryd.prog 43 #[.int .i64 v] w fun e w' => e = .returned (.string ⟨(Lib.decDigits v.toNat).toArray⟩) ∧ Below w.heap.size w w' := by
  have := l1Num_any v.toNat v.toNat (Nat.le_refl _) (by omega) w
  rw [show ((v.toNat : Nat) : Int) = v by omega] at this
  exact this
theorem l1Int_any (v : Int) (w : World) (h : NumS v) :
    Calls Tryd.prog 29 #[.int .i64 v] w fun e w' => e = .returned (.string (SI v)) ∧ Below w.heap.size w w' := by
  obtain ⟨h0, h1⟩ := h
  rcases Int.lt_or_le v 0 with hn | hn
  · have HT := Lib.hid (neg_text v hn)
    have hs : (⟨(Lib.decDigits (-v).toNat).toArray⟩ : ByteArray).size ≤ 14 := by
      have := dec_len 13 (-v).toNat (by omega)
      rw [bt_size]
      omega
    have HC := Lib.hid (l1NumI_any (-v) w (by omega) (by omega))
    generalize (⟨(Lib.decDigits (-v).toNat).toArray⟩ : ByteArray) = D at HT HC hs
    go_enter Tryd.func29, Tryd.ntmps29
    go_wp2_with (go_at_call 43; refine HC.out.mono ?_; rintro e w2 ⟨rfl, hb⟩; have HB := Lib.hid hb; clear hb)
    go_ret
    exact ⟨by rw [← HT.out]; rfl, HB.out⟩
  · have HC := Lib.hid (l1NumI_any v w hn (by omega))
    have HT := Lib.hid (show (⟨(Lib.decDigits v.toNat).toArray⟩ : ByteArray) = SI v by unfold SI Lib.itoa; rw [if_neg (by omega)])
    rw [HT.out] at HC
    go_enter Tryd.func29, Tryd.ntmps29
    go_wp2_with (go_at_call 43; refine HC.out.mono ?_; rintro e w2 ⟨rfl, hb⟩; have HB := Lib.hid hb; clear hb)
    go_ret
    exact ⟨rfl, HB.out⟩
theorem gPow : Tryd.prog.globalNamed "internal/strconv.uint64pow10" = some 0 := by kernel_rfl
/-- The library's table of powers of ten holds what it is laid with. -/
structure Tab10 (w : World) : Prop where
  lt : 0 < w.heap.size
  var : Lib.TabIs Tryd.prog w "internal/strconv.uint64pow10" .u64 Lib.pow10Tab
theorem Tab10.next {w w' : World} (h : Tab10 w) (hb : Below w.heap.size w w') : Tab10 w' := ⟨Nat.lt_of_lt_of_le h.lt hb.size, var?_below hb gPow h.lt h.var⟩
theorem itoaS_any (v : Int) (w : World) (h : NumS v) (ht : Tab10 w) :
    Calls Tryd.prog 34 #[.int .i64 v] w fun e w' => e = .returned (.string (SI v)) ∧ Below w.heap.size w w' :=
  (Tryd.strconv_Itoa v (by have := h.1; omega) (by have := h.2; omega) w ht.var).mono fun e w' ⟨he, k, os, hw⟩ => by
    refine ⟨?_, ?_⟩
    · rw [he]
      rfl
    · rw [hw]
      exact ⟨rfl, rfl, rfl, by simp, fun i hi => Sort.heap_grow_old _ _ hi⟩
/-- A word and the first k numbers of a list, each behind a blank. -/
def lnS (word : ByteArray) (l : List Int) : Nat → ByteArray
  | 0 => word
  | k + 1 => lnS word l k ++ (⟨#[32]⟩ ++ SI (it l k))
def lnST (word : ByteArray) (l : List Int) : ByteArray := lnS word l l.length ++ ⟨#[10]⟩
def NumsS (l : List Int) : Prop := ∀ i, i < l.length → NumS (it l i)
theorem lnS_size (word : ByteArray) (l : List Int) (hn : NumsS l) : ∀ k, k ≤ l.length → (lnS word l k).size ≤ word.size + k * 17
  | 0, _ => by simp [lnS]
  | k + 1, h => by
    have h1 := lnS_size word l hn k (by omega)
    have h2 := SI_size (it l k) (hn k (by omega))
    rw [lnS]
    simp only [ByteArray.size_append]
    have : (⟨#[32]⟩ : ByteArray).size = 1 := rfl
    omega
theorem lnST_size (word : ByteArray) (l : List Int) (hn : NumsS l) (h9 : l.length ≤ 9) (hw : word.size = 1) : (lnST word l).size ≤ 160 := by
  have h1 := lnS_size word l hn l.length (Nat.le_refl _)
  unfold lnST
  simp only [ByteArray.size_append]
  have : (⟨#[10]⟩ : ByteArray).size = 1 := rfl
  omega
/-- The lines of the first rows, behind a text. -/
def txR (word acc : ByteArray) (g : List (List Int)) : Nat → ByteArray
  | 0 => acc
  | i + 1 => txR word acc g i ++ lnST word (it g i)
theorem txR_size (word acc : ByteArray) (g : List (List Int)) (h : ∀ i, i < g.length → NumsS (it g i) ∧ (it g i).length ≤ 9) (hw : word.size = 1) : ∀ k, k ≤ g.length → (txR word acc g k).size ≤ acc.size + k * 160
  | 0, _ => by simp [txR]
  | k + 1, hk => by
    have h1 := txR_size word acc g h hw k (by omega)
    have h2 := lnST_size word (it g k) (h k (by omega)).1 (h k (by omega)).2 hw
    rw [txR]
    simp only [ByteArray.size_append]
    omega
def wG : ByteArray := ⟨#[103]⟩
def wC : ByteArray := ⟨#[99]⟩
def gTx (g : List (List Int)) : ByteArray := txR wG ⟨#[]⟩ g g.length
def mTx (g c : List (List Int)) : ByteArray := txR wC (gTx g) c c.length
noncomputable def mtF (g c : List (List Int)) : ByteArray := pIf (MkL g c) (mTx g c) ⟨#[]⟩
structure TxOk (g c : List (List Int)) : Prop where
  few : g.length ≤ 14
  three : c.length = 3
  gs : ∀ i, i < g.length → NumsS (it g i) ∧ (it g i).length ≤ 9
  cs : ∀ i, i < c.length → NumsS (it c i) ∧ (it c i).length ≤ 9
theorem MkL.tx {g c : List (List Int)} (h : MkL g c) : TxOk g c := by
  have h9 := h.j9
  refine ⟨h.few, h.three, fun i hi => ⟨fun j hj => ?_, ?_⟩, fun i hi => ⟨fun j hj => ?_, ?_⟩⟩
  · have := (h.gs i hi).each j hj
    unfold GdOk at this
    unfold NumS
    omega
  · rw [(h.gs i hi).len]
    exact h9
  · have := (h.cs i hi).each j hj
    have h1 := this.lo
    have h2 := this.hi
    unfold NumS
    omega
  · rw [(h.cs i hi).len]
    exact h9
theorem gTx_size {g c : List (List Int)} (h : TxOk g c) : (gTx g).size ≤ 2240 := by
  have h1 := txR_size wG ⟨#[]⟩ g h.gs rfl g.length (Nat.le_refl _)
  have h2 := h.few
  have : (⟨#[]⟩ : ByteArray).size = 0 := rfl
  unfold gTx
  omega
theorem wordLine_any (word : ByteArray) (A : Option Addr) (c : Nat) (l : List Int) (w : World) (hr : Lst w w.heap.size A l) (hl : l.length ≤ 9) (hw : word.size = 1) (hn : NumsS l) (ht : Tab10 w) :
    Calls Tryd.prog 19 #[.string word, .slice A l.length c] w fun e w' => e = .returned (.string (lnST word l)) ∧ Below w.heap.size w w' := by
  have HR := Lib.hid hr
  have HN := Lib.hid hn
  have HT := Lib.hid ht
  clear hr hn ht
  go_enter Tryd.func19, Tryd.ntmps19
  go_wp2
  go_loopw [5, 11] (fun s i wr => ∃ k : Nat, k ≤ l.length ∧ i = .int .i64 k ∧ s = .string (lnS word l k) ∧ Below w.heap.size w wr) (fun _ i _ => l.length - (RowKit.intOf i).toNat)
  case atStart => exact ⟨0, Nat.zero_le _, rfl, rfl, Below.refl _ _⟩
  case round =>
    obtain ⟨k, hk, rfl, rfl, hb⟩ := hrel
    have hsz := lnS_size word l HN.out k hk
    by_cases hlt : k < l.length
    · obtain ⟨b, o, rfl, hbl, hc⟩ := HR.out.int (by omega)
      have ck := (hb.cell (p := ⟨b, o + k, none⟩) hbl).trans (hc k hlt)
      have hd := SI_size (it l k) (HN.out k hlt)
      have HV := Lib.hid (HN.out k hlt)
      have HB := Lib.hid hb
      have HL := Lib.hid (show lnS word l (k + 1) = lnS word l k ++ (⟨#[32]⟩ ++ SI (it l k)) from rfl)
      clear hc hb
      go_wp2_with (go_at_call 34; refine (itoaS_any (it l k) _ HV.out (HT.out.next HB.out)).mono ?_; rintro e w2 ⟨rfl, hb2⟩; have HB2 := Lib.hid (below_next HB.out hb2); clear hb2)
      go_roundw
      case rel => exact ⟨k + 1, by omega, by go_num, by rw [HL.out], HB2.out⟩
      case measure => simp [RowKit.intOf]; omega
    · obtain rfl : k = l.length := by omega
      have HV := Lib.hid (show lnST word l = lnS word l l.length ++ ⟨#[10]⟩ from rfl)
      go_wp2
      go_ret
      exact ⟨by rw [HV.out]; rfl, hb⟩
set_option maxHeartbeats 4000000 in
theorem iMarksText_any (x : Mr) (w : World) (hr : MrIn w w.heap.size x) (hl : MrFits x) (ht : Tab10 w) :
    Calls Tryd.prog 8 #[x.val] w fun e w' => e = .returned (.tuple #[.string (mtF (ctt x.G) (ctt x.C)), .bool (pB (MkL (ctt x.G) (ctt x.C)))]) ∧ Below w.heap.size w w' := by
  have hb0 := below_alloc w (.cells #[.slice x.G.A x.G.xs.length x.G.c, .slice x.C.A x.C.xs.length x.C.c] 28)
  have HB0 := Lib.hid hb0
  have HR := Lib.hid (hr.next hb0)
  have HF := Lib.hid hl
  have HX := Lib.hid (mrBox_new w 28 x)
  have HT0 := Lib.hid (ht.next hb0)
  have hg1 := nfit_len hl.g
  have HC := Lib.hid (iAreMarks_any x (x.G.xs.length : Int) _ (hr.next hb0) hl)
  have HNN := Lib.hid (show pB (MkN (ctt x.G) (ctt x.C) x.G.xs.length) = pB (MkL (ctt x.G) (ctt x.C)) from pB_iff ⟨fun h => h.ok, fun h => ⟨h, by rw [ctt_len]⟩⟩)
  rw [HNN.out] at HC
  clear hr hl hb0 ht
  unfold Mr.val at HC ⊢
  by_cases h1 : MkL (ctt x.G) (ctt x.C)
  rotate_left
  · rw [pB_no h1] at HC ⊢
    rw [show mtF (ctt x.G) (ctt x.C) = ⟨#[]⟩ from pIf_no h1]
    clear h1
    go_enter Tryd.func8, Tryd.ntmps8
    go_wp2_with (go_at_call 18; refine HC.out.mono ?_; rintro e w1 ⟨rfl, hb1⟩; have HB1 := Lib.hid (below_next HB0.out hb1); clear hb1)
    go_returns
    exact ⟨rfl, HB1.out⟩
  rw [pB_yes h1] at HC ⊢
  rw [show mtF (ctt x.G) (ctt x.C) = mTx (ctt x.G) (ctt x.C) from pIf_yes h1]
  have HK := Lib.hid h1.tx
  clear h1
  go_enter Tryd.func8, Tryd.ntmps8
  go_wp2_with (go_at_call 18; refine HC.out.mono ?_; rintro e w1 ⟨rfl, hb1⟩; have HB1 := Lib.hid (below_next HB0.out hb1); have HX1 := Lib.hid (HX.out.next hb1); have HR1 := Lib.hid (HR.out.next hb1); have HT1 := Lib.hid (HT0.out.next hb1); obtain ⟨x0, x1, xf⟩ := (HX.out.next hb1).mem; clear hb1)
  clear x0 x1 xf
  go_loopw [4, 18] (fun s i wr => ∃ k : Nat, k ≤ x.G.xs.length ∧ i = .int .i64 k ∧ s = .string (txR wG ⟨#[]⟩ (ctt x.G) k) ∧ Hid (Below w1.heap.size w1 wr)) (fun _ i _ => x.G.xs.length - (RowKit.intOf i).toNat)
  case atStart => exact ⟨0, Nat.zero_le _, rfl, rfl, Lib.hid (Below.refl _ _)⟩
  case round =>
    obtain ⟨k, hk, rfl, rfl, HBR⟩ := hrel
    have hts := txR_size wG ⟨#[]⟩ (ctt x.G) HK.out.gs rfl k (by rw [ctt_len]; exact hk)
    have hac := (show (⟨#[]⟩ : ByteArray).size = 0 from rfl)
    by_cases hlt : k < x.G.xs.length
    · obtain ⟨b', o', hA', hbl', hc'⟩ := mr_cell HR1.out.g (by omega)
      have hck := (HBR.out.cell (p := ⟨b', o' + k, none⟩) hbl').trans (hc' k hlt)
      have hkk := HK.out.gs k (by rw [ctt_len]; exact hlt)
      rw [ctt_it] at hkk
      have hls := lnST_size wG (it x.G.xs k).xs hkk.1 hkk.2 rfl
      have HLL := Lib.hid (show txR wG ⟨#[]⟩ (ctt x.G) (k + 1) = txR wG ⟨#[]⟩ (ctt x.G) k ++ lnST wG (it x.G.xs k).xs by rw [txR, ctt_it])
      have HW := Lib.hid (wordLine_any wG (it x.G.xs k).A (it x.G.xs k).c (it x.G.xs k).xs wr (show Lst wr wr.heap.size _ _ from Nst.next (mr_each HR1.out.g k hlt) HBR.out) hkk.2 rfl hkk.1 (HT1.out.next HBR.out))
      have hk17 : k ≤ 17 := by have := HK.out.few; have := HK.out.three; rw [ctt_len] at *; omega
      rw [hA']
      generalize txR wG ⟨#[]⟩ (ctt x.G) k = S0 at hts HLL ⊢
      generalize lnST wG (it x.G.xs k).xs = S1 at hls HLL HW
      clear hc' hA' hkk
      go_wp2_with (go_at_call 19; refine HW.out.mono ?_; rintro e w4 ⟨rfl, hb⟩; have HB4 := Lib.hid (below_next HBR.out hb); clear hb)
      go_roundw
      case rel => exact ⟨k + 1, by omega, by go_num, by rw [HLL.out], HB4⟩
      case measure => simp [RowKit.intOf]; omega
    · obtain rfl : k = x.G.xs.length := by omega
      obtain ⟨x0, x1, xf⟩ := (HX1.out.next HBR.out).mem
      have HGT := Lib.hid (show txR wG ⟨#[]⟩ (ctt x.G) x.G.xs.length = gTx (ctt x.G) by unfold gTx; rw [ctt_len])
      rw [HGT.out]
      go_wp2_with fail
      clear x0 x1 xf hts hac
      have HBG := Lib.hid HBR.out
      clear HBR
      go_loopw [4, 30] (fun s i wr => ∃ k : Nat, k ≤ x.C.xs.length ∧ i = .int .i64 k ∧ s = .string (txR wC (gTx (ctt x.G)) (ctt x.C) k) ∧ Hid (Below w1.heap.size w1 wr)) (fun _ i _ => x.C.xs.length - (RowKit.intOf i).toNat)
      case atStart => exact ⟨0, Nat.zero_le _, rfl, rfl, HBG⟩
      case round =>
        obtain ⟨k, hk, rfl, rfl, HBR⟩ := hrel
        have hts := txR_size wC (gTx (ctt x.G)) (ctt x.C) HK.out.cs rfl k (by rw [ctt_len]; exact hk)
        have hac := gTx_size HK.out
        by_cases hlt : k < x.C.xs.length
        · obtain ⟨b', o', hA', hbl', hc'⟩ := mr_cell HR1.out.c (by omega)
          have hck := (HBR.out.cell (p := ⟨b', o' + k, none⟩) hbl').trans (hc' k hlt)
          have hkk := HK.out.cs k (by rw [ctt_len]; exact hlt)
          rw [ctt_it] at hkk
          have hls := lnST_size wC (it x.C.xs k).xs hkk.1 hkk.2 rfl
          have HLL := Lib.hid (show txR wC (gTx (ctt x.G)) (ctt x.C) (k + 1) = txR wC (gTx (ctt x.G)) (ctt x.C) k ++ lnST wC (it x.C.xs k).xs by rw [txR, ctt_it])
          have HW := Lib.hid (wordLine_any wC (it x.C.xs k).A (it x.C.xs k).c (it x.C.xs k).xs wr (show Lst wr wr.heap.size _ _ from Nst.next (mr_each HR1.out.c k hlt) HBR.out) hkk.2 rfl hkk.1 (HT1.out.next HBR.out))
          have hk17 : k ≤ 17 := by have := HK.out.few; have := HK.out.three; rw [ctt_len] at *; omega
          rw [hA']
          generalize txR wC (gTx (ctt x.G)) (ctt x.C) k = S0 at hts HLL ⊢
          generalize lnST wC (it x.C.xs k).xs = S1 at hls HLL HW
          clear hc' hA' hkk
          go_wp2_with (go_at_call 19; refine HW.out.mono ?_; rintro e w4 ⟨rfl, hb⟩; have HB4 := Lib.hid (below_next HBR.out hb); clear hb)
          go_roundw
          case rel => exact ⟨k + 1, by omega, by go_num, by rw [HLL.out], HB4⟩
          case measure => simp [RowKit.intOf]; omega
        · obtain rfl : k = x.C.xs.length := by omega
          have HCT := Lib.hid (show txR wC (gTx (ctt x.G)) (ctt x.C) x.C.xs.length = mTx (ctt x.G) (ctt x.C) by unfold mTx; rw [ctt_len])
          rw [HCT.out]
          go_wp2
          go_returns
          exact ⟨rfl, below_next HB1.out HBR.out⟩
end Go.Proofs.YtfeffkjmjkddnaaDoor
