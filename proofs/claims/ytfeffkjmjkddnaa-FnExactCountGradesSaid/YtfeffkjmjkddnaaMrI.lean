/- CountGrades, of both sides. -/
import Derived.Test.YtfeffkjmjkddnaaMrG
namespace Go.Proofs.Ytfeffkjmjkddnaa
open Go.ChangeShapes Go.WideShapes Go.ChangeAt Go.RowKit Go.Lib Go.Proofs Go.PlainAid
set_option linter.unusedVariables false

/-- One grade more. -/
def bump (cs : List Int) (n : Int) : List Int := cs.set (n + 5).toNat (it cs (n + 5).toNat + 1)
def cgRow (cs l : List Int) : Nat → List Int
  | 0 => cs
  | j + 1 => bump (cgRow cs l j) (it l j)
def cgTo (g : List (List Int)) : Nat → List Int
  | 0 => List.replicate 11 0
  | i + 1 => cgRow (cgTo g i) (it g i) (it g i).length
theorem cgRow_len (cs l : List Int) : ∀ j, (cgRow cs l j).length = cs.length
  | 0 => rfl
  | j + 1 => by rw [cgRow, bump, List.length_set, cgRow_len cs l j]
theorem cgTo_len (g : List (List Int)) : ∀ i, (cgTo g i).length = 11
  | 0 => by simp [cgTo]
  | i + 1 => by rw [cgTo, cgRow_len, cgTo_len g i]
/-- Counts between 0 and a number. -/
def CgIn (cs : List Int) (M : Nat) : Prop := ∀ k, k < cs.length → 0 ≤ it cs k ∧ it cs k ≤ (M : Int)
theorem bump_in {cs : List Int} {M : Nat} (h : CgIn cs M) (n : Int) : CgIn (bump cs n) (M + 1) := fun k hk => by
  unfold bump at hk ⊢
  rw [List.length_set] at hk
  by_cases hn : (n + 5).toNat < cs.length
  · rw [it_set _ _ _ _ hn]
    by_cases e : k = (n + 5).toNat
    · rw [if_pos e]
      have := h _ hn
      omega
    · rw [if_neg e]
      have := h k hk
      omega
  · rw [List.set_eq_of_length_le (by omega)]
    have := h k hk
    omega
theorem cgRow_in {cs l : List Int} {M : Nat} (h : CgIn cs M) : ∀ j, CgIn (cgRow cs l j) (M + j)
  | 0 => h
  | j + 1 => by
    have := bump_in (cgRow_in (l := l) h j) (it l j)
    exact this
theorem cgTo_in {g : List (List Int)} : ∀ i, (∀ k, k < i → (it g k).length ≤ 9) → CgIn (cgTo g i) (9 * i)
  | 0, _ => fun k hk => by
    rw [cgTo_len] at hk
    have : it (cgTo g 0) k = 0 := by
      unfold cgTo it
      rw [List.getD_eq_getElem?_getD, List.getElem?_replicate, if_pos hk]
      rfl
    omega
  | i + 1, h => fun k hk => by
    have h1 := cgRow_in (l := it g i) (cgTo_in i (fun k hk => h k (by omega))) (it g i).length k (by rw [cgTo] at hk; exact hk)
    have h2 := h i (by omega)
    rw [cgTo]
    omega
noncomputable def cgF (g c : List (List Int)) : List Int := pIf (MkL g c) (cgTo g g.length) []
theorem cgF_yes {g c : List (List Int)} (h : MkL g c) : cgF g c = cgTo g g.length := pIf_yes h
theorem cgF_no {g c : List (List Int)} (h : ¬ MkL g c) : cgF g c = [] := pIf_no h
theorem cgF_small (g c : List (List Int)) : (cgF g c).length ≤ 1000 := by
  by_cases h : MkL g c
  · rw [cgF_yes h, cgTo_len]
    omega
  · rw [cgF_no h]
    exact Nat.zero_le _
set_option maxHeartbeats 4000000 in
set_option maxRecDepth 20000 in
theorem sCountGrades_any (x : Mr) (w : World) (hr : MrIn w w.heap.size x) (hl : MrFits x) :
    Calls Try.prog 37 #[x.val] w fun e w' => (∃ y : Rw Int, e = .returned (.tuple #[.slice y.A y.xs.length y.c, .bool (pB (MkL (ctt x.G) (ctt x.C)))]) ∧ IntsAns (cgF (ctt x.G) (ctt x.C)) w w' y) ∧ Below w.heap.size w w' := by
  have hb0 := below_alloc w (.cells #[.slice x.G.A x.G.xs.length x.G.c, .slice x.C.A x.C.xs.length x.C.c] 27)
  have HB0 := Lib.hid hb0
  have HR := Lib.hid (hr.next hb0)
  have HF := Lib.hid hl
  have HX := Lib.hid (mrBox_new w 27 x)
  have hg1 := nfit_len hl.g
  have HC := Lib.hid (mkAll_any x _ (hr.next hb0) hl)
  clear hr hl hb0
  unfold Mr.val at HC ⊢
  by_cases h1 : MkL (ctt x.G) (ctt x.C)
  rotate_left
  · rw [pB_no h1] at HC ⊢
    rw [cgF_no h1]
    clear h1
    go_enter Try.func37, Try.ntmps37
    go_wp2_with (go_at_call 46; refine HC.out.mono ?_; rintro e w1 ⟨rfl, hb1⟩; have HB1 := Lib.hid (below_next HB0.out hb1); clear hb1)
    go_returns
    exact ⟨⟨⟨none, 0, []⟩, rfl, rfl, Owned.nil _ _ _⟩, HB1.out⟩
  rw [pB_yes h1] at HC ⊢
  rw [cgF_yes h1]
  have HK := Lib.hid h1
  clear h1
  obtain ⟨i0, hi, hz0, hz1, hz2⟩ := info_parts Try.infoInt
  have HZ := Lib.hid (made_flat (α := Int) #[.int .i64 0] 0 11 rfl (by decide))
  go_enter Try.func37, Try.ntmps37
  go_wp2_with (first
    | (go_at_call 46; refine HC.out.mono ?_; rintro e w1 ⟨rfl, hb1⟩; have HB1 := Lib.hid (below_next HB0.out hb1); have HX1 := Lib.hid (HX.out.next hb1); have HR1 := Lib.hid (HR.out.next hb1); clear hb1)
    | (at_make; refine wpList_make_full _ rfl (.const (.int .i64 11)) (.const (.int .i64 11)) 34 rfl w1.heap.size 3 i0 (.int .i64 0) 1 Try.underlying34 hi hz0 hz1 .i64 .i64 _ _ 11 rfl rfl rfl rfl (by rw [hz2]; omega) (by unfold maxLen; omega) (Nat.le_refl _) ?_; intro w2 hown hgrow; have HW := Lib.hid (show OwnAt w2 w1.heap.size 0 (cgTo (ctt x.G) 0) from own_of_row (α := Int) (cap := 11) (e := 3) (base := w1.heap.size) _ (by rw [show cgTo (ctt x.G) 0 = List.replicate 11 0 from rfl, ← HZ.out, List.length_replicate]; exact hown)); have HL2 := Lib.hid (show Below w1.heap.size w1 w2 from (Below.refl _ _).grown hgrow (Nat.le_refl _) (fun k e => by cases e)); have hs2 := (hown.lt w1.heap.size rfl).2; obtain ⟨x0, x1, xf⟩ := (HX1.out.next HL2.out).mem; clear hown hgrow))
  have HB2 := Lib.hid (below_next HB1.out HL2.out)
  have HR2 := Lib.hid (HR1.out.next HL2.out)
  clear x0 x1 xf HZ
  go_loopw [16] (fun i wr => ∃ k : Nat, k ≤ x.G.xs.length ∧ i = .int .i64 k ∧ Hid (OwnAt wr w1.heap.size 0 (cgTo (ctt x.G) k)) ∧ Hid (Only (fun i => i = w1.heap.size) w2 wr)) (fun i _ => x.G.xs.length - (intOf i).toNat)
  case atStart => exact ⟨0, Nat.zero_le _, rfl, HW, Lib.hid (Only.refl _ _)⟩
  case round =>
    obtain ⟨k, hk, rfl, HO, HN⟩ := hrel
    by_cases hlt : k < x.G.xs.length
    · have HBB := Lib.hid (HN.out.below (B := w1.heap.size) (Nat.le_of_lt hs2) (fun i hi => Nat.le_of_eq hi.symm))
      obtain ⟨b', o', hA', hbl', hc'⟩ := mr_cell HR1.out.g (by omega)
      have hck := (HBB.out.cell (p := ⟨b', o' + k, none⟩) hbl').trans ((HL2.out.cell (p := ⟨b', o' + k, none⟩) hbl').trans (hc' k hlt))
      have hrv := HK.out.gs k (by rw [ctt_len]; exact hlt)
      rw [ctt_it] at hrv
      have HRV := Lib.hid hrv
      have hl9 : (it x.G.xs k).xs.length ≤ 9 := by have := hrv.len; have := HK.out.j9; omega
      have hl0 : 0 < (it x.G.xs k).xs.length := by have := hrv.len; have := HK.out.j3; omega
      obtain ⟨b, o, hA, hbl, hc⟩ := (show Lst w1 w1.heap.size (it x.G.xs k).A (it x.G.xs k).xs from mr_each HR1.out.g k hlt).int hl0
      have HCL := Lib.hid (fun j hj => (HL2.out.cell (p := ⟨b, o + j, none⟩) hbl).trans (hc j hj))
      have HCI := Lib.hid (cgTo_in (g := ctt x.G) k (fun m hm => by
        have h1 := (HK.out.gs m (by rw [ctt_len]; omega)).len
        have h2 := HK.out.j9
        omega))
      rw [hA']
      rw [hA] at hck
      clear hc' hA' hc hA hrv
      have h14 : k ≤ 14 := by have := HK.out.few; rw [ctt_len] at this; omega
      have HG0 := Lib.hid (ctt_it x.G k)
      go_wp2_with fail
      clear hck
      obtain ⟨wo, hwo⟩ : ∃ wo : World, wo = wr := ⟨_, rfl⟩
      rw [← hwo] at HO HN HBB
      subst hwo
      go_loopw [22] (fun i w3 => ∃ j : Nat, j ≤ (it x.G.xs k).xs.length ∧ i = .int .i64 j ∧ Hid (OwnAt w3 w1.heap.size 0 (cgRow (cgTo (ctt x.G) k) (it x.G.xs k).xs j)) ∧ Hid (Only (fun i => i = w1.heap.size) w2 w3)) (fun i _ => (it x.G.xs k).xs.length - (intOf i).toNat)
      case atStart => exact ⟨0, Nat.zero_le _, rfl, HO, HN⟩
      case round =>
        obtain ⟨j, hj, rfl, HO3, HN3⟩ := hrel
        by_cases hjl : j < (it x.G.xs k).xs.length
        · have HB3 := Lib.hid (HN3.out.below (B := w1.heap.size) (Nat.le_of_lt hs2) (fun i hi => Nat.le_of_eq hi.symm))
          have hcj := (HB3.out.cell (p := ⟨b, o + j, none⟩) hbl).trans (HCL.out j hjl)
          obtain ⟨n, hn, hn11⟩ : ∃ n : Nat, it (it x.G.xs k).xs j = (n : Int) - 5 ∧ n < 11 := ⟨(it (it x.G.xs k).xs j + 5).toNat, by have := HRV.out.each j hjl; unfold GdOk at this; omega, by have := HRV.out.each j hjl; unfold GdOk at this; omega⟩
          have hcl := cgRow_len (cgTo (ctt x.G) k) (it x.G.xs k).xs j
          rw [cgTo_len] at hcl
          obtain ⟨d0, f0⟩ := HO3.out.int0 n (by omega)
          have hin := cgRow_in (l := (it x.G.xs k).xs) HCI.out j n (by omega)
          have HOP := Lib.hid (HO3.out.putInt0 n (it (cgRow (cgTo (ctt x.G) k) (it x.G.xs k).xs j) n + 1) (by omega))
          have HBU := Lib.hid (show (cgRow (cgTo (ctt x.G) k) (it x.G.xs k).xs j).set n (it (cgRow (cgTo (ctt x.G) k) (it x.G.xs k).xs j) n + 1) = cgRow (cgTo (ctt x.G) k) (it x.G.xs k).xs (j + 1) by
            rw [cgRow, bump, hn, show ((n : Int) - 5 + 5).toNat = n by omega])
          generalize hv : it (cgRow (cgTo (ctt x.G) k) (it x.G.xs k).xs j) n = v at d0 hin HOP HBU
          rw [hn] at hcj
          clear hn hv hcl
          have he : (n : Int) - 5 + 5 = (n : Int) := by omega
          have hi1 : (0 : Int) ≤ (n : Int) := by omega
          have hi2 : (n : Int) < 11 := by omega
          have hq1 := hin.1
          have hq2 : v ≤ 1000 := by omega
          clear hin
          go_wp2
          go_roundw
          case rel => exact ⟨j + 1, by omega, by go_num, by rw [← HBU.out]; exact HOP, Lib.hid (HN3.out.setCell (S := fun i => i = w1.heap.size) rfl _)⟩
          case measure => simp [intOf]; omega
        · obtain rfl : j = (it x.G.xs k).xs.length := by omega
          have HOE := Lib.hid (show cgRow (cgTo (ctt x.G) k) (it x.G.xs k).xs (it x.G.xs k).xs.length = cgTo (ctt x.G) (k + 1) by rw [cgTo, HG0.out])
          rw [HOE.out] at HO3
          go_wp2
          go_roundw
          case rel => exact ⟨k + 1, by omega, by go_num, HO3, HN3⟩
          case measure => simp [intOf]; omega
    · obtain rfl : k = x.G.xs.length := by omega
      have HE := Lib.hid (show Value.int .i64 11 = .int .i64 ((cgTo (ctt x.G) (ctt x.G).length).length : Int) by rw [cgTo_len]; rfl)
      have hs3 := HN.out.size
      go_wp2
      go_returns
      refine ⟨⟨⟨some ⟨w1.heap.size, 0, none⟩, 11, cgTo (ctt x.G) (ctt x.G).length⟩, ?_, rfl, fun _ => ⟨w1.heap.size, 0, rfl, ⟨HB1.out.size, by omega⟩, by omega, by rw [ctt_len]; exact HO.out⟩⟩, ?_⟩
      · show Ending.returned (.tuple #[.slice _ 11 _, _]) = Ending.returned (.tuple #[.slice _ (cgTo (ctt x.G) (ctt x.G).length).length _, _])
        rw [cgTo_len]
        rfl
      · exact HB2.out.trans (HN.out.below (by have := HB2.out.size; omega) (fun i hi => by have := HB1.out.size; omega))
set_option maxHeartbeats 4000000 in
set_option maxRecDepth 20000 in
theorem iCountGrades_any (x : Mr) (w : World) (hr : MrIn w w.heap.size x) (hl : MrFits x) :
    Calls Try.prog 38 #[x.val] w fun e w' => (∃ y : Rw Int, e = .returned (.tuple #[.slice y.A y.xs.length y.c, .bool (pB (MkL (ctt x.G) (ctt x.C)))]) ∧ IntsAns (cgF (ctt x.G) (ctt x.C)) w w' y) ∧ Below w.heap.size w w' := by
  have hb0 := below_alloc w (.cells #[.slice x.G.A x.G.xs.length x.G.c, .slice x.C.A x.C.xs.length x.C.c] 27)
  have HB0 := Lib.hid hb0
  have HR := Lib.hid (hr.next hb0)
  have HF := Lib.hid hl
  have HX := Lib.hid (mrBox_new w 27 x)
  have hg1 := nfit_len hl.g
  have HC := Lib.hid (iAreMarks_any x (x.G.xs.length : Int) _ (hr.next hb0) hl)
  have HNN := Lib.hid (show pB (MkN (ctt x.G) (ctt x.C) x.G.xs.length) = pB (MkL (ctt x.G) (ctt x.C)) from pB_iff ⟨fun h => h.ok, fun h => ⟨h, by rw [ctt_len]⟩⟩)
  rw [HNN.out] at HC
  clear hr hl hb0
  unfold Mr.val at HC ⊢
  by_cases h1 : MkL (ctt x.G) (ctt x.C)
  rotate_left
  · rw [pB_no h1] at HC ⊢
    rw [cgF_no h1]
    clear h1
    go_enter Try.func38, Try.ntmps38
    go_wp2_with (go_at_call 15; refine HC.out.mono ?_; rintro e w1 ⟨rfl, hb1⟩; have HB1 := Lib.hid (below_next HB0.out hb1); clear hb1)
    go_returns
    exact ⟨⟨⟨none, 0, []⟩, rfl, rfl, Owned.nil _ _ _⟩, HB1.out⟩
  rw [pB_yes h1] at HC ⊢
  rw [cgF_yes h1]
  have HK := Lib.hid h1
  clear h1
  obtain ⟨i0, hi, hz0, hz1, hz2⟩ := info_parts Try.infoInt
  have HZ := Lib.hid (made_flat (α := Int) #[.int .i64 0] 0 11 rfl (by decide))
  go_enter Try.func38, Try.ntmps38
  go_wp2_with (first
    | (go_at_call 15; refine HC.out.mono ?_; rintro e w1 ⟨rfl, hb1⟩; have HB1 := Lib.hid (below_next HB0.out hb1); have HX1 := Lib.hid (HX.out.next hb1); have HR1 := Lib.hid (HR.out.next hb1); clear hb1)
    | (at_make; refine wpList_make_full _ rfl (.const (.int .i64 11)) (.const (.int .i64 11)) 34 rfl w1.heap.size 3 i0 (.int .i64 0) 1 Try.underlying34 hi hz0 hz1 .i64 .i64 _ _ 11 rfl rfl rfl rfl (by rw [hz2]; omega) (by unfold maxLen; omega) (Nat.le_refl _) ?_; intro w2 hown hgrow; have HW := Lib.hid (show OwnAt w2 w1.heap.size 0 (cgTo (ctt x.G) 0) from own_of_row (α := Int) (cap := 11) (e := 3) (base := w1.heap.size) _ (by rw [show cgTo (ctt x.G) 0 = List.replicate 11 0 from rfl, ← HZ.out, List.length_replicate]; exact hown)); have HL2 := Lib.hid (show Below w1.heap.size w1 w2 from (Below.refl _ _).grown hgrow (Nat.le_refl _) (fun k e => by cases e)); have hs2 := (hown.lt w1.heap.size rfl).2; obtain ⟨x0, x1, xf⟩ := (HX1.out.next HL2.out).mem; clear hown hgrow))
  have HB2 := Lib.hid (below_next HB1.out HL2.out)
  have HR2 := Lib.hid (HR1.out.next HL2.out)
  clear x0 x1 xf HZ
  go_loopw [19] (fun i wr => ∃ k : Nat, k ≤ x.G.xs.length ∧ i = .int .i64 k ∧ Hid (OwnAt wr w1.heap.size 0 (cgTo (ctt x.G) k)) ∧ Hid (Only (fun i => i = w1.heap.size) w2 wr)) (fun i _ => x.G.xs.length - (intOf i).toNat)
  case atStart => exact ⟨0, Nat.zero_le _, rfl, HW, Lib.hid (Only.refl _ _)⟩
  case round =>
    obtain ⟨k, hk, rfl, HO, HN⟩ := hrel
    by_cases hlt : k < x.G.xs.length
    · have HBB := Lib.hid (HN.out.below (B := w1.heap.size) (Nat.le_of_lt hs2) (fun i hi => Nat.le_of_eq hi.symm))
      obtain ⟨b', o', hA', hbl', hc'⟩ := mr_cell HR1.out.g (by omega)
      have hck := (HBB.out.cell (p := ⟨b', o' + k, none⟩) hbl').trans ((HL2.out.cell (p := ⟨b', o' + k, none⟩) hbl').trans (hc' k hlt))
      have hrv := HK.out.gs k (by rw [ctt_len]; exact hlt)
      rw [ctt_it] at hrv
      have HRV := Lib.hid hrv
      have hl9 : (it x.G.xs k).xs.length ≤ 9 := by have := hrv.len; have := HK.out.j9; omega
      have hl0 : 0 < (it x.G.xs k).xs.length := by have := hrv.len; have := HK.out.j3; omega
      obtain ⟨b, o, hA, hbl, hc⟩ := (show Lst w1 w1.heap.size (it x.G.xs k).A (it x.G.xs k).xs from mr_each HR1.out.g k hlt).int hl0
      have HCL := Lib.hid (fun j hj => (HL2.out.cell (p := ⟨b, o + j, none⟩) hbl).trans (hc j hj))
      have HCI := Lib.hid (cgTo_in (g := ctt x.G) k (fun m hm => by
        have h1 := (HK.out.gs m (by rw [ctt_len]; omega)).len
        have h2 := HK.out.j9
        omega))
      rw [hA']
      rw [hA] at hck
      clear hc' hA' hc hA hrv
      have h14 : k ≤ 14 := by have := HK.out.few; rw [ctt_len] at this; omega
      have HG0 := Lib.hid (ctt_it x.G k)
      go_wp2_with fail
      clear hck
      obtain ⟨wo, hwo⟩ : ∃ wo : World, wo = wr := ⟨_, rfl⟩
      rw [← hwo] at HO HN HBB
      subst hwo
      go_loopw [25] (fun i w3 => ∃ j : Nat, j ≤ (it x.G.xs k).xs.length ∧ i = .int .i64 j ∧ Hid (OwnAt w3 w1.heap.size 0 (cgRow (cgTo (ctt x.G) k) (it x.G.xs k).xs j)) ∧ Hid (Only (fun i => i = w1.heap.size) w2 w3)) (fun i _ => (it x.G.xs k).xs.length - (intOf i).toNat)
      case atStart => exact ⟨0, Nat.zero_le _, rfl, HO, HN⟩
      case round =>
        obtain ⟨j, hj, rfl, HO3, HN3⟩ := hrel
        by_cases hjl : j < (it x.G.xs k).xs.length
        · have HB3 := Lib.hid (HN3.out.below (B := w1.heap.size) (Nat.le_of_lt hs2) (fun i hi => Nat.le_of_eq hi.symm))
          have hcj := (HB3.out.cell (p := ⟨b, o + j, none⟩) hbl).trans (HCL.out j hjl)
          obtain ⟨n, hn, hn11⟩ : ∃ n : Nat, it (it x.G.xs k).xs j = (n : Int) - 5 ∧ n < 11 := ⟨(it (it x.G.xs k).xs j + 5).toNat, by have := HRV.out.each j hjl; unfold GdOk at this; omega, by have := HRV.out.each j hjl; unfold GdOk at this; omega⟩
          have hcl := cgRow_len (cgTo (ctt x.G) k) (it x.G.xs k).xs j
          rw [cgTo_len] at hcl
          obtain ⟨d0, f0⟩ := HO3.out.int0 n (by omega)
          have hin := cgRow_in (l := (it x.G.xs k).xs) HCI.out j n (by omega)
          have HOP := Lib.hid (HO3.out.putInt0 n (it (cgRow (cgTo (ctt x.G) k) (it x.G.xs k).xs j) n + 1) (by omega))
          have HBU := Lib.hid (show (cgRow (cgTo (ctt x.G) k) (it x.G.xs k).xs j).set n (it (cgRow (cgTo (ctt x.G) k) (it x.G.xs k).xs j) n + 1) = cgRow (cgTo (ctt x.G) k) (it x.G.xs k).xs (j + 1) by
            rw [cgRow, bump, hn, show ((n : Int) - 5 + 5).toNat = n by omega])
          generalize hv : it (cgRow (cgTo (ctt x.G) k) (it x.G.xs k).xs j) n = v at d0 hin HOP HBU
          rw [hn] at hcj
          clear hn hv hcl
          have he : (n : Int) - 5 - -5 = (n : Int) := by omega
          have hi1 : (0 : Int) ≤ (n : Int) := by omega
          have hi2 : (n : Int) < 11 := by omega
          have hq1 := hin.1
          have hq2 : v ≤ 1000 := by omega
          clear hin
          go_wp2
          go_roundw
          case rel => exact ⟨j + 1, by omega, by go_num, by rw [← HBU.out]; exact HOP, Lib.hid (HN3.out.setCell (S := fun i => i = w1.heap.size) rfl _)⟩
          case measure => simp [intOf]; omega
        · obtain rfl : j = (it x.G.xs k).xs.length := by omega
          have HOE := Lib.hid (show cgRow (cgTo (ctt x.G) k) (it x.G.xs k).xs (it x.G.xs k).xs.length = cgTo (ctt x.G) (k + 1) by rw [cgTo, HG0.out])
          rw [HOE.out] at HO3
          go_wp2
          go_roundw
          case rel => exact ⟨k + 1, by omega, by go_num, HO3, HN3⟩
          case measure => simp [intOf]; omega
    · obtain rfl : k = x.G.xs.length := by omega
      have HE := Lib.hid (show Value.int .i64 11 = .int .i64 ((cgTo (ctt x.G) (ctt x.G).length).length : Int) by rw [cgTo_len]; rfl)
      have hs3 := HN.out.size
      go_wp2
      go_returns
      refine ⟨⟨⟨some ⟨w1.heap.size, 0, none⟩, 11, cgTo (ctt x.G) (ctt x.G).length⟩, ?_, rfl, fun _ => ⟨w1.heap.size, 0, rfl, ⟨HB1.out.size, by omega⟩, by omega, by rw [ctt_len]; exact HO.out⟩⟩, ?_⟩
      · show Ending.returned (.tuple #[.slice _ 11 _, _]) = Ending.returned (.tuple #[.slice _ (cgTo (ctt x.G) (ctt x.G).length).length _, _])
        rw [cgTo_len]
        rfl
      · exact HB2.out.trans (HN.out.below (by have := HB2.out.size; omega) (fun i hi => by have := HB1.out.size; omega))
end Go.Proofs.Ytfeffkjmjkddnaa
