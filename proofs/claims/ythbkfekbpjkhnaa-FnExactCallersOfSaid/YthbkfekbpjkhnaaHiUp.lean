/- CallersOf of the program. -/
import Derived.Test.YthbkfekbpjkhnaaHiU
import Derived.Deep.RegionHeld3
namespace Go.Proofs.Ythbkfekbpjkhnaa
open Go.ChangeShapes Go.WideShapes Go.ChangeAt Go.RowKit Go.Lib Go.Proofs Go.PlainAid
set_option linter.unusedVariables false

theorem srtI_at (zs : List Int) : (srtI zs).length = zs.length := srtI_len zs
theorem irow_own {w : World} {B g : Nat} {V : List Int} (h : IRow w g V) (hB : B ≤ g) (hg : g < w.heap.size) : Owned (fun i => B ≤ i ∧ i < w.heap.size) w (some ⟨g, 0, none⟩) V := fun _ => ⟨g, 0, rfl, ⟨hB, hg⟩, hg, h.own⟩
set_option maxHeartbeats 2000000 in
set_option maxRecDepth 100000 in
theorem iCallersOf_a (P : Option Addr) (c : Nat) (xs : List Im) (A : Option Addr) (ch : Nat) (hs : List Cg) (i n : Int) (w : World) (hr : Ims w w.heap.size P xs) (hl : ImsFits xs) (hg : Lst w w.heap.size A hs) (hgl : hs.length ≤ 1048576) (hcap : hs.length ≤ ch ∧ ch ≤ 9223372036854775807) :
    Calls Try.prog 36 #[.slice P xs.length c, .slice A hs.length ch, .int .i64 i, .int .i64 n] w (IntAns w (coF xs hs i n) (CoOk xs hs i n)) := by
  have HA := Lib.hid (recordsOf_any P c xs A ch hs w hr hl hg hgl hcap)
  have HR := Lib.hid hr
  have HG := Lib.hid hg
  obtain ⟨i0, hi, hz0, hz1, hz2⟩ := info_parts Try.infoInt
  have HZ := Lib.hid (And.intro hi (And.intro hz0 (And.intro hz1 hz2)))
  have HNA := Lib.hid (fun W (h : Ims W W.heap.size P xs) => (hasNameAt_any P c xs i n W h hl).mono fun _ _ q => And.intro q.1 q.2.symm)
  clear hr hl hg hcap hi hz0 hz1 hz2
  by_cases hok : HiOk xs hs
  rotate_left
  · have hn : ¬ CoOk xs hs i n := fun h => hok h.1
    have HV := Lib.hid (And.intro hn (coF_no hn))
    rw [pB_no hok] at HA
    clear hok hn
    go_enter Try.func36, Try.ntmps36
    go_wp2_with fail
    refine HA.out.mono ?_
    rintro e w1 ⟨⟨R, d, rs, rfl, _⟩, hb1⟩
    have HB1 := Lib.hid hb1
    clear hb1 HA
    go_wp2
    go_returns
    exact intAns_no HV.out.1 HV.out.2 HB1.out
  rw [pB_yes hok] at HA
  by_cases hnm : NmAt xs i n
  rotate_left
  · have hn : ¬ CoOk xs hs i n := fun h => hnm h.2
    have HV := Lib.hid (And.intro hn (coF_no hn))
    rw [pB_no hnm] at HNA
    clear hok hnm hn
    go_enter Try.func36, Try.ntmps36
    go_wp2_with fail
    refine HA.out.mono ?_
    rintro e w1 ⟨⟨R, d, rs, rfl, _⟩, hb1⟩
    have HB1 := Lib.hid hb1
    clear hb1 HA
    go_wp2_with (go_at_call 66; refine (HNA.out _ (HR.out.next HB1.out)).mono ?_; rintro e w2 ⟨rfl, rfl⟩)
    go_returns
    exact intAns_no HV.out.1 HV.out.2 HB1.out
  rw [pB_yes hnm] at HNA
  have hy : CoOk xs hs i n := ⟨hok, hnm⟩
  have HV := Lib.hid (And.intro hy (coF_yes hy))
  have h60 := hok.2.few
  have HCL := Lib.hid (fun k => caTo_len hs i n k)
  clear hok hnm hy
  go_enter Try.func36, Try.ntmps36
  go_wp2_with fail
  refine HA.out.mono ?_
  rintro e w1 ⟨⟨R, d, rs, rfl, _⟩, hb1⟩
  have HB1 := Lib.hid hb1
  clear hb1 HA
  go_wp2_with (go_at_call 66; refine (HNA.out _ (HR.out.next HB1.out)).mono ?_; rintro e w2 ⟨rfl, rfl⟩)
  go_loopw [12, 32] (fun v q wr => ∃ k : Nat, k ≤ hs.length ∧ q = .int .i64 k ∧ Hid (wr.ownsRow w.heap.size 3 1 v (caTo hs i n k).length ((caTo hs i n k).map (Value.int .i64))) ∧ Hid (Below w.heap.size w wr)) (fun _ q _ => hs.length - (intOf q).toNat)
  case atStart => exact ⟨0, Nat.zero_le _, rfl, Lib.hid ⟨rfl, .inl ⟨rfl, rfl⟩⟩, HB1⟩
  case round =>
    obtain ⟨k, hk, rfl, HO, HB⟩ := hrel
    have hkl := HCL.out k
    by_cases hlt : k < hs.length
    · obtain ⟨b, o, rfl, hbl, hcc⟩ := (HG.out.below HB.out (Nat.le_refl _)).cg (by omega)
      obtain ⟨c0, c1, c2, c3, c4, c5⟩ := hcc k hlt
      have hi1 : (0 : Int) ≤ (k : Int) := by omega
      have hi2 : (k : Int) < (hs.length : Int) := by omega
      clear hcc hbl
      by_cases hm : (it hs k).item = i ∧ (it hs k).name = n
      · have HE := Lib.hid (caTo_hit hm.1 hm.2)
        rw [hm.1] at c2
        rw [hm.2] at c3
        clear hm
        go_wp2_with (at_builtin; refine wpList_append_src _ rfl (.tmp 46) (.tmp 49) 53 rfl w.heap.size 3 i0 (.int .i64 0) 8 Try.underlying53 HZ.out.1 HZ.out.2.1 HZ.out.2.2.1 HZ.out.2.2.2 rfl _ (caTo hs i n k).length ((caTo hs i n k).map (Value.int .i64)) rfl (own_next HO.out (by go_grown)) (some ⟨wr.heap.size + 1, 0, none⟩) 1 1 [.int .i64 (it hs k).caller] rfl rfl (fun _ => ⟨_, rfl, one_newsI (by simp)⟩) (by intro y hy; simp at hy; subst hy; rfl) (by unfold maxLen; omega) (by omega) (by have := HB.out.size; simp; omega) ?_; intro v1 w4 hown hgrow hat; have HB4 := Lib.hid (Below.grown (Below_next HB.out (show Below wr.heap.size wr _ from by go_grown)) hgrow (by have := HB.out.size; simp; omega) (fun m e => (HO.out.lt m e).1)); have HO4 := Lib.hid hown; clear hown hgrow hat)
        have HO5 := Lib.hid (show w4.ownsRow w.heap.size 3 1 v1 (caTo hs i n (k + 1)).length ((caTo hs i n (k + 1)).map (Value.int .i64)) from by
          rw [HE.out, List.length_append, List.map_append]
          exact HO4.out)
        go_roundw
        case rel => exact ⟨k + 1, by omega, by go_num, HO5, HB4⟩
        case measure => simp [intOf]; omega
      · have HE := Lib.hid (caTo_miss hm)
        by_cases hm1 : (it hs k).item = i
        · have hd : ((it hs k).name == n) = false := by simpa using fun e => hm ⟨hm1, e⟩
          rw [hm1] at c2
          clear hm hm1
          go_wp2
          go_roundw
          case rel => exact ⟨k + 1, by omega, by go_num, Lib.hid (by rw [HE.out]; exact own_next HO.out (by go_grown)), Lib.hid (Below_next HB.out (by go_grown))⟩
          case measure => simp [intOf]; omega
        · have hd : ((it hs k).item == i) = false := by simpa using hm1
          clear hm hm1
          go_wp2
          go_roundw
          case rel => exact ⟨k + 1, by omega, by go_num, Lib.hid (by rw [HE.out]; exact own_next HO.out (by go_grown)), Lib.hid (Below_next HB.out (by go_grown))⟩
          case measure => simp [intOf]; omega
    · obtain rfl : k = hs.length := by omega
      obtain ⟨zs, hzs⟩ : ∃ zs, zs = caTo hs i n hs.length := ⟨_, rfl⟩
      rw [← hzs] at HO HV hkl
      rcases Nat.eq_zero_or_pos zs.length with hz | hz
      · obtain rfl : zs = [] := List.eq_nil_of_length_eq_zero hz
        obtain ⟨AL, cL, hv, _, _⟩ := row_shape HO.out
        subst hv
        have HE := Lib.hid (show coF xs hs i n = [] by rw [HV.out.2]; exact List.eq_nil_of_length_eq_zero (by have := unqI_len ([] : List Int); simpa using this))
        clear hz hzs hkl
        go_wp2_with (first
          | (go_at_call 67; refine (Try.slices_Sort_int_none AL cL _).mono ?_; rintro e w5 ⟨rfl, hw⟩; obtain rfl := hw.symm)
          | (go_at_call 68; refine (Try.slices_Compact_int_empty AL cL _).mono ?_; rintro e w6 ⟨rfl, hw⟩; obtain rfl := hw.symm))
        go_returns
        exact intAns_yes (V := coF xs hs i n) (W := []) HV.out.1 HE.out (Owned.nil _ _ _) HB.out
      · obtain ⟨g, cap, hv, hg1, hg2⟩ := row_pos HO.out hz
        subst hv
        have HIR := Lib.hid (IRow.of_own HO.out)
        have HCP := Lib.hid (row_capI HO.out)
        have HE := Lib.hid (show coF xs hs i n = Lib.compact (srtI zs) from HV.out.2)
        have hz5 : zs.length ≤ 1048576 := by omega
        have HSL := Lib.hid (srtI_at zs)
        clear hz hzs hkl
        go_wp2_with (first
          | (go_at_call 67; refine (sortI_any g cap zs _ HIR.out hg2 hz5).mono ?_; rintro e w5 ⟨rfl, hir, hb5⟩; have HI5 := Lib.hid hir; have HB5 := Lib.hid (HB.out.trans (hb5.mono hg1)); have hg5 := Nat.lt_of_lt_of_le hg2 hb5.size; have HCM := Lib.hid (compactI_any g cap (srtI zs) w5 hir (by rw [HSL.out]; exact hz5) (by rw [HSL.out]; exact HCP.out)); rw [HSL.out] at HCM; clear hir hb5)
          | (go_at_call 68; refine HCM.out.mono ?_; rintro e w6 ⟨rfl, hir, hb6⟩; have HI6 := Lib.hid hir; have HB6 := Lib.hid (HB5.out.trans (hb6.mono hg1)); have hg6 := Nat.lt_of_lt_of_le hg5 hb6.size; clear hir hb6))
        go_returns
        exact intAns_yes HV.out.1 HE.out (irow_own HI6.out hg1 hg6) HB6.out
theorem iCallersOf_any (P : Option Addr) (c : Nat) (xs : List Im) (A : Option Addr) (ch : Nat) (hs : List Cg) (i n : Int) (w : World) (hr : Ims w w.heap.size P xs) (hl : ImsFits xs) (hg : Lst w w.heap.size A hs) (hgl : hs.length ≤ 1048576) (hcap : hs.length ≤ ch ∧ ch ≤ 9223372036854775807) :
    Calls Try.prog 36 #[.slice P xs.length c, .slice A hs.length ch, .int .i64 i, .int .i64 n] w fun e w' => (∃ R d, e = .returned (.tuple #[.slice R (coF xs hs i n).length d, .bool (pB (CoOk xs hs i n))]) ∧ Owned (fun i => w.heap.size ≤ i ∧ i < w'.heap.size) w' R (coF xs hs i n)) ∧ Below w.heap.size w w' :=
  (iCallersOf_a P c xs A ch hs i n w hr hl hg hgl hcap).mono fun _ _ h => h
theorem sCallersOf_any (P : Option Addr) (c : Nat) (xs : List Im) (A : Option Addr) (ch : Nat) (hs : List Cg) (i n : Int) (w : World) (hr : Ims w w.heap.size P xs) (hl : ImsFits xs) (hg : Lst w w.heap.size A hs) (hgl : hs.length ≤ 1048576) (hcap : hs.length ≤ ch ∧ ch ≤ 9223372036854775807) :
    Calls Try.prog 35 #[.slice P xs.length c, .slice A hs.length ch, .int .i64 i, .int .i64 n] w fun e w' => (∃ R d, e = .returned (.tuple #[.slice R (coF xs hs i n).length d, .bool (pB (CoOk xs hs i n))]) ∧ Owned (fun i => w.heap.size ≤ i ∧ i < w'.heap.size) w' R (coF xs hs i n)) ∧ Below w.heap.size w w' :=
  (sCallersOf_a P c xs A ch hs i n w hr hl hg hgl).mono fun _ _ h => h
end Go.Proofs.Ythbkfekbpjkhnaa
