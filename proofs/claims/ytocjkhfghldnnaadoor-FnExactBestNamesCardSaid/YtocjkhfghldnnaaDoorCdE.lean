/- Valid elements and limits, in the program and in the model. -/
import Derived.Test.YtocjkhfghldnnaaDoorCdN
import Derived.Test.YtocjkhfghldnnaaDoorTabC
import Derived.Test.YtocjkhfghldnnaaDoorCdA
namespace Go.Proofs.YtocjkhfghldnnaaDoor
open Go.ChangeShapes Go.WideShapes Go.ChangeAt Go.RowKit Go.PlainAid
set_option linter.unusedVariables false

theorem below_alloc (w : World) (o : Obj) : Below w.heap.size w (w.alloc o) := (Below.refl _ _).alloc (Nat.le_refl _) _
theorem cdElement_any (x : El) (w : World) (hx : x.name.size ≤ 1048576) :
    Calls Tryd.prog 46 #[x.val] w fun e w' => e = .returned (.bool (pB (ElOk x))) ∧ Below w.heap.size w w' := by
  have HX := Lib.hid hx
  clear hx
  by_cases hn : NameOk x.name
  · have HN := Lib.hid (pB_yes hn)
    by_cases h : (0 ≤ x.fam ∧ x.fam ≤ 4) ∧ (0 ≤ x.lev ∧ x.lev ≤ 4) ∧ (1 ≤ x.base ∧ x.base ≤ 2000)
    · have HV := Lib.hid (pB_yes (⟨hn, h.1, h.2.1, h.2.2⟩ : ElOk x))
      obtain ⟨⟨h1, h2⟩, ⟨h3, h4⟩, h5, h6⟩ := h
      clear hn
      unfold El.val
      go_enter Tryd.func46, Tryd.ntmps46
      go_wp2_with (first | (go_at_call 66; refine (cdName_any x.name _ HX.out).mono ?_; rintro e w2 ⟨he, rfl⟩; rw [HN.out] at he; subst he) | (go_at_call 47; first | (refine (l1In_yes _ _ _ _ (by omega) (by omega)).mono ?_; rintro e w2 ⟨rfl, rfl⟩) | (refine (l1In_no _ _ _ _ (by omega)).mono ?_; rintro e w2 ⟨rfl, rfl⟩)))
      go_ret
      exact ⟨by rw [HV.out]; rfl, (Below.refl _ _).alloc (Nat.le_refl _) _⟩
    · have HV := Lib.hid (pB_no (fun k : ElOk x => h ⟨k.fam, k.lev, k.base⟩))
      have h' : ¬ (0 ≤ x.fam ∧ x.fam ≤ 4) ∨ (0 ≤ x.fam ∧ x.fam ≤ 4) ∧ ¬ (0 ≤ x.lev ∧ x.lev ≤ 4) ∨ (0 ≤ x.fam ∧ x.fam ≤ 4) ∧ (0 ≤ x.lev ∧ x.lev ≤ 4) ∧ ¬ (1 ≤ x.base ∧ x.base ≤ 2000) := by omega
      clear h hn
      unfold El.val
      rcases h' with h | ⟨h1, h⟩ | ⟨h1, h2, h⟩
      all_goals
        go_enter Tryd.func46, Tryd.ntmps46
        go_wp2_with (first | (go_at_call 66; refine (cdName_any x.name _ HX.out).mono ?_; rintro e w2 ⟨he, rfl⟩; rw [HN.out] at he; subst he) | (go_at_call 47; first | (refine (l1In_yes _ _ _ _ (by omega) (by omega)).mono ?_; rintro e w2 ⟨rfl, rfl⟩) | (refine (l1In_no _ _ _ _ (by omega)).mono ?_; rintro e w2 ⟨rfl, rfl⟩)))
        go_ret
        exact ⟨by rw [HV.out]; rfl, (Below.refl _ _).alloc (Nat.le_refl _) _⟩
  · have HN := Lib.hid (pB_no hn)
    have HV := Lib.hid (pB_no (fun k : ElOk x => hn k.name))
    clear hn
    unfold El.val
    go_enter Tryd.func46, Tryd.ntmps46
    go_wp2_with (first | (go_at_call 66; refine (cdName_any x.name _ HX.out).mono ?_; rintro e w2 ⟨he, rfl⟩; rw [HN.out] at he; subst he) | (go_at_call 47; first | (refine (l1In_yes _ _ _ _ (by omega) (by omega)).mono ?_; rintro e w2 ⟨rfl, rfl⟩) | (refine (l1In_no _ _ _ _ (by omega)).mono ?_; rintro e w2 ⟨rfl, rfl⟩)))
    go_ret
    exact ⟨by rw [HV.out]; rfl, (Below.refl _ _).alloc (Nat.le_refl _) _⟩

theorem bound_at (k : Nat) (a b : Int) (h : boundRows[k]? = some (a, b)) : boundCells[k * 2]? = some (.int .i64 a) ∧ boundCells[k * 2 + 1]? = some (.int .i64 b) ∧ k < 9 := by
  have hk : k < boundRows.length := (List.getElem?_eq_some_iff.1 h).1
  have hi := it_get boundRows k hk
  rw [h] at hi
  have h0 := flat_get boundRows k 0 hk (by decide)
  have h1 := flat_get boundRows k 1 hk (by decide)
  rw [← Option.some.inj hi] at h0 h1
  exact ⟨h0, h1, hk⟩
theorem inBounds_yes (kk a b n : Int) (w : World) (ht : Tab w) (h0 : 0 ≤ kk) (hrow : boundRows[kk.toNat]? = some (a, b)) (h1 : a ≤ n) (h2 : n ≤ b) :
    Calls Tryd.prog 54 #[.int .i64 kk, .int .i64 n] w fun e w' => e = .returned (.bool true) ∧ w = w' := by
  obtain ⟨k, rfl⟩ : ∃ k : Nat, kk = k := ⟨kk.toNat, by omega⟩
  obtain ⟨b0, b1, hk⟩ := bound_at k a b hrow
  have c0 := ht.cell _ b0
  have c1 := ht.cell _ b1
  clear ht b0 b1 hrow
  go_enter Tryd.func54, Tryd.ntmps54
  go_wp2
  go_ret
  simp [*]
theorem inBounds_no (kk a b n : Int) (w : World) (ht : Tab w) (h0 : 0 ≤ kk) (hrow : boundRows[kk.toNat]? = some (a, b)) (h : ¬ (a ≤ n ∧ n ≤ b)) :
    Calls Tryd.prog 54 #[.int .i64 kk, .int .i64 n] w fun e w' => e = .returned (.bool false) ∧ w = w' := by
  obtain ⟨k, rfl⟩ : ∃ k : Nat, kk = k := ⟨kk.toNat, by omega⟩
  obtain ⟨b0, b1, hk⟩ := bound_at k a b hrow
  have c0 := ht.cell _ b0
  have c1 := ht.cell _ b1
  clear ht b0 b1 hrow
  by_cases h1 : a ≤ n
  · have h2 : b < n := by omega
    go_enter Tryd.func54, Tryd.ntmps54
    go_wp2
    go_ret
    simp
    omega
  · have h2 : n < a := by omega
    go_enter Tryd.func54, Tryd.ntmps54
    go_wp2
    go_ret
    simp
theorem isElement_any (x : El) (w : World) (hx : x.name.size ≤ 1048576) (ht : Tab w) :
    Calls Tryd.prog 67 #[x.val] w fun e w' => e = .returned (.bool (pB (ElOk x))) ∧ Below w.heap.size w w' := by
  have HX := Lib.hid hx
  clear hx
  have HT := Lib.hid ht
  clear ht
  by_cases hn : NameOk x.name
  · have HN := Lib.hid (pB_yes hn)
    by_cases h : (0 ≤ x.fam ∧ x.fam ≤ 4) ∧ (0 ≤ x.lev ∧ x.lev ≤ 4) ∧ (1 ≤ x.base ∧ x.base ≤ 2000)
    · have HV := Lib.hid (pB_yes (⟨hn, h.1, h.2.1, h.2.2⟩ : ElOk x))
      obtain ⟨⟨h1, h2⟩, ⟨h3, h4⟩, h5, h6⟩ := h
      clear hn
      unfold El.val
      go_enter Tryd.func67, Tryd.ntmps67
      go_wp2_with (first | (go_at_call 87; refine (iName_any x.name _ HX.out).mono ?_; rintro e w2 ⟨he, rfl⟩; rw [HN.out] at he; subst he) | (go_at_call 54; first | (refine (inBounds_yes _ _ _ _ _ (HT.out.below (below_alloc _ _) (Nat.le_refl _)) (by omega) rfl (by omega) (by omega)).mono ?_; rintro e w2 ⟨rfl, rfl⟩) | (refine (inBounds_no _ _ _ _ _ (HT.out.below (below_alloc _ _) (Nat.le_refl _)) (by omega) rfl (by omega)).mono ?_; rintro e w2 ⟨rfl, rfl⟩)))
      go_ret
      exact ⟨by rw [HV.out]; rfl, (Below.refl _ _).alloc (Nat.le_refl _) _⟩
    · have HV := Lib.hid (pB_no (fun k : ElOk x => h ⟨k.fam, k.lev, k.base⟩))
      have h' : ¬ (0 ≤ x.fam ∧ x.fam ≤ 4) ∨ (0 ≤ x.fam ∧ x.fam ≤ 4) ∧ ¬ (0 ≤ x.lev ∧ x.lev ≤ 4) ∨ (0 ≤ x.fam ∧ x.fam ≤ 4) ∧ (0 ≤ x.lev ∧ x.lev ≤ 4) ∧ ¬ (1 ≤ x.base ∧ x.base ≤ 2000) := by omega
      clear h hn
      unfold El.val
      rcases h' with h | ⟨h1, h⟩ | ⟨h1, h2, h⟩
      all_goals
        go_enter Tryd.func67, Tryd.ntmps67
        go_wp2_with (first | (go_at_call 87; refine (iName_any x.name _ HX.out).mono ?_; rintro e w2 ⟨he, rfl⟩; rw [HN.out] at he; subst he) | (go_at_call 54; first | (refine (inBounds_yes _ _ _ _ _ (HT.out.below (below_alloc _ _) (Nat.le_refl _)) (by omega) rfl (by omega) (by omega)).mono ?_; rintro e w2 ⟨rfl, rfl⟩) | (refine (inBounds_no _ _ _ _ _ (HT.out.below (below_alloc _ _) (Nat.le_refl _)) (by omega) rfl (by omega)).mono ?_; rintro e w2 ⟨rfl, rfl⟩)))
        go_ret
        exact ⟨by rw [HV.out]; rfl, (Below.refl _ _).alloc (Nat.le_refl _) _⟩
  · have HN := Lib.hid (pB_no hn)
    have HV := Lib.hid (pB_no (fun k : ElOk x => hn k.name))
    clear hn
    unfold El.val
    go_enter Tryd.func67, Tryd.ntmps67
    go_wp2_with (first | (go_at_call 87; refine (iName_any x.name _ HX.out).mono ?_; rintro e w2 ⟨he, rfl⟩; rw [HN.out] at he; subst he) | (go_at_call 54; first | (refine (inBounds_yes _ _ _ _ _ (HT.out.below (below_alloc _ _) (Nat.le_refl _)) (by omega) rfl (by omega) (by omega)).mono ?_; rintro e w2 ⟨rfl, rfl⟩) | (refine (inBounds_no _ _ _ _ _ (HT.out.below (below_alloc _ _) (Nat.le_refl _)) (by omega) rfl (by omega)).mono ?_; rintro e w2 ⟨rfl, rfl⟩)))
    go_ret
    exact ⟨by rw [HV.out]; rfl, (Below.refl _ _).alloc (Nat.le_refl _) _⟩

theorem l1All_lims (A : Option Addr) (c : Nat) (xs : List Int) (w : World) (hr : Lst w w.heap.size A xs) (hl : xs.length ≤ 1048576) :
    Calls Tryd.prog 48 #[.slice A xs.length c, .int .i64 0, .int .i64 9] w fun e w' => e = .returned (.bool (pB (∀ i, i < xs.length → 0 ≤ it xs i ∧ it xs i ≤ 9))) ∧ w = w' := by
  have HR := Lib.hid hr
  clear hr
  go_enter Tryd.func48, Tryd.ntmps48
  go_wp2
  go_loop [11] (fun i => ∃ k : Nat, k ≤ xs.length ∧ i = .int .i64 k ∧ Hid (∀ j, j < k → 0 ≤ it xs j ∧ it xs j ≤ 9)) (fun i => xs.length - (intOf i).toNat)
  case atStart => exact ⟨0, Nat.zero_le _, rfl, Lib.hid (fun j hj => absurd hj (by omega))⟩
  case round =>
    obtain ⟨k, hk, rfl, HI⟩ := hrel
    by_cases hlt : k < xs.length
    · obtain ⟨b, o, rfl, hbl, hc⟩ := HR.out.int (by omega)
      have hck := hc k hlt
      clear hc
      by_cases h : 0 ≤ it xs k ∧ it xs k ≤ 9
      · obtain ⟨h1, h2⟩ := h
        go_wp2_with (go_at_call 47; refine (l1In_yes _ _ _ _ (by omega) (by omega)).mono ?_; rintro e w2 ⟨rfl, rfl⟩)
        go_round
        case rel => exact ⟨k + 1, by omega, by go_num, Lib.hid (fun j hj => by
          rcases Nat.lt_or_ge j k with h | h
          · exact HI.out j h
          · obtain rfl : j = k := by omega
            exact ⟨h1, h2⟩)⟩
        case measure => simp [intOf]; omega
      · have HV := Lib.hid (pB_no (fun hh : ∀ i, i < xs.length → 0 ≤ it xs i ∧ it xs i ≤ 9 => h (hh k hlt)))
        go_wp2_with (go_at_call 47; refine (l1In_no _ _ _ _ (by omega)).mono ?_; rintro e w2 ⟨rfl, rfl⟩)
        go_ret
        exact ⟨by rw [HV.out]; rfl, rfl⟩
    · obtain rfl : k = xs.length := by omega
      have HV := Lib.hid (pB_yes HI.out)
      go_wp2
      go_ret
      exact ⟨by rw [HV.out]; rfl, rfl⟩

theorem areLimits_any (A : Option Addr) (c : Nat) (xs : List Int) (w : World) (hr : Lst w w.heap.size A xs) (hl : xs.length ≤ 1048576) (ht : Tab w) :
    Calls Tryd.prog 53 #[.slice A xs.length c] w fun e w' => e = .returned (.bool (pB (LimsOk xs))) ∧ w = w' := by
  have HR := Lib.hid hr
  have HT := Lib.hid ht
  clear hr ht
  by_cases h5 : xs.length = 5
  · have H5 := Lib.hid h5
    rw [h5]
    clear h5 hl
    go_enter Tryd.func53, Tryd.ntmps53
    go_wp2
    go_loop [10] (fun i => ∃ k : Nat, k ≤ 5 ∧ i = .int .i64 k ∧ Hid (∀ j, j < k → 0 ≤ it xs j ∧ it xs j ≤ 9)) (fun i => 5 - (intOf i).toNat)
    case atStart => exact ⟨0, Nat.zero_le _, rfl, Lib.hid (fun j hj => absurd hj (by omega))⟩
    case round =>
      obtain ⟨k, hk, rfl, HI⟩ := hrel
      by_cases hlt : k < 5
      · obtain ⟨b, o, rfl, hbl, hc⟩ := HR.out.int (by rw [H5.out]; omega)
        have hck := hc k (by rw [H5.out]; omega)
        clear hc
        by_cases h : 0 ≤ it xs k ∧ it xs k ≤ 9
        · obtain ⟨h1, h2⟩ := h
          go_wp2_with (go_at_call 54; refine (inBounds_yes _ _ _ _ _ HT.out (by omega) rfl (by omega) (by omega)).mono ?_; rintro e w2 ⟨rfl, rfl⟩)
          go_round
          case rel => exact ⟨k + 1, by omega, by go_num, Lib.hid (fun j hj => by
            rcases Nat.lt_or_ge j k with h | h
            · exact HI.out j h
            · obtain rfl : j = k := by omega
              exact ⟨h1, h2⟩)⟩
          case measure => simp [intOf]; omega
        · have HV := Lib.hid (pB_no (fun hh : LimsOk xs => h (hh.lim k (by rw [H5.out]; omega))))
          go_wp2_with (go_at_call 54; refine (inBounds_no _ _ _ _ _ HT.out (by omega) rfl (by omega)).mono ?_; rintro e w2 ⟨rfl, rfl⟩)
          go_ret
          exact ⟨by rw [HV.out]; rfl, rfl⟩
      · obtain rfl : k = 5 := by omega
        have HV := Lib.hid (pB_yes (⟨H5.out, fun i hi => HI.out i (by rw [← H5.out]; exact hi)⟩ : LimsOk xs))
        go_wp2
        go_ret
        exact ⟨by rw [HV.out]; rfl, rfl⟩
  · have HV := Lib.hid (pB_no (fun hh : LimsOk xs => h5 hh.len))
    have h5' : (xs.length : Int) < 5 ∨ 5 < (xs.length : Int) := by omega
    clear h5
    rcases h5' with h5 | h5
    all_goals
      go_enter Tryd.func53, Tryd.ntmps53
      go_wp2
      go_ret
      exact ⟨by rw [HV.out]; rfl, rfl⟩
end Go.Proofs.YtocjkhfghldnnaaDoor
