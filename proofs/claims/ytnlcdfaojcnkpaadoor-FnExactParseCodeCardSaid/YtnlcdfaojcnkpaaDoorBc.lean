/- Valid elements and limits, in the program and in the model. Valid lists of elements and valid codes, in the program and in the model. Valid codes in the model and in the program. Valid codes in the program; IsCode on both sides. The walk of the law IsCode: it answers true at every code. Finding an element by its name, in the model and in the program. What a law over a code carries from call to call. -/
import Derived.Test.YtnlcdfaojcnkpaaDoorBb
import Derived.BigQuiet
import Derived.Lib.QuietBelow
import Derived.Deep.RegionHeld3
namespace Go.Proofs.YtnlcdfaojcnkpaaDoor
open Go.ChangeShapes Go.WideShapes Go.ChangeAt Go.RowKit Go.PlainAid
set_option linter.unusedVariables false

theorem below_alloc (w : World) (o : Obj) : Below w.heap.size w (w.alloc o) := (Below.refl _ _).alloc (Nat.le_refl _) _
theorem cdElement_any (x : El) (w : World) (hx : x.name.size ≤ 1048576) :
    Calls Tryd.prog 62 #[x.val] w fun e w' => e = .returned (.bool (pB (ElOk x))) ∧ Below w.heap.size w w' := by
  have HX := Lib.hid hx
  clear hx
  by_cases hn : NameOk x.name
  · have HN := Lib.hid (pB_yes hn)
    by_cases h : (0 ≤ x.fam ∧ x.fam ≤ 4) ∧ (0 ≤ x.lev ∧ x.lev ≤ 4) ∧ (1 ≤ x.base ∧ x.base ≤ 2000)
    · have HV := Lib.hid (pB_yes (⟨hn, h.1, h.2.1, h.2.2⟩ : ElOk x))
      obtain ⟨⟨h1, h2⟩, ⟨h3, h4⟩, h5, h6⟩ := h
      clear hn
      unfold El.val
      go_enter Tryd.func62, Tryd.ntmps62
      go_wp2_with (first | (go_at_call 94; refine (cdName_any x.name _ HX.out).mono ?_; rintro e w2 ⟨he, rfl⟩; rw [HN.out] at he; subst he) | (go_at_call 63; first | (refine (l1In_yes _ _ _ _ (by omega) (by omega)).mono ?_; rintro e w2 ⟨rfl, rfl⟩) | (refine (l1In_no _ _ _ _ (by omega)).mono ?_; rintro e w2 ⟨rfl, rfl⟩)))
      go_ret
      exact ⟨by rw [HV.out]; rfl, (Below.refl _ _).alloc (Nat.le_refl _) _⟩
    · have HV := Lib.hid (pB_no (fun k : ElOk x => h ⟨k.fam, k.lev, k.base⟩))
      have h' : ¬ (0 ≤ x.fam ∧ x.fam ≤ 4) ∨ (0 ≤ x.fam ∧ x.fam ≤ 4) ∧ ¬ (0 ≤ x.lev ∧ x.lev ≤ 4) ∨ (0 ≤ x.fam ∧ x.fam ≤ 4) ∧ (0 ≤ x.lev ∧ x.lev ≤ 4) ∧ ¬ (1 ≤ x.base ∧ x.base ≤ 2000) := by omega
      clear h hn
      unfold El.val
      rcases h' with h | ⟨h1, h⟩ | ⟨h1, h2, h⟩
      all_goals
        go_enter Tryd.func62, Tryd.ntmps62
        go_wp2_with (first | (go_at_call 94; refine (cdName_any x.name _ HX.out).mono ?_; rintro e w2 ⟨he, rfl⟩; rw [HN.out] at he; subst he) | (go_at_call 63; first | (refine (l1In_yes _ _ _ _ (by omega) (by omega)).mono ?_; rintro e w2 ⟨rfl, rfl⟩) | (refine (l1In_no _ _ _ _ (by omega)).mono ?_; rintro e w2 ⟨rfl, rfl⟩)))
        go_ret
        exact ⟨by rw [HV.out]; rfl, (Below.refl _ _).alloc (Nat.le_refl _) _⟩
  · have HN := Lib.hid (pB_no hn)
    have HV := Lib.hid (pB_no (fun k : ElOk x => hn k.name))
    clear hn
    unfold El.val
    go_enter Tryd.func62, Tryd.ntmps62
    go_wp2_with (first | (go_at_call 94; refine (cdName_any x.name _ HX.out).mono ?_; rintro e w2 ⟨he, rfl⟩; rw [HN.out] at he; subst he) | (go_at_call 63; first | (refine (l1In_yes _ _ _ _ (by omega) (by omega)).mono ?_; rintro e w2 ⟨rfl, rfl⟩) | (refine (l1In_no _ _ _ _ (by omega)).mono ?_; rintro e w2 ⟨rfl, rfl⟩)))
    go_ret
    exact ⟨by rw [HV.out]; rfl, (Below.refl _ _).alloc (Nat.le_refl _) _⟩

theorem bound_at (k : Nat) (a b : Int) (h : boundRows[k]? = some (a, b)) : boundCells[k * 2]? = some (.int .i64 a) ∧ boundCells[k * 2 + 1]? = some (.int .i64 b) ∧ k < 9 := by
  have hk : k < boundRows.length := (List.getElem?_eq_some_iff.1 h).1
  have hi := it_get boundRows k hk
  rw [h] at hi
  have h0 := flat_get boundRows k 0 hk (by decide)
  have h1 := flat_get boundRows k 1 hk (by decide)
  rw [← Option.some.inj hi] at h0 h1
  exact ⟨h0, h1, hk⟩
theorem inBounds_yes (kk a b n : Int) (w : World) (ht : Tab w) (h0 : 0 ≤ kk) (hrow : boundRows[kk.toNat]? = some (a, b)) (h1 : a ≤ n) (h2 : n ≤ b) :
    Calls Tryd.prog 69 #[.int .i64 kk, .int .i64 n] w fun e w' => e = .returned (.bool true) ∧ w = w' := by
  obtain ⟨k, rfl⟩ : ∃ k : Nat, kk = k := ⟨kk.toNat, by omega⟩
  obtain ⟨b0, b1, hk⟩ := bound_at k a b hrow
  have c0 := ht.cell _ b0
  have c1 := ht.cell _ b1
  clear ht b0 b1 hrow
  go_enter Tryd.func69, Tryd.ntmps69
  go_wp2
  go_ret
  simp [*]
theorem inBounds_no (kk a b n : Int) (w : World) (ht : Tab w) (h0 : 0 ≤ kk) (hrow : boundRows[kk.toNat]? = some (a, b)) (h : ¬ (a ≤ n ∧ n ≤ b)) :
    Calls Tryd.prog 69 #[.int .i64 kk, .int .i64 n] w fun e w' => e = .returned (.bool false) ∧ w = w' := by
  obtain ⟨k, rfl⟩ : ∃ k : Nat, kk = k := ⟨kk.toNat, by omega⟩
  obtain ⟨b0, b1, hk⟩ := bound_at k a b hrow
  have c0 := ht.cell _ b0
  have c1 := ht.cell _ b1
  clear ht b0 b1 hrow
  by_cases h1 : a ≤ n
  · have h2 : b < n := by omega
    go_enter Tryd.func69, Tryd.ntmps69
    go_wp2
    go_ret
    simp
    omega
  · have h2 : n < a := by omega
    go_enter Tryd.func69, Tryd.ntmps69
    go_wp2
    go_ret
    simp
theorem isElement_any (x : El) (w : World) (hx : x.name.size ≤ 1048576) (ht : Tab w) :
    Calls Tryd.prog 95 #[x.val] w fun e w' => e = .returned (.bool (pB (ElOk x))) ∧ Below w.heap.size w w' := by
  have HX := Lib.hid hx
  clear hx
  have HT := Lib.hid ht
  clear ht
  by_cases hn : NameOk x.name
  · have HN := Lib.hid (pB_yes hn)
    by_cases h : (0 ≤ x.fam ∧ x.fam ≤ 4) ∧ (0 ≤ x.lev ∧ x.lev ≤ 4) ∧ (1 ≤ x.base ∧ x.base ≤ 2000)
    · have HV := Lib.hid (pB_yes (⟨hn, h.1, h.2.1, h.2.2⟩ : ElOk x))
      obtain ⟨⟨h1, h2⟩, ⟨h3, h4⟩, h5, h6⟩ := h
      clear hn
      unfold El.val
      go_enter Tryd.func95, Tryd.ntmps95
      go_wp2_with (first | (go_at_call 117; refine (iName_any x.name _ HX.out).mono ?_; rintro e w2 ⟨he, rfl⟩; rw [HN.out] at he; subst he) | (go_at_call 69; first | (refine (inBounds_yes _ _ _ _ _ (HT.out.below (below_alloc _ _) (Nat.le_refl _)) (by omega) rfl (by omega) (by omega)).mono ?_; rintro e w2 ⟨rfl, rfl⟩) | (refine (inBounds_no _ _ _ _ _ (HT.out.below (below_alloc _ _) (Nat.le_refl _)) (by omega) rfl (by omega)).mono ?_; rintro e w2 ⟨rfl, rfl⟩)))
      go_ret
      exact ⟨by rw [HV.out]; rfl, (Below.refl _ _).alloc (Nat.le_refl _) _⟩
    · have HV := Lib.hid (pB_no (fun k : ElOk x => h ⟨k.fam, k.lev, k.base⟩))
      have h' : ¬ (0 ≤ x.fam ∧ x.fam ≤ 4) ∨ (0 ≤ x.fam ∧ x.fam ≤ 4) ∧ ¬ (0 ≤ x.lev ∧ x.lev ≤ 4) ∨ (0 ≤ x.fam ∧ x.fam ≤ 4) ∧ (0 ≤ x.lev ∧ x.lev ≤ 4) ∧ ¬ (1 ≤ x.base ∧ x.base ≤ 2000) := by omega
      clear h hn
      unfold El.val
      rcases h' with h | ⟨h1, h⟩ | ⟨h1, h2, h⟩
      all_goals
        go_enter Tryd.func95, Tryd.ntmps95
        go_wp2_with (first | (go_at_call 117; refine (iName_any x.name _ HX.out).mono ?_; rintro e w2 ⟨he, rfl⟩; rw [HN.out] at he; subst he) | (go_at_call 69; first | (refine (inBounds_yes _ _ _ _ _ (HT.out.below (below_alloc _ _) (Nat.le_refl _)) (by omega) rfl (by omega) (by omega)).mono ?_; rintro e w2 ⟨rfl, rfl⟩) | (refine (inBounds_no _ _ _ _ _ (HT.out.below (below_alloc _ _) (Nat.le_refl _)) (by omega) rfl (by omega)).mono ?_; rintro e w2 ⟨rfl, rfl⟩)))
        go_ret
        exact ⟨by rw [HV.out]; rfl, (Below.refl _ _).alloc (Nat.le_refl _) _⟩
  · have HN := Lib.hid (pB_no hn)
    have HV := Lib.hid (pB_no (fun k : ElOk x => hn k.name))
    clear hn
    unfold El.val
    go_enter Tryd.func95, Tryd.ntmps95
    go_wp2_with (first | (go_at_call 117; refine (iName_any x.name _ HX.out).mono ?_; rintro e w2 ⟨he, rfl⟩; rw [HN.out] at he; subst he) | (go_at_call 69; first | (refine (inBounds_yes _ _ _ _ _ (HT.out.below (below_alloc _ _) (Nat.le_refl _)) (by omega) rfl (by omega) (by omega)).mono ?_; rintro e w2 ⟨rfl, rfl⟩) | (refine (inBounds_no _ _ _ _ _ (HT.out.below (below_alloc _ _) (Nat.le_refl _)) (by omega) rfl (by omega)).mono ?_; rintro e w2 ⟨rfl, rfl⟩)))
    go_ret
    exact ⟨by rw [HV.out]; rfl, (Below.refl _ _).alloc (Nat.le_refl _) _⟩

theorem l1All_lims (A : Option Addr) (c : Nat) (xs : List Int) (w : World) (hr : Lst w w.heap.size A xs) (hl : xs.length ≤ 1048576) :
    Calls Tryd.prog 64 #[.slice A xs.length c, .int .i64 0, .int .i64 9] w fun e w' => e = .returned (.bool (pB (∀ i, i < xs.length → 0 ≤ it xs i ∧ it xs i ≤ 9))) ∧ w = w' := by
  have HR := Lib.hid hr
  clear hr
  go_enter Tryd.func64, Tryd.ntmps64
  go_wp2
  go_loop [11] (fun i => ∃ k : Nat, k ≤ xs.length ∧ i = .int .i64 k ∧ Hid (∀ j, j < k → 0 ≤ it xs j ∧ it xs j ≤ 9)) (fun i => xs.length - (intOf i).toNat)
  case atStart => exact ⟨0, Nat.zero_le _, rfl, Lib.hid (fun j hj => absurd hj (by omega))⟩
  case round =>
    obtain ⟨k, hk, rfl, HI⟩ := hrel
    by_cases hlt : k < xs.length
    · obtain ⟨b, o, rfl, hbl, hc⟩ := HR.out.int (by omega)
      have hck := hc k hlt
      clear hc
      by_cases h : 0 ≤ it xs k ∧ it xs k ≤ 9
      · obtain ⟨h1, h2⟩ := h
        go_wp2_with (go_at_call 63; refine (l1In_yes _ _ _ _ (by omega) (by omega)).mono ?_; rintro e w2 ⟨rfl, rfl⟩)
        go_round
        case rel => exact ⟨k + 1, by omega, by go_num, Lib.hid (fun j hj => by
          rcases Nat.lt_or_ge j k with h | h
          · exact HI.out j h
          · obtain rfl : j = k := by omega
            exact ⟨h1, h2⟩)⟩
        case measure => simp [intOf]; omega
      · have HV := Lib.hid (pB_no (fun hh : ∀ i, i < xs.length → 0 ≤ it xs i ∧ it xs i ≤ 9 => h (hh k hlt)))
        go_wp2_with (go_at_call 63; refine (l1In_no _ _ _ _ (by omega)).mono ?_; rintro e w2 ⟨rfl, rfl⟩)
        go_ret
        exact ⟨by rw [HV.out]; rfl, rfl⟩
    · obtain rfl : k = xs.length := by omega
      have HV := Lib.hid (pB_yes HI.out)
      go_wp2
      go_ret
      exact ⟨by rw [HV.out]; rfl, rfl⟩

theorem areLimits_any (A : Option Addr) (c : Nat) (xs : List Int) (w : World) (hr : Lst w w.heap.size A xs) (hl : xs.length ≤ 1048576) (ht : Tab w) :
    Calls Tryd.prog 68 #[.slice A xs.length c] w fun e w' => e = .returned (.bool (pB (LimsOk xs))) ∧ w = w' := by
  have HR := Lib.hid hr
  have HT := Lib.hid ht
  clear hr ht
  by_cases h5 : xs.length = 5
  · have H5 := Lib.hid h5
    rw [h5]
    clear h5 hl
    go_enter Tryd.func68, Tryd.ntmps68
    go_wp2
    go_loop [10] (fun i => ∃ k : Nat, k ≤ 5 ∧ i = .int .i64 k ∧ Hid (∀ j, j < k → 0 ≤ it xs j ∧ it xs j ≤ 9)) (fun i => 5 - (intOf i).toNat)
    case atStart => exact ⟨0, Nat.zero_le _, rfl, Lib.hid (fun j hj => absurd hj (by omega))⟩
    case round =>
      obtain ⟨k, hk, rfl, HI⟩ := hrel
      by_cases hlt : k < 5
      · obtain ⟨b, o, rfl, hbl, hc⟩ := HR.out.int (by rw [H5.out]; omega)
        have hck := hc k (by rw [H5.out]; omega)
        clear hc
        by_cases h : 0 ≤ it xs k ∧ it xs k ≤ 9
        · obtain ⟨h1, h2⟩ := h
          go_wp2_with (go_at_call 69; refine (inBounds_yes _ _ _ _ _ HT.out (by omega) rfl (by omega) (by omega)).mono ?_; rintro e w2 ⟨rfl, rfl⟩)
          go_round
          case rel => exact ⟨k + 1, by omega, by go_num, Lib.hid (fun j hj => by
            rcases Nat.lt_or_ge j k with h | h
            · exact HI.out j h
            · obtain rfl : j = k := by omega
              exact ⟨h1, h2⟩)⟩
          case measure => simp [intOf]; omega
        · have HV := Lib.hid (pB_no (fun hh : LimsOk xs => h (hh.lim k (by rw [H5.out]; omega))))
          go_wp2_with (go_at_call 69; refine (inBounds_no _ _ _ _ _ HT.out (by omega) rfl (by omega)).mono ?_; rintro e w2 ⟨rfl, rfl⟩)
          go_ret
          exact ⟨by rw [HV.out]; rfl, rfl⟩
      · obtain rfl : k = 5 := by omega
        have HV := Lib.hid (pB_yes (⟨H5.out, fun i hi => HI.out i (by rw [← H5.out]; exact hi)⟩ : LimsOk xs))
        go_wp2
        go_ret
        exact ⟨by rw [HV.out]; rfl, rfl⟩
  · have HV := Lib.hid (pB_no (fun hh : LimsOk xs => h5 hh.len))
    have h5' : (xs.length : Int) < 5 ∨ 5 < (xs.length : Int) := by omega
    clear h5
    rcases h5' with h5 | h5
    all_goals
      go_enter Tryd.func68, Tryd.ntmps68
      go_wp2
      go_ret
      exact ⟨by rw [HV.out]; rfl, rfl⟩
end Go.Proofs.YtnlcdfaojcnkpaaDoor

namespace Go.Proofs.YtnlcdfaojcnkpaaDoor
open Go.ChangeShapes Go.WideShapes Go.ChangeAt Go.RowKit Go.PlainAid Go.Sort
set_option linter.unusedVariables false

/-- The first k elements are valid and in order. -/
def ElsTo (xs : List El) (k : Nat) : Prop := ∀ j, j < k → ElOk (it xs j) ∧ (0 < j → nlt (it xs (j - 1)).name (it xs j).name = true)
theorem ElsTo.next {xs : List El} {k : Nat} (h : ElsTo xs k) (h1 : ElOk (it xs k)) (h2 : 0 < k → nlt (it xs (k - 1)).name (it xs k).name = true) : ElsTo xs (k + 1) := fun j hj => by
  rcases Nat.lt_or_ge j k with h' | h'
  · exact h j h'
  · obtain rfl : j = k := by omega
    exact ⟨h1, h2⟩
set_option maxHeartbeats 2000000 in
theorem areElements_any (A : Option Addr) (c : Nat) (xs : List El) (w : World) (hr : Lst w w.heap.size A xs) (hf : Fits xs) (ht : Tab w) :
    Calls Tryd.prog 67 #[.slice A xs.length c] w fun e w' => e = .returned (.bool (pB (ElsOk xs))) ∧ Below w.heap.size w w' := by
  have HR := Lib.hid hr
  have HF := Lib.hid hf
  have HT := Lib.hid ht
  clear hr hf ht
  by_cases hl : 1 ≤ xs.length ∧ xs.length ≤ 24
  · obtain ⟨l1, l2⟩ := hl
    go_enter Tryd.func67, Tryd.ntmps67
    go_wp2
    go_loopw [15] (fun i wr => ∃ k : Nat, k ≤ xs.length ∧ i = .int .i64 k ∧ Hid (ElsTo xs k) ∧ Below w.heap.size w wr) (fun i _ => xs.length - (intOf i).toNat)
    case atStart => exact ⟨0, Nat.zero_le _, rfl, Lib.hid (fun j hj => absurd hj (by omega)), Below.refl _ _⟩
    case round =>
      obtain ⟨k, hk, rfl, HI, hb⟩ := hrel
      by_cases hlt : k < xs.length
      · obtain ⟨b, o, rfl, hbl, hc⟩ := HR.out.el (by omega)
        obtain ⟨c0, c1, c2, c3⟩ := (hc k hlt).below hb hbl
        have HB := Lib.hid hb
        have HC := Lib.hid hc
        clear hc hb
        go_wp2
        refine stop_end 6 ⟨?_⟩
        intro w7 hw7
        have hs7 : w7.heap.size = wr.heap.size + 1 := by rw [hw7]; simp
        have hb7 : Below wr.heap.size wr w7 := by rw [hw7]; exact below_alloc _ _
        have e0 : w7.cell? ⟨wr.heap.size, 0, none⟩ = some (.string (it xs k).name) := by rw [hw7]; simp
        have e1 : w7.cell? ⟨wr.heap.size, 1, none⟩ = some (.int .i64 (it xs k).fam) := by rw [hw7]; simp
        have e2 : w7.cell? ⟨wr.heap.size, 2, none⟩ = some (.int .i64 (it xs k).lev) := by rw [hw7]; simp
        have e3 : w7.cell? ⟨wr.heap.size, 3, none⟩ = some (.int .i64 (it xs k).base) := by rw [hw7]; simp
        clear hw7 c0 c1 c2 c3
        have HB7 := Lib.hid (HB.out.trans (hb7.mono HB.out.size))
        have HT7 := Lib.hid (HT.out.next HB7.out)
        have hp7 : 0 < k → w7.cell? ⟨b, o + (k - 1) * 4, none⟩ = some (.string (it xs (k - 1)).name) := fun hz => (((HC.out (k - 1) (by omega)).below HB.out hbl).below hb7 (Nat.lt_of_lt_of_le hbl HB.out.size)).c0
        have hnk := HF.out.2 k hlt
        have cI : ∀ d os, Calls Tryd.prog 95 #[(it xs k).val] (grow (redrawn w7 d) os) fun e w'' => e = .returned (.bool (pB (ElOk (it xs k)))) ∧ ∃ p : Regrown, w'' = grow (redrawn w7 p.d) p.os := fun d os => Calls.regrown_of (isElement_any (it xs k) _ hnk (HT7.out.next (below_regrown w7 d os)))
        have k0 := cell_regrown e0
        have k1 := cell_regrown e1
        have k2 := cell_regrown e2
        have k3 := cell_regrown e3
        clear e0 e1 e2 e3 hs7 hb7
        generalize wr.heap.size = g at *
        by_cases hok : ElOk (it xs k)
        · rw [pB_yes hok] at cI
          rcases Nat.eq_zero_or_pos k with hz | hz
          · subst hz
            have HNX := Lib.hid (HI.out.next hok (fun h => absurd h (by omega)))
            clear hok
            refine wp_region_quiet_below (by kernel_rfl) (by kernel_rfl) ?_
            repeat (go_big_quiet_step (exact cI _ _))
            refine wpQuiet_nil ?_
            intro _ hw'
            obtain ⟨⟨dq, osq⟩, hw''⟩ := hw'
            subst hw''
            have HB8 := Lib.hid (HB7.out.trans ((below_regrown w7 dq osq).mono HB7.out.size))
            generalize grow (redrawn w7 dq) osq = w8 at HB8 ⊢
            go_wp2
            go_roundw
            case rel => exact ⟨0 + 1, by omega, by go_num, HNX.out, HB8.out⟩
            case measure => simp [intOf]; omega
          · obtain ⟨j, rfl⟩ : ∃ j, k = j + 1 := ⟨k - 1, by omega⟩
            have kp := cell_regrown (hp7 hz)
            rw [show j + 1 - 1 = j by omega] at kp
            have j0 : (0 : Int) ≤ (j : Int) := by omega
            have j1 : (j : Int) < (xs.length : Int) := by omega
            by_cases hn : nlt (it xs j).name (it xs (j + 1)).name = true
            · have HNX := Lib.hid (HI.out.next hok (fun _ => hn))
              unfold nlt at hn
              clear hok hp7
              refine wp_region_quiet_below (by kernel_rfl) (by kernel_rfl) ?_
              repeat (go_big_quiet_step (exact cI _ _))
              refine wpQuiet_nil ?_
              intro _ hw'
              obtain ⟨⟨dq, osq⟩, hw''⟩ := hw'
              subst hw''
              have HB8 := Lib.hid (HB7.out.trans ((below_regrown w7 dq osq).mono HB7.out.size))
              generalize grow (redrawn w7 dq) osq = w8 at HB8 ⊢
              go_wp2
              go_roundw
              case rel => exact ⟨j + 1 + 1, by omega, by go_num, HNX.out, HB8.out⟩
              case measure => simp [intOf]; omega
            · have HV := Lib.hid (pB_no (fun h : ElsOk xs => hn (h.ord (j + 1) (by omega) hlt)))
              have hn' : Op.bytesLess (it xs j).name.toList (it xs (j + 1)).name.toList = false := by simpa [nlt] using hn
              clear hok hp7 hn
              refine wp_region_quiet_below (by kernel_rfl) (by kernel_rfl) ?_
              repeat (go_big_quiet_step (exact cI _ _))
              refine wpQuiet_nil ?_
              intro _ hw'
              obtain ⟨⟨dq, osq⟩, hw''⟩ := hw'
              subst hw''
              have HB8 := Lib.hid (HB7.out.trans ((below_regrown w7 dq osq).mono HB7.out.size))
              generalize grow (redrawn w7 dq) osq = w8 at HB8 ⊢
              go_wp2
              go_ret
              exact ⟨by rw [HV.out]; rfl, HB8.out⟩
        · rw [pB_no hok] at cI
          have HV := Lib.hid (pB_no (fun h : ElsOk xs => hok (h.el k hlt)))
          clear hok hp7
          refine wp_region_quiet_below (by kernel_rfl) (by kernel_rfl) ?_
          repeat (go_big_quiet_step (exact cI _ _))
          refine wpQuiet_nil ?_
          intro _ hw'
          obtain ⟨⟨dq, osq⟩, hw''⟩ := hw'
          subst hw''
          have HB8 := Lib.hid (HB7.out.trans ((below_regrown w7 dq osq).mono HB7.out.size))
          generalize grow (redrawn w7 dq) osq = w8 at HB8 ⊢
          go_wp2
          go_ret
          exact ⟨by rw [HV.out]; rfl, HB8.out⟩
      · obtain rfl : k = xs.length := by omega
        have HV := Lib.hid (pB_yes (⟨l1, l2, fun i hi => (HI.out i hi).1, fun i h0 hi => (HI.out i hi).2 h0⟩ : ElsOk xs))
        go_wp2
        go_ret
        exact ⟨by rw [HV.out]; rfl, hb⟩
  · have HV := Lib.hid (pB_no (fun h : ElsOk xs => hl ⟨h.lo, h.hi⟩))
    have h' : xs.length < 1 ∨ 24 < xs.length := by omega
    have hbig := HF.out.1
    clear hl
    rcases h' with h' | h'
    all_goals
      go_enter Tryd.func67, Tryd.ntmps67
      go_wp2
      go_ret
      exact ⟨by rw [HV.out]; rfl, Below.refl _ _⟩
end Go.Proofs.YtnlcdfaojcnkpaaDoor

namespace Go.Proofs.YtnlcdfaojcnkpaaDoor
open Go.ChangeShapes Go.WideShapes Go.ChangeAt Go.RowKit Go.PlainAid Go.Sort
set_option linter.unusedVariables false

theorem l1All_len (A : Option Addr) (c n : Nat) (xs : List Int) (hn : xs.length = n) (w : World) (hr : Lst w w.heap.size A xs) (hl : n ≤ 1048576) :
    Calls Tryd.prog 64 #[.slice A n c, .int .i64 0, .int .i64 9] w fun e w' => e = .returned (.bool (pB (∀ i, i < xs.length → 0 ≤ it xs i ∧ it xs i ≤ 9))) ∧ w = w' := by
  subst hn
  exact l1All_lims A c xs w hr hl
theorem areLimits_len (A : Option Addr) (c n : Nat) (xs : List Int) (hn : xs.length = n) (w : World) (hr : Lst w w.heap.size A xs) (hl : n ≤ 1048576) (ht : Tab w) :
    Calls Tryd.prog 68 #[.slice A n c] w fun e w' => e = .returned (.bool (pB (LimsOk xs))) ∧ w = w' := by
  subst hn
  exact areLimits_any A c xs w hr hl ht

set_option maxHeartbeats 1000000 in
theorem cdGood_any (A L : Option Addr) (c d : Nat) (x : Cd) (w : World) (hr : CdAt w A L x) (hl : CdFits x) :
    Calls Tryd.prog 32 #[x.val A c L d] w fun e w' => e = .returned (.bool (pB (CdOk x))) ∧ Below w.heap.size w w' := by
  obtain ⟨W, hW⟩ : ∃ W, W = w.alloc (.cells #[.slice A x.els.length c, .slice L x.lims.length d, .int .i64 x.rep, .int .i64 x.bon, .int .i64 x.kee, .int .i64 x.fal] 31) := ⟨_, rfl⟩
  have hb0 : Below w.heap.size w W := by rw [hW]; exact below_alloc _ _
  have HB0 := Lib.hid hb0
  have hs0 : W.heap.size = w.heap.size + 1 := by rw [hW]; simp
  have HS0 := Lib.hid hs0
  have HR := Lib.hid (hr.below hb0)
  have HX := Lib.hid (show CdBox W w.heap.size A c L d x by rw [hW]; exact cdBox_new w _ _ rfl A c L d x)
  have HF := Lib.hid hl
  have HW := Lib.hid hW
  clear hr hl hb0 hs0 hW
  unfold Cd.val
  go_enter Tryd.func32, Tryd.ntmps32
  go_wp2
  go_loopw [8] (fun i wr => ∃ k : Nat, k ≤ x.els.length ∧ i = .int .i64 k ∧ Hid (ElsTo x.els k) ∧ Below W.heap.size W wr) (fun i _ => x.els.length - (intOf i).toNat)
  case atStart => exact ⟨0, Nat.zero_le _, rfl, Lib.hid (fun j hj => absurd hj (by omega)), by rw [← HW.out]; exact Below.refl _ _⟩
  case round =>
    obtain ⟨k, hk, rfl, HI, hb⟩ := hrel
    have x0 : wr.cell? ⟨w.heap.size, 0, none⟩ = some (.slice A x.els.length c) := (HX.out.below hb (by rw [HS0.out]; omega)).c0
    by_cases hlt : k < x.els.length
    · obtain ⟨b, o, rfl, hbl, hc⟩ := HR.out.els.el (by omega)
      obtain ⟨c0, c1, c2, c3⟩ := (hc k hlt).below hb hbl
      have HB := Lib.hid hb
      have HC := Lib.hid hc
      clear hc hb
      go_wp2
      refine stop_end 4 ⟨?_⟩
      intro w7 hw7
      have hs7 : w7.heap.size = wr.heap.size + 1 := by rw [hw7]; simp
      have hb7 : Below wr.heap.size wr w7 := by rw [hw7]; exact below_alloc _ _
      have e0 : w7.cell? ⟨wr.heap.size, 0, none⟩ = some (.string (it x.els k).name) := by rw [hw7]; simp
      have e1 : w7.cell? ⟨wr.heap.size, 1, none⟩ = some (.int .i64 (it x.els k).fam) := by rw [hw7]; simp
      have e2 : w7.cell? ⟨wr.heap.size, 2, none⟩ = some (.int .i64 (it x.els k).lev) := by rw [hw7]; simp
      have e3 : w7.cell? ⟨wr.heap.size, 3, none⟩ = some (.int .i64 (it x.els k).base) := by rw [hw7]; simp
      have y0 : w7.cell? ⟨w.heap.size, 0, none⟩ = some (.slice (some ⟨b, o, none⟩) x.els.length c) := (hb7.cell (p := ⟨w.heap.size, 0, none⟩) (by show w.heap.size < wr.heap.size; have := HS0.out; have := HB.out.size; omega)).trans x0
      clear hw7 c0 c1 c2 c3 x0
      have HB7 := Lib.hid (HB.out.trans (hb7.mono HB.out.size))
      have hp7 : 0 < k → w7.cell? ⟨b, o + (k - 1) * 4, none⟩ = some (.string (it x.els (k - 1)).name) := fun hz => (((HC.out (k - 1) (by omega)).below HB.out hbl).below hb7 (Nat.lt_of_lt_of_le hbl HB.out.size)).c0
      have hnk := HF.out.1.2 k hlt
      have cI : ∀ d os, Calls Tryd.prog 62 #[(it x.els k).val] (grow (redrawn w7 d) os) fun e w'' => e = .returned (.bool (pB (ElOk (it x.els k)))) ∧ ∃ p : Regrown, w'' = grow (redrawn w7 p.d) p.os := fun d os => Calls.regrown_of (cdElement_any (it x.els k) _ hnk)
      have k0 := cell_regrown e0
      have k1 := cell_regrown e1
      have k2 := cell_regrown e2
      have k3 := cell_regrown e3
      have k4 := cell_regrown y0
      clear e0 e1 e2 e3 hs7 hb7 y0
      generalize wr.heap.size = g at *
      by_cases hok : ElOk (it x.els k)
      · rw [pB_yes hok] at cI
        rcases Nat.eq_zero_or_pos k with hz | hz
        · subst hz
          have HNX := Lib.hid (HI.out.next hok (fun h => absurd h (by omega)))
          clear hok
          refine wp_region_quiet_below (by kernel_rfl) (by kernel_rfl) ?_
          repeat (go_big_quiet_step (exact cI _ _))
          refine wpQuiet_nil ?_
          intro _ hw'
          obtain ⟨⟨dq, osq⟩, hw''⟩ := hw'
          subst hw''
          have HB8 := Lib.hid (HB7.out.trans ((below_regrown w7 dq osq).mono HB7.out.size))
          generalize grow (redrawn w7 dq) osq = w8 at HB8 ⊢
          go_wp2
          go_roundw
          case rel => exact ⟨0 + 1, by omega, by go_num, HNX.out, HB8.out⟩
          case measure => simp [intOf]; omega
        · obtain ⟨j, rfl⟩ : ∃ j, k = j + 1 := ⟨k - 1, by omega⟩
          have kp := cell_regrown (hp7 hz)
          rw [show j + 1 - 1 = j by omega] at kp
          have j0 : (0 : Int) ≤ (j : Int) := by omega
          have j1 : (j : Int) < (x.els.length : Int) := by omega
          have j2 : (j : Int) < 1048576 := by have := HF.out.1.1; omega
          by_cases hn : nlt (it x.els j).name (it x.els (j + 1)).name = true
          · have HNX := Lib.hid (HI.out.next hok (fun _ => hn))
            unfold nlt at hn
            clear hok hp7
            refine wp_region_quiet_below (by kernel_rfl) (by kernel_rfl) ?_
            repeat (go_big_quiet_step (exact cI _ _))
            refine wpQuiet_nil ?_
            intro _ hw'
            obtain ⟨⟨dq, osq⟩, hw''⟩ := hw'
            subst hw''
            have HB8 := Lib.hid (HB7.out.trans ((below_regrown w7 dq osq).mono HB7.out.size))
            generalize grow (redrawn w7 dq) osq = w8 at HB8 ⊢
            go_wp2
            go_roundw
            case rel => exact ⟨j + 1 + 1, by omega, by go_num, HNX.out, HB8.out⟩
            case measure => simp [intOf]; omega
          · have HV := Lib.hid (pB_no (fun h : CdOk x => hn (h.els.ord (j + 1) (by omega) hlt)))
            have hn' : Op.bytesLess (it x.els j).name.toList (it x.els (j + 1)).name.toList = false := by simpa [nlt] using hn
            clear hok hp7 hn
            refine wp_region_quiet_below (by kernel_rfl) (by kernel_rfl) ?_
            repeat (go_big_quiet_step (exact cI _ _))
            refine wpQuiet_nil ?_
            intro _ hw'
            obtain ⟨⟨dq, osq⟩, hw''⟩ := hw'
            subst hw''
            have HB8 := Lib.hid (HB7.out.trans ((below_regrown w7 dq osq).mono HB7.out.size))
            generalize grow (redrawn w7 dq) osq = w8 at HB8 ⊢
            go_wp2
            go_ret
            exact ⟨by rw [HV.out]; rfl, HB0.out.trans (HB8.out.mono HB0.out.size)⟩
      · rw [pB_no hok] at cI
        have HV := Lib.hid (pB_no (fun h : CdOk x => hok (h.els.el k hlt)))
        clear hok hp7
        refine wp_region_quiet_below (by kernel_rfl) (by kernel_rfl) ?_
        repeat (go_big_quiet_step (exact cI _ _))
        refine wpQuiet_nil ?_
        intro _ hw'
        obtain ⟨⟨dq, osq⟩, hw''⟩ := hw'
        subst hw''
        have HB8 := Lib.hid (HB7.out.trans ((below_regrown w7 dq osq).mono HB7.out.size))
        generalize grow (redrawn w7 dq) osq = w8 at HB8 ⊢
        go_wp2
        go_ret
        exact ⟨by rw [HV.out]; rfl, HB0.out.trans (HB8.out.mono HB0.out.size)⟩
    · obtain rfl : k = x.els.length := by omega
      have HO := Lib.hid (HB0.out.trans (hb.mono HB0.out.size))
      obtain ⟨_, x1, x2, x3, x4, x5⟩ := HX.out.below hb (by rw [HS0.out]; omega)
      have HRL := Lib.hid ((HR.out.below hb).lims)
      have hll := HF.out.2
      clear hb
      by_cases hL : 1 ≤ x.els.length ∧ x.els.length ≤ 24
      · have HE := Lib.hid (⟨hL.1, hL.2, fun i hi => (HI.out i hi).1, fun i h0 hi => (HI.out i hi).2 h0⟩ : ElsOk x.els)
        obtain ⟨hL1, hL2⟩ := hL
        by_cases h5 : x.lims.length = 5
        · have H5 := Lib.hid h5
          by_cases hlm : ∀ i, i < x.lims.length → 0 ≤ it x.lims i ∧ it x.lims i ≤ 9
          · have HLM := Lib.hid (pB_yes hlm)
            by_cases hq : (1 ≤ x.rep ∧ x.rep ≤ 3) ∧ (0 ≤ x.bon ∧ x.bon ≤ 20) ∧ (50 ≤ x.kee ∧ x.kee ≤ 100) ∧ (0 ≤ x.fal ∧ x.fal ≤ 500)
            · have HV := Lib.hid (pB_yes (⟨HE.out, ⟨h5, hlm⟩, hq.1, hq.2.1, hq.2.2.1, hq.2.2.2⟩ : CdOk x))
              clear hlm
              go_wp2_with (first | (go_at_call 63; first | (refine (l1In_yes _ _ _ _ (by omega) (by omega)).mono ?_; rintro e w2 ⟨rfl, rfl⟩) | (refine (l1In_no _ _ _ _ (by omega)).mono ?_; rintro e w2 ⟨rfl, rfl⟩)) | (go_at_call 64; refine (l1All_len L d _ x.lims H5.out _ HRL.out (by omega)).mono ?_; rintro e w2 ⟨he, rfl⟩; rw [HLM.out] at he; subst he))
              go_ret
              exact ⟨by rw [HV.out]; rfl, HO.out⟩
            · have HV := Lib.hid (pB_no (fun h : CdOk x => hq ⟨h.rep, h.bon, h.kee, h.fal⟩))
              have hq' : ¬ (1 ≤ x.rep ∧ x.rep ≤ 3) ∨ (1 ≤ x.rep ∧ x.rep ≤ 3) ∧ ¬ (0 ≤ x.bon ∧ x.bon ≤ 20) ∨ (1 ≤ x.rep ∧ x.rep ≤ 3) ∧ (0 ≤ x.bon ∧ x.bon ≤ 20) ∧ ¬ (50 ≤ x.kee ∧ x.kee ≤ 100) ∨ (1 ≤ x.rep ∧ x.rep ≤ 3) ∧ (0 ≤ x.bon ∧ x.bon ≤ 20) ∧ (50 ≤ x.kee ∧ x.kee ≤ 100) ∧ ¬ (0 ≤ x.fal ∧ x.fal ≤ 500) := by omega
              clear hlm hq
              rcases hq' with hq | ⟨g1, hq⟩ | ⟨g1, g2, hq⟩ | ⟨g1, g2, g3, hq⟩
              all_goals
                go_wp2_with (first | (go_at_call 63; first | (refine (l1In_yes _ _ _ _ (by omega) (by omega)).mono ?_; rintro e w2 ⟨rfl, rfl⟩) | (refine (l1In_no _ _ _ _ (by omega)).mono ?_; rintro e w2 ⟨rfl, rfl⟩)) | (go_at_call 64; refine (l1All_len L d _ x.lims H5.out _ HRL.out (by omega)).mono ?_; rintro e w2 ⟨he, rfl⟩; rw [HLM.out] at he; subst he))
                go_ret
                exact ⟨by rw [HV.out]; rfl, HO.out⟩
          · have HLM := Lib.hid (pB_no hlm)
            have HV := Lib.hid (pB_no (fun h : CdOk x => hlm h.lims.lim))
            clear hlm
            go_wp2_with (first | (go_at_call 63; first | (refine (l1In_yes _ _ _ _ (by omega) (by omega)).mono ?_; rintro e w2 ⟨rfl, rfl⟩) | (refine (l1In_no _ _ _ _ (by omega)).mono ?_; rintro e w2 ⟨rfl, rfl⟩)) | (go_at_call 64; refine (l1All_len L d _ x.lims H5.out _ HRL.out (by omega)).mono ?_; rintro e w2 ⟨he, rfl⟩; rw [HLM.out] at he; subst he))
            go_ret
            exact ⟨by rw [HV.out]; rfl, HO.out⟩
        · have HV := Lib.hid (pB_no (fun h : CdOk x => h5 h.lims.len))
          have h5' : ¬ (x.lims.length : Int) = 5 := by omega
          clear h5
          go_wp2_with (first | (go_at_call 63; first | (refine (l1In_yes _ _ _ _ (by omega) (by omega)).mono ?_; rintro e w2 ⟨rfl, rfl⟩) | (refine (l1In_no _ _ _ _ (by omega)).mono ?_; rintro e w2 ⟨rfl, rfl⟩)))
          go_ret
          exact ⟨by rw [HV.out]; rfl, HO.out⟩
      · have HV := Lib.hid (pB_no (fun h : CdOk x => hL ⟨h.els.lo, h.els.hi⟩))
        go_wp2_with (first | (go_at_call 63; first | (refine (l1In_yes _ _ _ _ (by omega) (by omega)).mono ?_; rintro e w2 ⟨rfl, rfl⟩) | (refine (l1In_no _ _ _ _ (by omega)).mono ?_; rintro e w2 ⟨rfl, rfl⟩)))
        go_ret
        exact ⟨by rw [HV.out]; rfl, HO.out⟩
end Go.Proofs.YtnlcdfaojcnkpaaDoor

namespace Go.Proofs.YtnlcdfaojcnkpaaDoor
open Go.ChangeShapes Go.WideShapes Go.ChangeAt Go.RowKit Go.PlainAid Go.Sort
set_option linter.unusedVariables false

set_option maxHeartbeats 1000000 in
theorem iIsCode_any (A L : Option Addr) (c d : Nat) (x : Cd) (w : World) (hr : CdAt w A L x) (hl : CdFits x) (ht : Tab w) :
    Calls Tryd.prog 36 #[x.val A c L d] w fun e w' => e = .returned (.bool (pB (CdOk x))) ∧ Below w.heap.size w w' := by
  obtain ⟨W, hW⟩ : ∃ W, W = w.alloc (.cells #[.slice A x.els.length c, .slice L x.lims.length d, .int .i64 x.rep, .int .i64 x.bon, .int .i64 x.kee, .int .i64 x.fal] 31) := ⟨_, rfl⟩
  have hb0 : Below w.heap.size w W := by rw [hW]; exact below_alloc _ _
  have HB0 := Lib.hid hb0
  have hs0 : W.heap.size = w.heap.size + 1 := by rw [hW]; simp
  have HS0 := Lib.hid hs0
  have HR := Lib.hid (hr.below hb0)
  have HX := Lib.hid (show CdBox W w.heap.size A c L d x by rw [hW]; exact cdBox_new w _ _ rfl A c L d x)
  have HF := Lib.hid hl
  have HT := Lib.hid (ht.next hb0)
  clear hr hl hb0 hs0 ht
  have HE1 := Lib.hid (areElements_any A c x.els W HR.out.els HF.out.1 HT.out)
  unfold Cd.val
  go_enter Tryd.func36, Tryd.ntmps36
  go_wp2_with fail
  rw [← hW]
  clear hW
  refine HE1.out.mono ?_
  rintro e w2 ⟨he, hb2⟩
  have hlt : w.heap.size < W.heap.size := by rw [HS0.out]; omega
  obtain ⟨_, x1, x2, x3, x4, x5⟩ := HX.out.below hb2 hlt
  have HRL := Lib.hid ((HR.out.below hb2).lims)
  have HT2 := Lib.hid (HT.out.next hb2)
  have HO := Lib.hid (HB0.out.trans (hb2.mono HB0.out.size))
  have hll := HF.out.2
  clear hb2 hlt
  by_cases hE : ElsOk x.els
  · rw [pB_yes hE] at he
    subst he
    by_cases hL : LimsOk x.lims
    · have HLM := Lib.hid (pB_yes hL)
      by_cases hq : (1 ≤ x.rep ∧ x.rep ≤ 3) ∧ (0 ≤ x.bon ∧ x.bon ≤ 20) ∧ (50 ≤ x.kee ∧ x.kee ≤ 100) ∧ (0 ≤ x.fal ∧ x.fal ≤ 500)
      · have HV := Lib.hid (pB_yes (⟨hE, hL, hq.1, hq.2.1, hq.2.2.1, hq.2.2.2⟩ : CdOk x))
        clear hE hL
        go_wp2_with (first | (go_at_call 69; first | (refine (inBounds_yes _ _ _ _ _ HT2.out (by omega) rfl (by omega) (by omega)).mono ?_; rintro e w3 ⟨rfl, rfl⟩) | (refine (inBounds_no _ _ _ _ _ HT2.out (by omega) rfl (by omega)).mono ?_; rintro e w3 ⟨rfl, rfl⟩)) | (go_at_call 68; refine (areLimits_any L d x.lims _ HRL.out hll HT2.out).mono ?_; rintro e w3 ⟨he, rfl⟩; rw [HLM.out] at he; subst he))
        go_ret
        exact ⟨by rw [HV.out]; rfl, HO.out⟩
      · have HV := Lib.hid (pB_no (fun h : CdOk x => hq ⟨h.rep, h.bon, h.kee, h.fal⟩))
        have hq' : ¬ (1 ≤ x.rep ∧ x.rep ≤ 3) ∨ (1 ≤ x.rep ∧ x.rep ≤ 3) ∧ ¬ (0 ≤ x.bon ∧ x.bon ≤ 20) ∨ (1 ≤ x.rep ∧ x.rep ≤ 3) ∧ (0 ≤ x.bon ∧ x.bon ≤ 20) ∧ ¬ (50 ≤ x.kee ∧ x.kee ≤ 100) ∨ (1 ≤ x.rep ∧ x.rep ≤ 3) ∧ (0 ≤ x.bon ∧ x.bon ≤ 20) ∧ (50 ≤ x.kee ∧ x.kee ≤ 100) ∧ ¬ (0 ≤ x.fal ∧ x.fal ≤ 500) := by omega
        clear hE hL hq
        rcases hq' with hq | ⟨g1, hq⟩ | ⟨g1, g2, hq⟩ | ⟨g1, g2, g3, hq⟩
        all_goals
          go_wp2_with (first | (go_at_call 69; first | (refine (inBounds_yes _ _ _ _ _ HT2.out (by omega) rfl (by omega) (by omega)).mono ?_; rintro e w3 ⟨rfl, rfl⟩) | (refine (inBounds_no _ _ _ _ _ HT2.out (by omega) rfl (by omega)).mono ?_; rintro e w3 ⟨rfl, rfl⟩)) | (go_at_call 68; refine (areLimits_any L d x.lims _ HRL.out hll HT2.out).mono ?_; rintro e w3 ⟨he, rfl⟩; rw [HLM.out] at he; subst he))
          go_ret
          exact ⟨by rw [HV.out]; rfl, HO.out⟩
    · have HLM := Lib.hid (pB_no hL)
      have HV := Lib.hid (pB_no (fun h : CdOk x => hL h.lims))
      clear hE hL
      go_wp2_with (first | (go_at_call 69; first | (refine (inBounds_yes _ _ _ _ _ HT2.out (by omega) rfl (by omega) (by omega)).mono ?_; rintro e w3 ⟨rfl, rfl⟩) | (refine (inBounds_no _ _ _ _ _ HT2.out (by omega) rfl (by omega)).mono ?_; rintro e w3 ⟨rfl, rfl⟩)) | (go_at_call 68; refine (areLimits_any L d x.lims _ HRL.out hll HT2.out).mono ?_; rintro e w3 ⟨he, rfl⟩; rw [HLM.out] at he; subst he))
      go_ret
      exact ⟨by rw [HV.out]; rfl, HO.out⟩
  · rw [pB_no hE] at he
    subst he
    have HV := Lib.hid (pB_no (fun h : CdOk x => hE h.els))
    clear hE
    go_wp2
    go_ret
    exact ⟨by rw [HV.out]; rfl, HO.out⟩

/-- The world behind a code's own box. -/
def boxCd (t : TypeId) (w : World) (A : Option Addr) (c : Nat) (L : Option Addr) (d : Nat) (x : Cd) : World := w.alloc (.cells #[.slice A x.els.length c, .slice L x.lims.length d, .int .i64 x.rep, .int .i64 x.bon, .int .i64 x.kee, .int .i64 x.fal] t)
structure Boxed (w W : World) (A : Option Addr) (c : Nat) (L : Option Addr) (d : Nat) (x : Cd) : Prop where
  below : Below w.heap.size w W
  size : W.heap.size = w.heap.size + 1
  box : CdBox W w.heap.size A c L d x
theorem boxed (t : TypeId) (w : World) (A : Option Addr) (c : Nat) (L : Option Addr) (d : Nat) (x : Cd) : ∃ W, W = boxCd t w A c L d x ∧ Boxed w W A c L d x :=
  ⟨_, rfl, below_alloc _ _, by simp [boxCd], cdBox_new w _ _ rfl A c L d x⟩
theorem Boxed.lt {w W : World} {A : Option Addr} {c : Nat} {L : Option Addr} {d : Nat} {x : Cd} (h : Boxed w W A c L d x) : w.heap.size < W.heap.size := by rw [h.size]; omega

theorem Below_next {w w1 w2 : World} (h : Below w.heap.size w w1) (k : Below w1.heap.size w1 w2) : Below w.heap.size w w2 := h.trans (k.mono h.size)
/-- A code's box, still there. -/
structure BoxAt (w : World) (b : Nat) (A : Option Addr) (c : Nat) (L : Option Addr) (d : Nat) (x : Cd) : Prop where
  lt : b < w.heap.size
  box : CdBox w b A c L d x
theorem BoxAt.next {w w' : World} {b : Nat} {A : Option Addr} {c : Nat} {L : Option Addr} {d : Nat} {x : Cd} (h : BoxAt w b A c L d x) (k : Below w.heap.size w w') : BoxAt w' b A c L d x := ⟨Nat.lt_of_lt_of_le h.lt k.size, h.box.below k h.lt⟩
theorem Boxed.at_ {w W : World} {A : Option Addr} {c : Nat} {L : Option Addr} {d : Nat} {x : Cd} (h : Boxed w W A c L d x) : BoxAt W w.heap.size A c L d x := ⟨h.lt, h.box⟩

end Go.Proofs.YtnlcdfaojcnkpaaDoor

namespace Go.Proofs.YtnlcdfaojcnkpaaDoor
open Go.ChangeShapes Go.WideShapes Go.ChangeAt Go.RowKit Go.PlainAid Go.Sort
set_option linter.unusedVariables false

/-- The cells of two boxes. -/
theorem box2 {w : World} {b b' : Nat} {A L A' L' : Option Addr} {c d c' d' : Nat} {x x' : Cd} (h : BoxAt w b A c L d x) (k : BoxAt w b' A' c' L' d' x') :
    w.cell? ⟨b, 0, none⟩ = some (.slice A x.els.length c) ∧ w.cell? ⟨b, 1, none⟩ = some (.slice L x.lims.length d) ∧ w.cell? ⟨b, 2, none⟩ = some (.int .i64 x.rep) ∧ w.cell? ⟨b, 3, none⟩ = some (.int .i64 x.bon) ∧ w.cell? ⟨b, 4, none⟩ = some (.int .i64 x.kee) ∧ w.cell? ⟨b, 5, none⟩ = some (.int .i64 x.fal) ∧
    w.cell? ⟨b', 0, none⟩ = some (.slice A' x'.els.length c') ∧ w.cell? ⟨b', 1, none⟩ = some (.slice L' x'.lims.length d') ∧ w.cell? ⟨b', 2, none⟩ = some (.int .i64 x'.rep) ∧ w.cell? ⟨b', 3, none⟩ = some (.int .i64 x'.bon) ∧ w.cell? ⟨b', 4, none⟩ = some (.int .i64 x'.kee) ∧ w.cell? ⟨b', 5, none⟩ = some (.int .i64 x'.fal) :=
  ⟨h.box.c0, h.box.c1, h.box.c2, h.box.c3, h.box.c4, h.box.c5, k.box.c0, k.box.c1, k.box.c2, k.box.c3, k.box.c4, k.box.c5⟩
theorem below_drewn (w : World) : Below w.heap.size w w.drew := (Below.refl _ _).drew

end Go.Proofs.YtnlcdfaojcnkpaaDoor

namespace Go.Proofs.YtnlcdfaojcnkpaaDoor
open Go.ChangeShapes Go.WideShapes Go.ChangeAt Go.RowKit Go.PlainAid Go.Sort
set_option linter.unusedVariables false

theorem str_eq {a b : ByteArray} (h : a = b) : (a.toList == b.toList) = true := by rw [h]; simp
theorem str_ne {a b : ByteArray} (h : ¬ a = b) : (a.toList == b.toList) = false := by
  rw [Go.ByteArray.toList_eq, Go.ByteArray.toList_eq, beq_eq_false_iff_ne]
  exact fun e => h (ByteArray.ext (Array.ext' e))

/-- The first element with a name has the index r; r is -1 if there is none. -/
def First (xs : List El) (n : ByteArray) (r : Int) : Prop := (r = -1 ∧ ∀ i, i < xs.length → (it xs i).name ≠ n) ∨ (∃ i : Nat, r = i ∧ i < xs.length ∧ (it xs i).name = n ∧ ∀ j, j < i → (it xs j).name ≠ n)
theorem First.have (xs : List El) (n : ByteArray) : ∃ r, First xs n r := by
  have main : ∀ k, k ≤ xs.length → (∀ j, j < k → (it xs j).name ≠ n) ∨ ∃ i : Nat, i < xs.length ∧ (it xs i).name = n ∧ ∀ j, j < i → (it xs j).name ≠ n := by
    intro k
    induction k with
    | zero => exact fun _ => .inl (fun j hj => absurd hj (by omega))
    | succ k ih =>
      intro hk
      rcases ih (by omega) with h | h
      · by_cases e : (it xs k).name = n
        · exact .inr ⟨k, by omega, e, h⟩
        · exact .inl (fun j hj => by
            rcases Nat.lt_or_ge j k with h' | h'
            · exact h j h'
            · obtain rfl : j = k := by omega
              exact e)
      · exact .inr h
  rcases main xs.length (Nat.le_refl _) with h | ⟨i, h1, h2, h3⟩
  · exact ⟨-1, .inl ⟨rfl, h⟩⟩
  · exact ⟨i, .inr ⟨i, rfl, h1, h2, h3⟩⟩
theorem First.hit {xs : List El} {n : ByteArray} {r : Int} (h : First xs n r) (k : Nat) (hk : k < xs.length) (he : (it xs k).name = n) (hn : ∀ j, j < k → (it xs j).name ≠ n) : r = k := by
  rcases h with ⟨_, h⟩ | ⟨i, hr, h1, h2, h3⟩
  · exact absurd he (h k hk)
  · rcases Nat.lt_trichotomy i k with h' | h' | h'
    · exact absurd h2 (hn i h')
    · rw [hr, h']
    · exact absurd he (h3 k h')
theorem First.none {xs : List El} {n : ByteArray} {r : Int} (h : First xs n r) (hn : ∀ j, j < xs.length → (it xs j).name ≠ n) : r = -1 := by
  rcases h with ⟨hr, _⟩ | ⟨i, _, h1, h2, _⟩
  · exact hr
  · exact absurd h2 (hn i h1)
theorem First.bounds {xs : List El} {n : ByteArray} {r : Int} (h : First xs n r) : -1 ≤ r ∧ r < xs.length ∧ (0 ≤ r → ∃ i : Nat, r = i ∧ i < xs.length ∧ (it xs i).name = n) := by
  rcases h with ⟨hr, _⟩ | ⟨i, hr, h1, h2, _⟩
  · exact ⟨by omega, by omega, fun h => by omega⟩
  · exact ⟨by omega, by omega, fun _ => ⟨i, hr, h1, h2⟩⟩
theorem none_next {xs : List El} {n : ByteArray} {k : Nat} (h : ∀ j, j < k → (it xs j).name ≠ n) (e : (it xs k).name ≠ n) : ∀ j, j < k + 1 → (it xs j).name ≠ n := fun j hj => by
  rcases Nat.lt_or_ge j k with h' | h'
  · exact h j h'
  · obtain rfl : j = k := by omega
    exact e

theorem cdFind_any (A L : Option Addr) (c d : Nat) (x : Cd) (n : ByteArray) (r : Int) (w : World) (hr : CdAt w A L x) (hl : CdFits x) (hf : First x.els n r) :
    Calls Tryd.prog 102 #[x.val A c L d, .string n] w fun e w' => e = .returned (.int .i64 r) ∧ Below w.heap.size w w' := by
  obtain ⟨W, hW, hB⟩ := boxed 31 w A c L d x
  have HB := Lib.hid hB
  have HR := Lib.hid (hr.below hB.below)
  have HL := Lib.hid hl
  have HFF := Lib.hid hf
  have HW := Lib.hid hW
  clear hr hl hB hf hW
  unfold boxCd at HW
  unfold Cd.val
  have hfit := HL.out.1.1
  go_enter Tryd.func102, Tryd.ntmps102
  go_wp2
  go_loopw [10] (fun i wr => ∃ k : Nat, k ≤ x.els.length ∧ i = .int .i64 k ∧ Hid (∀ j, j < k → (it x.els j).name ≠ n) ∧ Below W.heap.size W wr) (fun i _ => x.els.length - (intOf i).toNat)
  case atStart => exact ⟨0, Nat.zero_le _, rfl, Lib.hid (fun j hj => absurd hj (by omega)), by rw [← HW.out]; exact Below.refl _ _⟩
  case round =>
    obtain ⟨k, hk, rfl, HI, hb⟩ := hrel
    have HB2 := Lib.hid (HB.out.below.trans (hb.mono HB.out.below.size))
    by_cases hlt : k < x.els.length
    · obtain ⟨b, o, rfl, hbl, hc⟩ := HR.out.els.el (by omega)
      obtain ⟨c0, c1, c2, c3⟩ := (hc k hlt).below hb hbl
      have HBR := Lib.hid hb
      clear hc hb
      by_cases he : (it x.els k).name = n
      · have HV := Lib.hid (HFF.out.hit k hlt he HI.out)
        have hq := str_eq he
        clear he
        go_wp2
        go_ret
        exact ⟨by rw [HV.out]; rfl, HB2.out.alloc HB2.out.size _⟩
      · have HN := Lib.hid (none_next HI.out he)
        have hq := str_ne he
        clear he
        go_wp2
        go_roundw
        case rel => exact ⟨k + 1, by omega, by go_num, HN.out, HBR.out.alloc HBR.out.size _⟩
        case measure => simp [intOf]; omega
    · obtain rfl : k = x.els.length := by omega
      have HV := Lib.hid (HFF.out.none HI.out)
      clear hb
      go_wp2
      go_ret
      exact ⟨by rw [HV.out]; rfl, HB2.out⟩

/-- What finding an element answers. -/
noncomputable def fndV (x : Cd) (r : Int) : Value := @ite _ (CdOk x ∧ 0 ≤ r) (Classical.propDecidable _) (.tuple #[.int .i64 r, .bool true]) (.tuple #[.int .i64 0, .bool false])
theorem fndV_yes {x : Cd} {r : Int} (h1 : CdOk x) (h2 : 0 ≤ r) : fndV x r = .tuple #[.int .i64 r, .bool true] := by unfold fndV; exact @if_pos _ (Classical.propDecidable _) ⟨h1, h2⟩ _ _ _
theorem fndV_no {x : Cd} {r : Int} (h : ¬ (CdOk x ∧ 0 ≤ r)) : fndV x r = .tuple #[.int .i64 0, .bool false] := by unfold fndV; exact @if_neg _ (Classical.propDecidable _) h _ _ _

theorem fndV_form (x : Cd) (r : Int) : ∃ (p : Int) (q : Bool), fndV x r = .tuple #[.int .i64 p, .bool q] := by
  by_cases h : CdOk x ∧ 0 ≤ r
  · exact ⟨r, true, fndV_yes h.1 h.2⟩
  · exact ⟨0, false, fndV_no h⟩
/-- What looking a name up answers. -/
def idxV (r : Int) : Value := if 0 ≤ r then .tuple #[.int .i64 r, .bool true] else .tuple #[.int .i64 0, .bool false]
theorem idxV_yes {r : Int} (h : 0 ≤ r) : idxV r = .tuple #[.int .i64 r, .bool true] := if_pos h
theorem idxV_no {r : Int} (h : ¬ 0 ≤ r) : idxV r = .tuple #[.int .i64 0, .bool false] := if_neg h
theorem indexOf_any (A : Option Addr) (c : Nat) (xs : List El) (n : ByteArray) (r : Int) (w : World) (hr : Lst w w.heap.size A xs) (hl : Fits xs) (hf : First xs n r) :
    Calls Tryd.prog 109 #[.slice A xs.length c, .string n] w fun e w' => e = .returned (idxV r) ∧ Below w.heap.size w w' := by
  have HR := Lib.hid hr
  have HFF := Lib.hid hf
  have hfit := hl.1
  clear hr hl hf
  go_enter Tryd.func109, Tryd.ntmps109
  go_wp2
  go_loopw [10] (fun i wr => ∃ k : Nat, k ≤ xs.length ∧ i = .int .i64 k ∧ Hid (∀ j, j < k → (it xs j).name ≠ n) ∧ Below w.heap.size w wr) (fun i _ => xs.length - (intOf i).toNat)
  case atStart => exact ⟨0, Nat.zero_le _, rfl, Lib.hid (fun j hj => absurd hj (by omega)), Below.refl _ _⟩
  case round =>
    obtain ⟨k, hk, rfl, HI, hb⟩ := hrel
    have HB2 := Lib.hid hb
    by_cases hlt : k < xs.length
    · obtain ⟨b, o, rfl, hbl, hc⟩ := HR.out.el (by omega)
      obtain ⟨c0, c1, c2, c3⟩ := (hc k hlt).below hb hbl
      clear hc hb
      by_cases he : (it xs k).name = n
      · have hrk := HFF.out.hit k hlt he HI.out
        have HV := Lib.hid (show idxV r = .tuple #[.int .i64 (k : Int), .bool true] by rw [idxV_yes (by omega), hrk])
        have hq := str_eq he
        clear he hrk
        go_wp2
        go_ret2
        exact ⟨by rw [HV.out]; rfl, HB2.out.alloc HB2.out.size _⟩
      · have HN := Lib.hid (none_next HI.out he)
        have hq := str_ne he
        clear he
        go_wp2
        go_roundw
        case rel => exact ⟨k + 1, by omega, by go_num, HN.out, HB2.out.alloc HB2.out.size _⟩
        case measure => simp [intOf]; omega
    · obtain rfl : k = xs.length := by omega
      have HV := Lib.hid (idxV_no (r := r) (fun h => by have := HFF.out.none HI.out; omega))
      clear hb
      go_wp2
      go_ret2
      exact ⟨by rw [HV.out]; rfl, HB2.out⟩

end Go.Proofs.YtnlcdfaojcnkpaaDoor

namespace Go.Proofs.YtnlcdfaojcnkpaaDoor
open Go.ChangeShapes Go.WideShapes Go.ChangeAt Go.RowKit Go.PlainAid Go.Sort
set_option linter.unusedVariables false

/-- The law's own argument and its box, in blocks below B. -/
structure LawAt (w0 w : World) (B : Nat) (A : Option Addr) (c : Nat) (L : Option Addr) (d : Nat) (x : Cd) : Prop where
  bel : Below w0.heap.size w0 w
  box : CdBox w w0.heap.size A c L d x
  lt : w0.heap.size < B
  le : B ≤ w.heap.size
  els : Lst w B A x.els
  lims : Lst w B L x.lims
  tab : Tab w
  tlt : 1 < B
section
variable {w0 w w' : World} {B : Nat} {A : Option Addr} {c : Nat} {L : Option Addr} {d : Nat} {x : Cd}
theorem LawAt.mk' (hb : Below w0.heap.size w0 w) (hx : BoxAt w w0.heap.size A c L d x) (hr : CdAt w A L x) (ht : Tab w) : LawAt w0 w w.heap.size A c L d x :=
  ⟨hb, hx.box, hx.lt, Nat.le_refl _, hr.els, hr.lims, ht, ht.lt⟩
theorem LawAt.goB (h : LawAt w0 w B A c L d x) (hb : Below B w w') : LawAt w0 w' B A c L d x :=
  ⟨h.bel.trans (hb.mono (Nat.le_of_lt h.lt)), h.box.below hb h.lt, h.lt, Nat.le_trans h.le hb.size, h.els.below hb (Nat.le_refl _), h.lims.below hb (Nat.le_refl _),
    ⟨Nat.lt_of_lt_of_le h.tlt (Nat.le_trans h.le hb.size), var?_below hb gBound h.tlt h.tab.var⟩, h.tlt⟩
theorem LawAt.next (h : LawAt w0 w B A c L d x) (hb : Below w.heap.size w w') : LawAt w0 w' B A c L d x := h.goB (hb.mono h.le)
theorem LawAt.at_ (h : LawAt w0 w B A c L d x) : CdAt w A L x := ⟨h.els.up h.le, h.lims.up h.le⟩
theorem LawAt.boxAt (h : LawAt w0 w B A c L d x) : BoxAt w w0.heap.size A c L d x := ⟨Nat.lt_of_lt_of_le h.lt h.le, h.box⟩
end
theorem Lst.next {α : Type} [Flat α] {w w' : World} {A : Option Addr} {xs : List α} (h : Lst w w.heap.size A xs) (hb : Below w.heap.size w w') : Lst w' w'.heap.size A xs := (h.below hb (Nat.le_refl _)).up hb.size
end Go.Proofs.YtnlcdfaojcnkpaaDoor
