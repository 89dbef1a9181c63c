/- Valid marks in the program; AreMarks, JudgesOf. -/
import Derived.Test.YtfeffkjmjkddnaaDoorMrC
import Derived.Shelf.SlGeneric
namespace Go.Proofs.YtfeffkjmjkddnaaDoor
open Go.ChangeShapes Go.WideShapes Go.ChangeAt Go.RowKit Go.Lib Go.Proofs
set_option linter.unusedVariables false

theorem isGrade_any (v : Int) (w : World) :
    Calls Tryd.prog 32 #[.int .i64 v] w fun e w' => e = .returned (.bool (pB (GdOk v))) ∧ w' = w := by
  by_cases h1 : -5 ≤ v
  · by_cases h2 : v ≤ 5
    · rw [pB_yes (show GdOk v from ⟨h1, h2⟩)]
      go_enter Tryd.func32, Tryd.ntmps32
      go_wp2
      go_ret
      simp [*]
    · rw [pB_no (fun q : GdOk v => h2 q.2)]
      have h3 : 5 < v := by omega
      clear h2
      go_enter Tryd.func32, Tryd.ntmps32
      go_wp2
      go_ret
      simp
      omega
  · rw [pB_no (fun q : GdOk v => h1 q.1)]
    have h2 : v < -5 := by omega
    clear h1
    go_enter Tryd.func32, Tryd.ntmps32
    go_wp2
    go_ret
    simp
theorem isComponent_any (v : Int) (w : World) :
    Calls Tryd.prog 33 #[.int .i64 v] w fun e w' => e = .returned (.bool (pB (CpOk v))) ∧ w' = w := by
  by_cases h1 : 0 ≤ v
  · by_cases h2 : v ≤ 1000
    · by_cases h3 : v.tmod 25 = 0
      · rw [pB_yes (show CpOk v from ⟨h1, h2, h3⟩)]
        have hd : (v.tmod 25 == 0) = true := by simp [h3]
        have H3 := Lib.hid (Int.tmod_eq_emod_of_nonneg (b := 25) h1 ▸ h3)
        clear h3
        go_enter Tryd.func33, Tryd.ntmps33
        go_wp2
        go_ret
        simp
        exact H3.out
      · rw [pB_no (fun q : CpOk v => h3 q.st)]
        have hd : (v.tmod 25 == 0) = false := by simp [h3]
        have H3 := Lib.hid (Int.tmod_eq_emod_of_nonneg (b := 25) h1 ▸ h3)
        clear h3
        go_enter Tryd.func33, Tryd.ntmps33
        go_wp2
        go_ret
        simp
        exact H3.out
    · rw [pB_no (fun q : CpOk v => h2 q.hi)]
      have h3 : 1000 < v := by omega
      clear h2
      go_enter Tryd.func33, Tryd.ntmps33
      go_wp2
      go_ret
      simp
  · rw [pB_no (fun q : CpOk v => h1 q.lo)]
    have h2 : v < 0 := by omega
    clear h1
    go_enter Tryd.func33, Tryd.ntmps33
    go_wp2
    go_ret
    simp
section
variable (G : Nat) (Q : Int → Prop) (eG : ∀ args w, (callFunc G args).run Tryd.prog w = .ok (.enter G args) w) (hN : ∀ v w, Calls Tryd.prog G #[.int .i64 v] w fun e w' => e = .returned (.bool (pB (Q v))) ∧ w' = w)
include eG hN
theorem notIs_any (v : Int) (b : Nat) (w : World) (hc : w.cell? ⟨b, 0, none⟩ = some (.func (.func G) #[] #[])) :
    Calls Tryd.prog 45 (#[.int .i64 v] ++ #[.pointer (some ⟨b, 0, none⟩)]) w fun e w' => e = .returned (.bool (!pB (Q v))) ∧ w' = w := by
  have HC := Lib.hid (hN v)
  clear hN
  show Calls Tryd.prog 45 #[.int .i64 v, .pointer (some ⟨b, 0, none⟩)] w _
  go_enter Tryd.func45, Tryd.ntmps45
  go_wp2_with (go_at_fn G; refine (HC.out _).mono ?_; rintro e w2 ⟨rfl, rfl⟩)
  go_ret
  exact ⟨rfl, rfl⟩
def AllV (l : List Int) : Prop := ∀ j, j < l.length → Q (it l j)
theorem indexFunc_any (A : Option Addr) (c n b : Nat) (xs : List Int) (hn : xs.length = n) (w : World) (hr : Lst w w.heap.size A xs) (hl : n ≤ 1048576) (hc : w.cell? ⟨b, 0, none⟩ = some (.func (.func G) #[] #[])) :
    Calls Tryd.prog 52 #[.slice A n c, .func (.func 45) #[] #[.pointer (some ⟨b, 0, none⟩)]] w fun e w' => (∃ i : Int, e = .returned (.int .i64 i) ∧ ((0 ≤ i ∧ ¬ AllV Q xs) ∨ i = -1 ∧ AllV Q xs)) ∧ w' = w := by
  subst hn
  have HR := Lib.hid hr
  have HNI := Lib.hid (fun v => notIs_any G Q eG hN v b w hc)
  have eN : ∀ args w, (callFunc 45 args).run Tryd.prog w = .ok (.enter 45 args) w := enters_of Tryd.func45 (by kernel_rfl) rfl
  clear hr eG hN hc
  go_enter Tryd.func52, Tryd.ntmps52
  go_wp2
  go_loop [8] (fun i => ∃ k : Nat, k ≤ xs.length ∧ i = .int .i64 k ∧ Hid (∀ j, j < k → Q (it xs j))) (fun i => xs.length - (intOf i).toNat)
  case atStart => exact ⟨0, Nat.zero_le _, rfl, Lib.hid none_yet⟩
  case round =>
    obtain ⟨k, hk, rfl, HI⟩ := hrel
    by_cases hlt : k < xs.length
    · obtain ⟨b', o, rfl, hbl, hc⟩ := HR.out.int (by omega)
      have hck := hc k hlt
      have hi1 : (0 : Int) ≤ (k : Int) := by omega
      have hi2 : (k : Int) < (xs.length : Int) := by omega
      have HC := Lib.hid (HNI.out (it xs k))
      clear hc
      by_cases h : Q (it xs k)
      · rw [pB_yes h] at HC
        have HH := Lib.hid h
        clear h
        go_wp2_with (go_at_fn 45; refine HC.out.mono ?_; rintro e w2 ⟨rfl, rfl⟩)
        go_round
        case rel => exact ⟨k + 1, by omega, by go_num, Lib.hid (one_more HI.out HH.out)⟩
        case measure => simp [intOf]; omega
      · rw [pB_no h] at HC
        have HH := Lib.hid (fun hh : AllV Q xs => h (hh k hlt))
        clear h
        go_wp2_with (go_at_fn 45; refine HC.out.mono ?_; rintro e w2 ⟨rfl, rfl⟩)
        go_ret
        exact ⟨⟨_, rfl, .inl ⟨hi1, HH.out⟩⟩, rfl⟩
    · obtain rfl : k = xs.length := by omega
      go_wp2
      go_ret
      exact ⟨⟨_, rfl, .inr ⟨rfl, HI.out⟩⟩, rfl⟩
theorem containsFunc_any (A : Option Addr) (c n b : Nat) (xs : List Int) (hn : xs.length = n) (w : World) (hr : Lst w w.heap.size A xs) (hl : n ≤ 1048576) (hc : w.cell? ⟨b, 0, none⟩ = some (.func (.func G) #[] #[])) :
    Calls Tryd.prog 44 #[.slice A n c, .func (.func 45) #[] #[.pointer (some ⟨b, 0, none⟩)]] w fun e w' => e = .returned (.bool (!pB (AllV Q xs))) ∧ w' = w := by
  have HC := Lib.hid (indexFunc_any G Q eG hN A c n b xs hn w hr hl hc)
  clear hr eG hN hc
  go_enter Tryd.func44, Tryd.ntmps44
  go_wp2_with (go_at_call 52; refine HC.out.mono ?_; rintro e w2 ⟨⟨i, rfl, hi⟩, rfl⟩; have HI := Lib.hid hi; clear hi)
  go_ret
  rcases HI.out with ⟨h1, h2⟩ | ⟨h1, h2⟩
  · rw [pB_no h2]
    exact ⟨by simp; omega, rfl⟩
  · rw [pB_yes h2, h1]
    exact ⟨rfl, rfl⟩
theorem areRows_any (q : Rw (Rw Int)) (J : Nat) (w : World) (hr : Nst.In w w.heap.size q) (hl : NFit q) (hJ : J ≤ 1048576) :
    Calls Tryd.prog 31 #[.slice q.A q.xs.length q.c, .int .i64 J, .func (.func G) #[] #[]] w fun e w' => e = .returned (.bool (pB (RowsV Q J (ctt q)))) ∧ Below w.heap.size w w' := by
  have hb0 := below_alloc w (.cells #[.func (.func G) #[] #[]] 54)
  have HR := Lib.hid (Nst.next hr hb0)
  have HB0 := Lib.hid hb0
  have HF := Lib.hid hl
  have hg1 := nfit_len hl
  have HX : Hid ((w.alloc (.cells #[.func (.func G) #[] #[]] 54)).cell? ⟨w.heap.size, 0, none⟩ = some (.func (.func G) #[] #[])) := Lib.hid (by simp)
  have HCF := Lib.hid (containsFunc_any G Q eG hN)
  clear hr hl hb0 eG hN
  go_enter Tryd.func31, Tryd.ntmps31
  go_wp2_with fail
  generalize World.alloc w _ = W at HR HX HB0 ⊢
  go_loopw [11] (fun i wr => ∃ k : Nat, k ≤ q.xs.length ∧ i = .int .i64 k ∧ Hid (∀ i, i < k → RowV Q J (it q.xs i).xs) ∧ wr = W) (fun i _ => q.xs.length - (intOf i).toNat)
  case atStart => exact ⟨0, Nat.zero_le _, rfl, Lib.hid none_yet, rfl⟩
  case round =>
    obtain ⟨k, hk, rfl, HI, rfl⟩ := hrel
    by_cases hlt : k < q.xs.length
    · obtain ⟨b', o', hA', hbl', hc'⟩ := mr_cell HR.out (by omega)
      have hck := hc' k hlt
      have hlk := nfit_len (nfit_each HF.out k hlt)
      rw [hA']
      clear hc' hA'
      by_cases h1 : (it q.xs k).xs.length = J
      rotate_left
      · have HV := Lib.hid (pB_no (fun hh : RowsV Q J (ctt q) => h1 (by have := (hh k (by rw [ctt_len]; exact hlt)).len; rw [ctt_it] at this; exact this)))
        have hd : (((it q.xs k).xs.length : Int) != (J : Int)) = true := by simp; omega
        clear h1
        go_wp2
        go_ret
        exact ⟨by rw [HV.out]; rfl, HB0.out⟩
      have H1 := Lib.hid h1
      have HC := Lib.hid (HCF.out (it q.xs k).A (it q.xs k).c J w.heap.size (it q.xs k).xs h1 wr (mr_each HR.out k hlt) hJ HX.out)
      have hd : ((J : Int) != (J : Int)) = false := by simp
      rw [h1] at hck
      clear h1
      by_cases h : AllV Q (it q.xs k).xs
      · rw [pB_yes h] at HC
        have HZ := Lib.hid (one_more (Q := fun i => RowV Q J (it q.xs i).xs) HI.out ⟨H1.out, h⟩)
        clear h
        go_wp2_with (go_at_call 44; refine HC.out.mono ?_; rintro e w2 ⟨rfl, rfl⟩)
        go_roundw
        case rel => exact ⟨k + 1, by omega, by go_num, HZ, trivial⟩
        case measure => simp [intOf]; omega
      · rw [pB_no h] at HC
        have HV := Lib.hid (pB_no (fun hh : RowsV Q J (ctt q) => h (by have := (hh k (by rw [ctt_len]; exact hlt)).each; rw [ctt_it] at this; exact this)))
        clear h
        go_wp2_with (go_at_call 44; refine HC.out.mono ?_; rintro e w2 ⟨rfl, rfl⟩)
        go_ret
        exact ⟨by rw [HV.out]; rfl, HB0.out⟩
    · obtain rfl : k = q.xs.length := by omega
      have HV := Lib.hid (pB_yes (show RowsV Q J (ctt q) from fun i hi => by rw [ctt_it]; exact HI.out i (by rw [← ctt_len]; exact hi)))
      go_wp2
      go_ret
      exact ⟨by rw [HV.out]; rfl, HB0.out⟩
end
theorem areGrades_any (q : Rw (Rw Int)) (J : Nat) (w : World) (hr : Nst.In w w.heap.size q) (hl : NFit q) (hJ : J ≤ 1048576) :
    Calls Tryd.prog 31 #[.slice q.A q.xs.length q.c, .int .i64 J, .func (.func 32) #[] #[]] w fun e w' => e = .returned (.bool (pB (RowsV GdOk J (ctt q)))) ∧ Below w.heap.size w w' :=
  areRows_any 32 GdOk (enters_of Tryd.func32 (by kernel_rfl) rfl) isGrade_any q J w hr hl hJ
theorem areComps_any (q : Rw (Rw Int)) (J : Nat) (w : World) (hr : Nst.In w w.heap.size q) (hl : NFit q) (hJ : J ≤ 1048576) :
    Calls Tryd.prog 31 #[.slice q.A q.xs.length q.c, .int .i64 J, .func (.func 33) #[] #[]] w fun e w' => e = .returned (.bool (pB (RowsV CpOk J (ctt q)))) ∧ Below w.heap.size w w' :=
  areRows_any 33 CpOk (enters_of Tryd.func33 (by kernel_rfl) rfl) isComponent_any q J w hr hl hJ
end Go.Proofs.YtfeffkjmjkddnaaDoor
