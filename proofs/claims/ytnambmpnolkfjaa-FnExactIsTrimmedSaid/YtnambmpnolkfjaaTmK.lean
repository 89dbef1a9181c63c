/- IsTrimmed, in the program and in its model. -/
import Derived.Test.YtnambmpnolkfjaaTmF
import Derived.Test.YtnambmpnolkfjaaTmD
import Derived.Test.YtnambmpnolkfjaaTmB
import Derived.Deep.QuietTactic
import Derived.BigQuiet
namespace Go.Proofs.Ytnambmpnolkfjaa.One
open Go.ChangeShapes Go.WideShapes Go.ChangeAt Go.RowKit Go.Lib Go.Proofs
set_option linter.unusedVariables false

theorem foldl_min (zs : List Int) : ∀ a : Int, zs.foldl min a ≤ a ∧ (∀ x ∈ zs, zs.foldl min a ≤ x) ∧ (zs.foldl min a = a ∨ zs.foldl min a ∈ zs) := by
  induction zs with
  | nil => intro a; simp
  | cons z r ih =>
    intro a
    obtain ⟨h1, h2, h3⟩ := ih (min a z)
    rw [List.foldl_cons]
    refine ⟨by omega, fun x hx => ?_, ?_⟩
    · rcases List.mem_cons.1 hx with rfl | hx
      · omega
      · exact h2 x hx
    · rcases h3 with h3 | h3
      · rcases Int.le_total a z with q | q
        · exact .inl (by omega)
        · exact .inr (by rw [h3, show min a z = z by omega]; exact List.mem_cons_self)
      · exact .inr (List.mem_cons_of_mem _ h3)
theorem foldl_max (zs : List Int) : ∀ a : Int, a ≤ zs.foldl max a ∧ (∀ x ∈ zs, x ≤ zs.foldl max a) ∧ (zs.foldl max a = a ∨ zs.foldl max a ∈ zs) := by
  induction zs with
  | nil => intro a; simp
  | cons z r ih =>
    intro a
    obtain ⟨h1, h2, h3⟩ := ih (max a z)
    rw [List.foldl_cons]
    refine ⟨by omega, fun x hx => ?_, ?_⟩
    · rcases List.mem_cons.1 hx with rfl | hx
      · omega
      · exact h2 x hx
    · rcases h3 with h3 | h3
      · rcases Int.le_total a z with q | q
        · exact .inr (by rw [h3, show max a z = z by omega]; exact List.mem_cons_self)
        · exact .inl (by omega)
      · exact .inr (List.mem_cons_of_mem _ h3)
theorem headD_mem {xs : List Int} (h : 0 < xs.length) : xs.headD 0 ∈ xs := by
  cases xs with
  | nil => simp at h
  | cons a r => exact List.mem_cons_self
theorem minOf_eq {xs : List Int} (h : 0 < xs.length) : Lib.minOf (xs.take xs.length) = ix (asc xs) 0 := by
  rw [List.take_length, asc_ix _ _ h, show xs.length - 1 - 0 = xs.length - 1 by omega]
  obtain ⟨h1, h2, h3⟩ := foldl_min xs (xs.headD 0)
  obtain ⟨k1, i, hi, k2⟩ := dsc_min xs h
  have hm : xs.foldl min (xs.headD 0) ∈ xs := by
    rcases h3 with h3 | h3
    · rw [h3]; exact headD_mem h
    · exact h3
  obtain ⟨j, hj, e⟩ := mem_ix hm
  have q1 := k1 j hj
  have q2 := h2 _ (ix_mem hi)
  show xs.foldl min (xs.headD 0) = _
  omega
theorem maxOf_eq {xs : List Int} (h : 0 < xs.length) : Lib.maxOf (xs.take xs.length) = ix (asc xs) (xs.length - 1) := by
  rw [List.take_length, asc_ix _ _ (by omega), show xs.length - 1 - (xs.length - 1) = 0 by omega]
  obtain ⟨h1, h2, h3⟩ := foldl_max xs (xs.headD 0)
  obtain ⟨k1, i, hi, k2⟩ := dsc_max xs h
  have hm : xs.foldl max (xs.headD 0) ∈ xs := by
    rcases h3 with h3 | h3
    · rw [h3]; exact headD_mem h
    · exact h3
  obtain ⟨j, hj, e⟩ := mem_ix hm
  have q1 := k1 j hj
  have q2 := h2 _ (ix_mem hi)
  show xs.foldl max (xs.headD 0) = _
  omega
/-- The mark of a judge is left out, and any one beyond it would be. -/
def ItV (xs : List Int) (k : Int) : Prop := TmHas xs k ∧ 5 ≤ xs.length ∧ (ix xs k.toNat = ix (asc xs) 0 ∨ ix xs k.toNat = ix (asc xs) (xs.length - 1))
set_option maxHeartbeats 2000000 in
theorem iIsTrimmed_any (A : Option Addr) (c : Nat) (xs : List Int) (k : Int) (w : World) (hr : Ints w w.heap.size A xs) (hl : xs.length ≤ 1048576) :
    Calls Try.prog 40 #[.slice A xs.length c, .int .i64 k] w fun e w' => e = .returned (.tuple #[.bool (pB (ItV xs k)), .bool (pB (TmHas xs k))]) ∧ Below w.heap.size w w' := by
  have HC := Lib.hid (hasMarkOf_any A c xs k w _ hr hl)
  have HR := Lib.hid hr
  clear hr
  by_cases h : TmHas xs k
  rotate_left
  · rw [pB_no h] at HC
    rw [pB_no (fun q : ItV xs k => h q.1), pB_no h]
    clear h
    go_enter Try.func40, Try.ntmps40
    go_wp2_with (go_at_call 62; refine HC.out.mono ?_; rintro e w2 ⟨rfl, hw⟩; obtain rfl := hw.symm; clear hw)
    go_ret2
    exact ⟨rfl, Below.refl _ _⟩
  rw [pB_yes h] at HC
  rw [pB_yes h]
  have HK := Lib.hid h
  have hp := h.ok.lo
  have h9 := h.ok.hi
  have hlo := h.lo
  have hhi := h.hi
  have HO := Lib.hid h.ok
  clear h
  obtain ⟨j, rfl⟩ : ∃ j : Nat, k = (j : Int) := ⟨k.toNat, by omega⟩
  have hj : j < xs.length := by omega
  obtain ⟨b, o, rfl, hbl, hc⟩ := HR.out hp
  have HV := Lib.hid (show ItV xs (j : Int) ↔ (5 ≤ xs.length ∧ (ix xs j = ix (asc xs) 0 ∨ ix xs j = ix (asc xs) (xs.length - 1))) from ⟨fun q => ⟨q.2.1, q.2.2⟩, fun q => ⟨HK.out, q.1, q.2⟩⟩)
  have hcj := hc j hj
  have HQ1 := Lib.hid (fun n => Try.slices_Min_int b o xs.length c xs (w.drewN n) hp (Nat.le_refl _) (by omega) hc)
  have HQ2 := Lib.hid (fun n => Try.slices_Max_int b o xs.length c xs (w.drewN n) hp (Nat.le_refl _) (by omega) hc)
  rw [minOf_eq hp] at HQ1
  rw [maxOf_eq hp] at HQ2
  generalize ix (asc xs) 0 = mn at HQ1 HV
  generalize ix (asc xs) (xs.length - 1) = mx at HQ2 HV
  clear hc
  go_enter Try.func40, Try.ntmps40
  go_wp2_with (go_at_call 62; refine HC.out.mono ?_; rintro e w2 ⟨rfl, hw⟩; obtain rfl := hw.symm; clear hw)
  by_cases e3 : 5 ≤ xs.length
  · have i5 : (5 : Int) ≤ (xs.length : Int) := by omega
    by_cases e1 : ix xs j = mn
    · subst e1
      have HP := Lib.hid (show pB (ItV xs (j : Int)) = true from pB_yes (HV.out.2 ⟨e3, .inl rfl⟩))
      clear HV
      go_quiet (first | (go_at_call 73; exact Calls.quiet_of_same (HQ1.out _)) | (go_at_call 74; exact Calls.quiet_of_same (HQ2.out _)))
      go_wp2
      go_ret2
      rw [HP.out]
      exact ⟨rfl, below_drewN _ _⟩
    · by_cases e2 : ix xs j = mx
      · subst e2
        have d1 : (ix xs j == mn) = false := by simp [e1]
        have HP := Lib.hid (show pB (ItV xs (j : Int)) = true from pB_yes (HV.out.2 ⟨e3, .inr rfl⟩))
        clear HV
        go_quiet (first | (go_at_call 73; exact Calls.quiet_of_same (HQ1.out _)) | (go_at_call 74; exact Calls.quiet_of_same (HQ2.out _)))
        go_wp2
        go_ret2
        rw [HP.out]
        exact ⟨rfl, below_drewN _ _⟩
      · have d1 : (ix xs j == mn) = false := by simp [e1]
        have d2 : (ix xs j == mx) = false := by simp [e2]
        have HP := Lib.hid (show pB (ItV xs (j : Int)) = false from pB_no (fun q => (HV.out.1 q).2.elim e1 e2))
        clear HV
        go_quiet (first | (go_at_call 73; exact Calls.quiet_of_same (HQ1.out _)) | (go_at_call 74; exact Calls.quiet_of_same (HQ2.out _)))
        go_wp2
        go_ret2
        rw [HP.out]
        exact ⟨rfl, below_drewN _ _⟩
  · have i6 : (xs.length : Int) < 5 := by omega
    have d3 : decide ((5 : Int) ≤ (xs.length : Int)) = false := by simp; omega
    by_cases e1 : ix xs j = mn
    · subst e1
      have HP := Lib.hid (show pB (ItV xs (j : Int)) = false from pB_no (fun q => e3 (HV.out.1 q).1))
      clear HV
      go_quiet (first | (go_at_call 73; exact Calls.quiet_of_same (HQ1.out _)) | (go_at_call 74; exact Calls.quiet_of_same (HQ2.out _)))
      go_wp2
      go_ret2
      rw [HP.out]
      exact ⟨rfl, below_drewN _ _⟩
    · by_cases e2 : ix xs j = mx
      · subst e2
        have d1 : (ix xs j == mn) = false := by simp [e1]
        have HP := Lib.hid (show pB (ItV xs (j : Int)) = false from pB_no (fun q => e3 (HV.out.1 q).1))
        clear HV
        go_quiet (first | (go_at_call 73; exact Calls.quiet_of_same (HQ1.out _)) | (go_at_call 74; exact Calls.quiet_of_same (HQ2.out _)))
        go_wp2
        go_ret2
        rw [HP.out]
        exact ⟨rfl, below_drewN _ _⟩
      · have d1 : (ix xs j == mn) = false := by simp [e1]
        have d2 : (ix xs j == mx) = false := by simp [e2]
        have HP := Lib.hid (show pB (ItV xs (j : Int)) = false from pB_no (fun q => e3 (HV.out.1 q).1))
        clear HV
        go_quiet (first | (go_at_call 73; exact Calls.quiet_of_same (HQ1.out _)) | (go_at_call 74; exact Calls.quiet_of_same (HQ2.out _)))
        go_wp2
        go_ret2
        rw [HP.out]
        exact ⟨rfl, below_drewN _ _⟩
set_option maxHeartbeats 2000000 in
theorem sIsTrimmed_any (A : Option Addr) (c : Nat) (xs : List Int) (k : Int) (w : World) (hr : Ints w w.heap.size A xs) (hl : xs.length ≤ 1048576) :
    Calls Try.prog 39 #[.slice A xs.length c, .int .i64 k] w fun e w' => e = .returned (.tuple #[.bool (pB (ItV xs k)), .bool (pB (TmHas xs k))]) ∧ Below w.heap.size w w' := by
  have HC := Lib.hid (tmHas_any A c xs k w _ hr hl)
  have HR := Lib.hid hr
  clear hr
  by_cases h : TmHas xs k
  rotate_left
  · rw [pB_no h] at HC
    rw [pB_no (fun q : ItV xs k => h q.1), pB_no h]
    clear h
    go_enter Try.func39, Try.ntmps39
    go_wp2_with (go_at_call 60; refine HC.out.mono ?_; rintro e w2 ⟨rfl, hw⟩; obtain rfl := hw.symm; clear hw)
    go_ret2
    exact ⟨rfl, Below.refl _ _⟩
  rw [pB_yes h] at HC
  rw [pB_yes h]
  have HK := Lib.hid h
  have hp := h.ok.lo
  have h9 := h.ok.hi
  have hlo := h.lo
  have hhi := h.hi
  have HO := Lib.hid h.ok
  clear h
  obtain ⟨j, rfl⟩ : ∃ j : Nat, k = (j : Int) := ⟨k.toNat, by omega⟩
  have hj : j < xs.length := by omega
  obtain ⟨b, o, rfl, hbl, hc⟩ := HR.out hp
  have HV := Lib.hid (show ItV xs (j : Int) ↔ (5 ≤ xs.length ∧ (ix xs j = ix (asc xs) 0 ∨ ix xs j = ix (asc xs) (xs.length - 1))) from ⟨fun q => ⟨q.2.1, q.2.2⟩, fun q => ⟨HK.out, q.1, q.2⟩⟩)
  have hcj := hc j hj
  clear hc
  go_enter Try.func39, Try.ntmps39
  go_wp2_with (first | (go_at_call 60; refine HC.out.mono ?_; rintro e w2 ⟨rfl, hw⟩; obtain rfl := hw.symm; clear hw) | (go_at_call 61; refine (tmOrder_any _ _ _ _ HR.out HO.out).mono ?_; rintro e w3 ⟨g, cap, rfl, hcc, hb⟩; have HB := Lib.hid hb; have HCC := Lib.hid hcc; have hcj3 := (hb.cell (p := ⟨b, o + j, none⟩) hbl).trans hcj; clear hcj hb hcc))
  have c1 := HCC.out 0 (by omega)
  have c2 := HCC.out (xs.length - 1) (by omega)
  have p1 : ((xs.length : Int) - 1).toNat = xs.length - 1 := by omega
  have p2 : (0 : Int) ≤ (xs.length : Int) - 1 := by omega
  have p3 : (xs.length : Int) - 1 < (xs.length : Int) := by omega
  have p4 : IntKind.i64.wrap ((xs.length : Int) - 1) = (xs.length : Int) - 1 := IntWalk.i64_in _ (by omega)
  have p5 : (0 : Int) < (xs.length : Int) := by omega
  have p6 : 0 < xs.length := by omega
  generalize ix (asc xs) 0 = mn at c1 HV
  generalize ix (asc xs) (xs.length - 1) = mx at c2 HV
  clear HCC
  by_cases e3 : 5 ≤ xs.length
  · have i5 : (5 : Int) ≤ (xs.length : Int) := by omega
    by_cases e1 : ix xs j = mn
    · subst e1
      have HP := Lib.hid (show pB (ItV xs (j : Int)) = true from pB_yes (HV.out.2 ⟨e3, .inl rfl⟩))
      clear HV
      go_quiet (fail)
      go_wp2
      go_ret2
      rw [HP.out]
      exact ⟨rfl, Below_then HB.out (below_drewN _ _)⟩
    · by_cases e2 : ix xs j = mx
      · subst e2
        have d1 : (ix xs j == mn) = false := by simp [e1]
        have HP := Lib.hid (show pB (ItV xs (j : Int)) = true from pB_yes (HV.out.2 ⟨e3, .inr rfl⟩))
        clear HV
        go_quiet (fail)
        go_wp2
        go_ret2
        rw [HP.out]
        exact ⟨rfl, Below_then HB.out (below_drewN _ _)⟩
      · have d1 : (ix xs j == mn) = false := by simp [e1]
        have d2 : (ix xs j == mx) = false := by simp [e2]
        have HP := Lib.hid (show pB (ItV xs (j : Int)) = false from pB_no (fun q => (HV.out.1 q).2.elim e1 e2))
        clear HV
        go_quiet (fail)
        go_wp2
        go_ret2
        rw [HP.out]
        exact ⟨rfl, Below_then HB.out (below_drewN _ _)⟩
  · have i6 : (xs.length : Int) < 5 := by omega
    have d3 : decide ((5 : Int) ≤ (xs.length : Int)) = false := by simp; omega
    by_cases e1 : ix xs j = mn
    · subst e1
      have HP := Lib.hid (show pB (ItV xs (j : Int)) = false from pB_no (fun q => e3 (HV.out.1 q).1))
      clear HV
      go_quiet (fail)
      go_wp2
      go_ret2
      rw [HP.out]
      exact ⟨rfl, Below_then HB.out (below_drewN _ _)⟩
    · by_cases e2 : ix xs j = mx
      · subst e2
        have d1 : (ix xs j == mn) = false := by simp [e1]
        have HP := Lib.hid (show pB (ItV xs (j : Int)) = false from pB_no (fun q => e3 (HV.out.1 q).1))
        clear HV
        go_quiet (fail)
        go_wp2
        go_ret2
        rw [HP.out]
        exact ⟨rfl, Below_then HB.out (below_drewN _ _)⟩
      · have d1 : (ix xs j == mn) = false := by simp [e1]
        have d2 : (ix xs j == mx) = false := by simp [e2]
        have HP := Lib.hid (show pB (ItV xs (j : Int)) = false from pB_no (fun q => e3 (HV.out.1 q).1))
        clear HV
        go_quiet (fail)
        go_wp2
        go_ret2
        rw [HP.out]
        exact ⟨rfl, Below_then HB.out (below_drewN _ _)⟩
end Go.Proofs.Ytnambmpnolkfjaa.One
