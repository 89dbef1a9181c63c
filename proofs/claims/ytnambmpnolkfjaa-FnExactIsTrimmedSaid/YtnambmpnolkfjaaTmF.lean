/- TrimmedSum, TrimmedMean and TrimmedPoints, in the program and in its model. -/
import Derived.Test.YtnambmpnolkfjaaTmE
namespace Go.Proofs.Ytnambmpnolkfjaa.One
open Go.ChangeShapes Go.WideShapes Go.ChangeAt Go.RowKit Go.Lib Go.Proofs
set_option linter.unusedVariables false

/-- A number, or 0. -/
noncomputable def sel (p : Prop) (x : Int) : Int := if pB p then x else 0
theorem sel_yes {p : Prop} (h : p) (x : Int) : sel p x = x := by unfold sel; rw [pB_yes h]; rfl
theorem sel_no {p : Prop} (h : ¬ p) (x : Int) : sel p x = 0 := by unfold sel; rw [pB_no h]; rfl
theorem iTrimmedSum_any (A : Option Addr) (c : Nat) (xs : List Int) (w : World) (hr : Ints w w.heap.size A xs) (hl : xs.length ≤ 1048576) :
    Calls Try.prog 20 #[.slice A xs.length c] w fun e w' => e = .returned (.tuple #[.int .i64 (sel (TmOk xs) (tmS xs)), .int .i64 (sel (TmOk xs) ((tmN xs : Nat))), .bool (pB (TmOk xs))]) ∧ Below w.heap.size w w' := by
  have HC := Lib.hid (iAreMarksOf_any A c xs w _ hr hl)
  have HR := Lib.hid hr
  clear hr
  by_cases h : TmOk xs
  · rw [pB_yes h] at HC
    rw [sel_yes h, sel_yes h, pB_yes h]
    have HO := Lib.hid h
    obtain ⟨b1, b2, b3, b4⟩ := tm_bd h
    clear h
    go_enter Try.func20, Try.ntmps20
    go_wp2_with (first | (go_at_call 17; refine HC.out.mono ?_; rintro e w2 ⟨rfl, rfl⟩) | (go_at_call 53; refine (trimmedOf_any _ _ _ _ HR.out HO.out).mono ?_; rintro e w3 ⟨rfl, hb⟩; have HB := Lib.hid hb; clear hb))
    go_ret3
    exact ⟨rfl, HB.out⟩
  · rw [pB_no h] at HC
    rw [sel_no h, sel_no h, pB_no h]
    clear h
    go_enter Try.func20, Try.ntmps20
    go_wp2_with (go_at_call 17; refine HC.out.mono ?_; rintro e w2 ⟨rfl, rfl⟩)
    go_ret3
    exact ⟨rfl, Below.refl _ _⟩
theorem iTrimmedMean_any (A : Option Addr) (c : Nat) (xs : List Int) (w : World) (hr : Ints w w.heap.size A xs) (hl : xs.length ≤ 1048576) :
    Calls Try.prog 22 #[.slice A xs.length c] w fun e w' => e = .returned (.tuple #[.int .i64 (sel (TmOk xs) (lowA (tmS xs) (tmN xs : Nat))), .int .i64 (sel (TmOk xs) (lowB (tmS xs) (tmN xs : Nat))), .bool (pB (TmOk xs))]) ∧ Below w.heap.size w w' := by
  have HC := Lib.hid (iAreMarksOf_any A c xs w _ hr hl)
  have HR := Lib.hid hr
  clear hr
  by_cases h : TmOk xs
  · rw [pB_yes h] at HC
    rw [sel_yes h, sel_yes h, pB_yes h]
    have HO := Lib.hid h
    obtain ⟨b1, b2, b3, b4⟩ := tm_bd h
    clear h
    go_enter Try.func22, Try.ntmps22
    go_wp2_with (first | (go_at_call 17; refine HC.out.mono ?_; rintro e w2 ⟨rfl, rfl⟩) | (go_at_call 53; refine (trimmedOf_any _ _ _ _ HR.out HO.out).mono ?_; rintro e w3 ⟨rfl, hb⟩; have HB := Lib.hid hb; clear hb) | (go_at_call 55; refine (implLowest_yes _ _ _ (by omega) (by omega) (by omega) (by omega)).mono ?_; rintro e w4 ⟨rfl, n, rfl⟩))
    go_ret3
    exact ⟨rfl, Below_then HB.out (below_drewN _ _)⟩
  · rw [pB_no h] at HC
    rw [sel_no h, sel_no h, pB_no h]
    clear h
    go_enter Try.func22, Try.ntmps22
    go_wp2_with (go_at_call 17; refine HC.out.mono ?_; rintro e w2 ⟨rfl, rfl⟩)
    go_ret3
    exact ⟨rfl, Below.refl _ _⟩
theorem sTrimmedSum_any (A : Option Addr) (c : Nat) (xs : List Int) (w : World) (hr : Ints w w.heap.size A xs) (hl : xs.length ≤ 1048576) :
    Calls Try.prog 19 #[.slice A xs.length c] w fun e w' => e = .returned (.tuple #[.int .i64 (sel (TmOk xs) (tmS xs)), .int .i64 (sel (TmOk xs) ((tmN xs : Nat))), .bool (pB (TmOk xs))]) ∧ Below w.heap.size w w' := by
  have HC := Lib.hid (tmGood_any A c xs w _ hr hl)
  have HR := Lib.hid hr
  clear hr
  by_cases h : TmOk xs
  · rw [pB_yes h] at HC
    rw [sel_yes h, sel_yes h, pB_yes h]
    have HO := Lib.hid h
    obtain ⟨b1, b2, b3, b4⟩ := tm_bd h
    clear h
    go_enter Try.func19, Try.ntmps19
    go_wp2_with (first | (go_at_call 48; refine HC.out.mono ?_; rintro e w2 ⟨rfl, rfl⟩) | (go_at_call 52; refine (tmMean_any _ _ _ _ HR.out HO.out).mono ?_; rintro e w3 ⟨rfl, hb⟩; have HB := Lib.hid hb; clear hb))
    go_ret3
    exact ⟨rfl, HB.out⟩
  · rw [pB_no h] at HC
    rw [sel_no h, sel_no h, pB_no h]
    clear h
    go_enter Try.func19, Try.ntmps19
    go_wp2_with (go_at_call 48; refine HC.out.mono ?_; rintro e w2 ⟨rfl, rfl⟩)
    go_ret3
    exact ⟨rfl, Below.refl _ _⟩
theorem sTrimmedMean_any (A : Option Addr) (c : Nat) (xs : List Int) (w : World) (hr : Ints w w.heap.size A xs) (hl : xs.length ≤ 1048576) :
    Calls Try.prog 21 #[.slice A xs.length c] w fun e w' => e = .returned (.tuple #[.int .i64 (sel (TmOk xs) (lowA (tmS xs) (tmN xs : Nat))), .int .i64 (sel (TmOk xs) (lowB (tmS xs) (tmN xs : Nat))), .bool (pB (TmOk xs))]) ∧ Below w.heap.size w w' := by
  have HC := Lib.hid (tmGood_any A c xs w _ hr hl)
  have HR := Lib.hid hr
  clear hr
  by_cases h : TmOk xs
  · rw [pB_yes h] at HC
    rw [sel_yes h, sel_yes h, pB_yes h]
    have HO := Lib.hid h
    obtain ⟨b1, b2, b3, b4⟩ := tm_bd h
    clear h
    go_enter Try.func21, Try.ntmps21
    go_wp2_with (first | (go_at_call 48; refine HC.out.mono ?_; rintro e w2 ⟨rfl, rfl⟩) | (go_at_call 52; refine (tmMean_any _ _ _ _ HR.out HO.out).mono ?_; rintro e w3 ⟨rfl, hb⟩; have HB := Lib.hid hb; clear hb) | (go_at_call 54; refine (poLowest_any _ _ _ (by omega) (by omega) (by omega) (by omega)).mono ?_; rintro e w4 ⟨rfl, n, rfl⟩))
    go_ret3
    exact ⟨rfl, Below_then HB.out (below_drewN _ _)⟩
  · rw [pB_no h] at HC
    rw [sel_no h, sel_no h, pB_no h]
    clear h
    go_enter Try.func21, Try.ntmps21
    go_wp2_with (go_at_call 48; refine HC.out.mono ?_; rintro e w2 ⟨rfl, rfl⟩)
    go_ret3
    exact ⟨rfl, Below.refl _ _⟩
structure PtOk (xs : List Int) (f p m : Int) : Prop where
  ok : TmOk xs
  f0 : 0 ≤ f
  f1 : f ≤ 10000
  p0 : 1 ≤ p
  p1 : p ≤ 1000
  m0 : -1 ≤ m
  m1 : m ≤ 1
theorem pt_bd {xs : List Int} (h : TmOk xs) {f p : Int} (f0 : 0 ≤ f) (f1 : f ≤ 10000) (p0 : 1 ≤ p) (p1 : p ≤ 1000) : -90000000 ≤ tmS xs * f ∧ tmS xs * f ≤ 90000000 ∧ 1 ≤ ((tmN xs : Nat) : Int) * p ∧ ((tmN xs : Nat) : Int) * p ≤ 9000 := by
  obtain ⟨b1, b2, b3, b4⟩ := tm_bd h
  have h1 := mul_bd (tmS xs) f 9000 10000 (by omega) b2 f0 f1
  have h2 := mul_bd ((tmN xs : Nat) : Int) p 9 1000 (by omega) (by omega) (by omega) p1
  have h3 : 0 < ((tmN xs : Nat) : Int) * p := Int.mul_pos (by omega) (by omega)
  omega
theorem l1In_b (n lo hi : Int) (w : World) :
    Calls Try.prog 56 #[.int .i64 n, .int .i64 lo, .int .i64 hi] w fun e w' => e = .returned (.bool (pB (lo ≤ n ∧ n ≤ hi))) ∧ w' = w := by
  by_cases h1 : lo ≤ n
  · by_cases h2 : n ≤ hi
    · rw [pB_yes ⟨h1, h2⟩]
      go_enter Try.func56, Try.ntmps56
      go_wp2
      go_ret
      simp [*]
    · rw [pB_no (fun q => h2 q.2)]
      have h3 : hi < n := by omega
      clear h2
      go_enter Try.func56, Try.ntmps56
      go_wp2
      go_ret
      simp
      omega
  · rw [pB_no (fun q => h1 q.1)]
    have h2 : n < lo := by omega
    clear h1
    go_enter Try.func56, Try.ntmps56
    go_wp2
    go_ret
    simp
theorem poIsMode_no (m : Int) (h : ¬ (-1 ≤ m ∧ m ≤ 1)) (w : World) : Calls Try.prog 57 #[.int .i64 m] w fun e w' => e = .returned (.bool false) ∧ w' = w := by
  have HC := Lib.hid (l1In_b m (-1) 1)
  rw [pB_no h] at HC
  clear h
  go_enter Try.func57, Try.ntmps57
  go_wp2_with (go_at_call 56; refine (HC.out _).mono ?_; rintro e w2 ⟨rfl, rfl⟩)
  go_ret
  exact ⟨rfl, rfl⟩
set_option maxHeartbeats 1000000 in
theorem iTrimmedPoints_any (A : Option Addr) (c : Nat) (xs : List Int) (f : Int) (p : Int) (m : Int) (w : World) (hr : Ints w w.heap.size A xs) (hl : xs.length ≤ 1048576) :
    Calls Try.prog 24 #[.slice A xs.length c, .int .i64 f, .int .i64 p, .int .i64 m] w fun e w' => e = .returned (.tuple #[.int .i64 (sel (PtOk xs f p m) (rnd (tmS xs * f) ((tmN xs : Nat) * p) m)), .bool (pB (PtOk xs f p m))]) ∧ Below w.heap.size w w' := by
  have HC := Lib.hid (iAreMarksOf_any A c xs w _ hr hl)
  have HR := Lib.hid hr
  clear hr
  by_cases h : TmOk xs
  rotate_left
  · rw [pB_no h] at HC
    rw [sel_no (fun q : PtOk xs f p m => h q.ok), pB_no (fun q : PtOk xs f p m => h q.ok)]
    clear h
    go_enter Try.func24, Try.ntmps24
    go_wp2_with (go_at_call 17; refine HC.out.mono ?_; rintro e w2 ⟨rfl, rfl⟩)
    go_ret2
    exact ⟨rfl, Below.refl _ _⟩
  rw [pB_yes h] at HC
  have HO := Lib.hid h
  have HP := Lib.hid (fun (f0 : 0 ≤ f) (f1 : f ≤ 10000) (p0 : 1 ≤ p) (p1 : p ≤ 1000) => pt_bd h f0 f1 p0 p1)
  clear h
  by_cases f0 : 0 ≤ f <;> by_cases f1 : f ≤ 10000 <;> by_cases p0 : 1 ≤ p <;> by_cases p1 : p ≤ 1000 <;> (try (exfalso; omega))
  all_goals first
    | (have hx : ¬ (0 ≤ f ∧ f ≤ 10000 ∧ 1 ≤ p ∧ p ≤ 1000) := by omega
       rw [sel_no (fun q : PtOk xs f p m => hx ⟨q.f0, q.f1, q.p0, q.p1⟩), pB_no (fun q : PtOk xs f p m => hx ⟨q.f0, q.f1, q.p0, q.p1⟩)]
       clear hx
       go_enter Try.func24, Try.ntmps24
       go_wp2_with (first | (go_at_call 17; refine HC.out.mono ?_; rintro e w2 ⟨rfl, rfl⟩))
       go_ret2
       exact ⟨rfl, Below.refl _ _⟩)
    | skip
  obtain ⟨b1, b2, b3, b4⟩ := HP.out f0 f1 p0 p1
  by_cases m0 : -1 ≤ m ∧ m ≤ 1
  · have HV := Lib.hid (show PtOk xs f p m from ⟨HO.out, f0, f1, p0, p1, m0.1, m0.2⟩)
    rw [sel_yes HV.out, pB_yes HV.out]
    obtain ⟨m1, m2⟩ := m0
    go_enter Try.func24, Try.ntmps24
    go_wp2_with (first | (go_at_call 17; refine HC.out.mono ?_; rintro e w2 ⟨rfl, rfl⟩) | (go_at_call 53; refine (trimmedOf_any _ _ _ _ HR.out HO.out).mono ?_; rintro e w3 ⟨rfl, hb⟩; have HB := Lib.hid hb; clear hb) | (go_at_call 59; refine (implRound_yes _ _ _ _ (by omega) (by omega) (by omega) (by omega) (by omega) (by omega)).mono ?_; rintro e w4 ⟨rfl, rfl⟩))
    go_ret2
    exact ⟨rfl, HB.out⟩
  · rw [sel_no (fun q : PtOk xs f p m => m0 ⟨q.m0, q.m1⟩), pB_no (fun q : PtOk xs f p m => m0 ⟨q.m0, q.m1⟩)]
    go_enter Try.func24, Try.ntmps24
    go_wp2_with (first | (go_at_call 17; refine HC.out.mono ?_; rintro e w2 ⟨rfl, rfl⟩) | (go_at_call 53; refine (trimmedOf_any _ _ _ _ HR.out HO.out).mono ?_; rintro e w3 ⟨rfl, hb⟩; have HB := Lib.hid hb; clear hb) | (go_at_call 59; refine (implRound_no _ _ _ _ (by omega)).mono ?_; rintro e w4 ⟨rfl, rfl⟩))
    go_ret2
    exact ⟨rfl, HB.out⟩
set_option maxHeartbeats 1000000 in
theorem sTrimmedPoints_any (A : Option Addr) (c : Nat) (xs : List Int) (f : Int) (p : Int) (m : Int) (w : World) (hr : Ints w w.heap.size A xs) (hl : xs.length ≤ 1048576) :
    Calls Try.prog 23 #[.slice A xs.length c, .int .i64 f, .int .i64 p, .int .i64 m] w fun e w' => e = .returned (.tuple #[.int .i64 (sel (PtOk xs f p m) (rnd (tmS xs * f) ((tmN xs : Nat) * p) m)), .bool (pB (PtOk xs f p m))]) ∧ Below w.heap.size w w' := by
  have HC := Lib.hid (tmGood_any A c xs w _ hr hl)
  have HR := Lib.hid hr
  clear hr
  by_cases h : TmOk xs
  rotate_left
  · rw [pB_no h] at HC
    rw [sel_no (fun q : PtOk xs f p m => h q.ok), pB_no (fun q : PtOk xs f p m => h q.ok)]
    clear h
    go_enter Try.func23, Try.ntmps23
    go_wp2_with (go_at_call 48; refine HC.out.mono ?_; rintro e w2 ⟨rfl, rfl⟩)
    go_ret2
    exact ⟨rfl, Below.refl _ _⟩
  rw [pB_yes h] at HC
  have HO := Lib.hid h
  have HP := Lib.hid (fun (f0 : 0 ≤ f) (f1 : f ≤ 10000) (p0 : 1 ≤ p) (p1 : p ≤ 1000) => pt_bd h f0 f1 p0 p1)
  clear h
  by_cases f0 : 0 ≤ f <;> by_cases f1 : f ≤ 10000 <;> by_cases p0 : 1 ≤ p <;> by_cases p1 : p ≤ 1000 <;> (try (exfalso; omega))
  all_goals first
    | (have hx : ¬ (0 ≤ f ∧ f ≤ 10000 ∧ 1 ≤ p ∧ p ≤ 1000) := by omega
       rw [sel_no (fun q : PtOk xs f p m => hx ⟨q.f0, q.f1, q.p0, q.p1⟩), pB_no (fun q : PtOk xs f p m => hx ⟨q.f0, q.f1, q.p0, q.p1⟩)]
       clear hx
       go_enter Try.func23, Try.ntmps23
       go_wp2_with (first | (go_at_call 48; refine HC.out.mono ?_; rintro e w2 ⟨rfl, rfl⟩) | (go_at_call 56; go_in))
       go_ret2
       exact ⟨rfl, Below.refl _ _⟩)
    | skip
  obtain ⟨b1, b2, b3, b4⟩ := HP.out f0 f1 p0 p1
  by_cases m0 : -1 ≤ m ∧ m ≤ 1
  · have HV := Lib.hid (show PtOk xs f p m from ⟨HO.out, f0, f1, p0, p1, m0.1, m0.2⟩)
    rw [sel_yes HV.out, pB_yes HV.out]
    obtain ⟨m1, m2⟩ := m0
    go_enter Try.func23, Try.ntmps23
    go_wp2_with (first | (go_at_call 48; refine HC.out.mono ?_; rintro e w2 ⟨rfl, rfl⟩) | (go_at_call 52; refine (tmMean_any _ _ _ _ HR.out HO.out).mono ?_; rintro e w3 ⟨rfl, hb⟩; have HB := Lib.hid hb; clear hb) | (go_at_call 58; refine (poMode_any _ _ _ _ (by omega) (by omega) (by omega) (by omega) (by omega) (by omega)).mono ?_; rintro e w4 ⟨rfl, rfl⟩) | (go_at_call 57; go_in) | (go_at_call 56; go_in))
    go_ret2
    exact ⟨rfl, HB.out⟩
  · rw [sel_no (fun q : PtOk xs f p m => m0 ⟨q.m0, q.m1⟩), pB_no (fun q : PtOk xs f p m => m0 ⟨q.m0, q.m1⟩)]
    have HCm := Lib.hid (poIsMode_no m m0)
    clear m0
    go_enter Try.func23, Try.ntmps23
    go_wp2_with (first | (go_at_call 48; refine HC.out.mono ?_; rintro e w2 ⟨rfl, rfl⟩) | (go_at_call 57; refine (HCm.out _).mono ?_; rintro e w4 ⟨rfl, rfl⟩) | (go_at_call 56; go_in))
    go_ret2
    exact ⟨rfl, Below.refl _ _⟩
end Go.Proofs.Ytnambmpnolkfjaa.One
