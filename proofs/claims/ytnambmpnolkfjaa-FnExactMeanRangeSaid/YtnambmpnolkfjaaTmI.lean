/- MeanRange and MostMoved, in the program and in its model. -/
import Derived.Test.YtnambmpnolkfjaaTmH
namespace Go.Proofs.Ytnambmpnolkfjaa.One
open Go.ChangeShapes Go.WideShapes Go.ChangeAt Go.RowKit Go.Lib Go.Proofs
set_option linter.unusedVariables false

structure TmAsked (xs : List Int) (k u v : Int) : Prop where
  has : TmHas xs k
  lo : -1000 ≤ u
  mid : u ≤ v
  hi : v ≤ 1000
theorem tmMean_n (A : Option Addr) (n c : Nat) (xs : List Int) (w : World) (hn : xs.length = n) (hr : Ints w w.heap.size A xs) (h : TmOk xs) :
    Calls Try.prog 52 #[.slice A n c] w fun e w' => e = .returned (.tuple #[.int .i64 (tmS xs), .int .i64 (tmN xs : Nat)]) ∧ Below w.heap.size w w' := by
  subst hn
  exact tmMean_any A c xs w hr h
theorem trimmedOf_n (A : Option Addr) (n c : Nat) (xs : List Int) (w : World) (hn : xs.length = n) (hr : Ints w w.heap.size A xs) (h : TmOk xs) :
    Calls Try.prog 53 #[.slice A n c] w fun e w' => e = .returned (.tuple #[.int .i64 (tmS xs), .int .i64 (tmN xs : Nat)]) ∧ Below w.heap.size w w' := by
  subst hn
  exact trimmedOf_any A c xs w hr h
theorem tmN_set (xs : List Int) (k : Nat) (v : Int) : tmN (xs.set k v) = tmN xs := by unfold tmN; rw [List.length_set]
theorem rowAt_ints {w : World} {g : Nat} {xs : List Int} (h : RowAt w g xs) (hg : g < w.heap.size) : Ints w w.heap.size (some ⟨g, 0, none⟩) xs := fun _ => ⟨g, 0, rfl, hg, fun i hi => by rw [Nat.zero_add]; exact (h i hi).1⟩
theorem tmAsked_any (A : Option Addr) (c : Nat) (xs : List Int) (k u v : Int) (w : World) (B : Nat) (hr : Ints w B A xs) (hl : xs.length ≤ 1048576) :
    Calls Try.prog 68 #[.slice A xs.length c, .int .i64 k, .int .i64 u, .int .i64 v] w fun e w' => e = .returned (.bool (pB (TmAsked xs k u v))) ∧ w' = w := by
  have HC := Lib.hid (tmHas_any A c xs k w B hr hl)
  have H1 := Lib.hid (l1In_b u (-1000) v)
  have H2 := Lib.hid (l1In_b v u 1000)
  clear hr
  by_cases h : TmHas xs k
  · rw [pB_yes h] at HC
    by_cases h1 : -1000 ≤ u ∧ u ≤ v
    · rw [pB_yes h1] at H1
      by_cases h2 : u ≤ v ∧ v ≤ 1000
      · rw [pB_yes h2] at H2
        rw [pB_yes (show TmAsked xs k u v from ⟨h, h1.1, h1.2, h2.2⟩)]
        clear h h1 h2
        go_enter Try.func68, Try.ntmps68
        go_wp2_with (first | (go_at_call 60; refine HC.out.mono ?_; rintro e w2 ⟨rfl, rfl⟩) | (go_at_call 56; with_reducible refine (H1.out _).mono ?_; rintro e w2 ⟨rfl, rfl⟩) | (go_at_call 56; with_reducible refine (H2.out _).mono ?_; rintro e w2 ⟨rfl, rfl⟩))
        go_ret
        exact ⟨rfl, rfl⟩
      · rw [pB_no h2] at H2
        rw [pB_no (fun q : TmAsked xs k u v => h2 ⟨q.mid, q.hi⟩)]
        clear h h1 h2
        go_enter Try.func68, Try.ntmps68
        go_wp2_with (first | (go_at_call 60; refine HC.out.mono ?_; rintro e w2 ⟨rfl, rfl⟩) | (go_at_call 56; with_reducible refine (H1.out _).mono ?_; rintro e w2 ⟨rfl, rfl⟩) | (go_at_call 56; with_reducible refine (H2.out _).mono ?_; rintro e w2 ⟨rfl, rfl⟩))
        go_ret
        exact ⟨rfl, rfl⟩
    · rw [pB_no h1] at H1
      rw [pB_no (fun q : TmAsked xs k u v => h1 ⟨q.lo, q.mid⟩)]
      clear h h1 H2
      go_enter Try.func68, Try.ntmps68
      go_wp2_with (first | (go_at_call 60; refine HC.out.mono ?_; rintro e w2 ⟨rfl, rfl⟩) | (go_at_call 56; with_reducible refine (H1.out _).mono ?_; rintro e w2 ⟨rfl, rfl⟩))
      go_ret
      exact ⟨rfl, rfl⟩
  · rw [pB_no h] at HC
    rw [pB_no (fun q : TmAsked xs k u v => h q.has)]
    clear h H1 H2
    go_enter Try.func68, Try.ntmps68
    go_wp2_with (go_at_call 60; refine HC.out.mono ?_; rintro e w2 ⟨rfl, rfl⟩)
    go_ret
    exact ⟨rfl, rfl⟩
/-- WithMark of the program, in one form for both of its ways. -/
theorem iWithMark_w (A : Option Addr) (c : Nat) (xs : List Int) (k v : Int) (w : World) (hr : Ints w w.heap.size A xs) (hl : xs.length ≤ 1048576) :
    Calls Try.prog 34 #[.slice A xs.length c, .int .i64 k, .int .i64 v] w fun e w' => ∃ A' c' n ys, e = .returned (.tuple #[.slice A' n c', .bool (pB (WmOk xs k v))]) ∧ (WmOk xs k v → ys = xs.set k.toNat v ∧ n = xs.length) ∧ Ints w' w'.heap.size A' ys ∧ Below w.heap.size w w' := by
  by_cases h : WmOk xs k v
  · refine (iWithMark_yes A c xs k v w hr hl h).mono ?_
    rintro e w' ⟨A', c', ys, rfl, hy, ho, hb⟩
    exact ⟨A', c', _, ys, by rw [pB_yes h], fun _ => ⟨hy, by rw [hy, List.length_set]⟩, ho.intsUp, hb⟩
  · refine (iWithMark_no A c xs k v w hr hl h).mono ?_
    rintro e w' ⟨A', c', ys, rfl, hy, ho, hb⟩
    exact ⟨A', c', _, ys, by rw [pB_no h], fun q => absurd q h, ho.intsUp, hb⟩
set_option maxHeartbeats 2000000 in
theorem sumRange_any (A : Option Addr) (c : Nat) (xs : List Int) (k u v : Int) (w : World) (hr : Ints w w.heap.size A xs) (hl : xs.length ≤ 1048576) :
    Calls Try.prog 69 #[.slice A xs.length c, .int .i64 k, .int .i64 u, .int .i64 v] w fun e w' => e = .returned (.tuple #[.int .i64 (sel (TmAsked xs k u v) (tmS (xs.set k.toNat u))), .int .i64 (sel (TmAsked xs k u v) (tmS (xs.set k.toNat v))), .int .i64 (sel (TmAsked xs k u v) (tmN xs : Nat)), .bool (pB (TmAsked xs k u v))]) ∧ Below w.heap.size w w' := by
  have HR := Lib.hid hr
  clear hr
  by_cases huv : u ≤ v
  rotate_left
  · have hno : ¬ TmAsked xs k u v := fun q => huv q.mid
    rw [sel_no hno, sel_no hno, sel_no hno, pB_no hno]
    have h2 : v < u := by omega
    clear hno
    go_enter Try.func69, Try.ntmps69
    go_wp2
    go_returns
    exact ⟨rfl, Below.refl _ _⟩
  have h2 : ¬ v < u := by omega
  by_cases hu : WmOk xs k u <;> by_cases hv : WmOk xs k v
  · have hy : TmAsked xs k u v := ⟨hu.has, hu.val.1, huv, hv.val.2⟩
    rw [sel_yes hy, sel_yes hy, sel_yes hy, pB_yes hy]
    have HU := Lib.hid hu
    have HV := Lib.hid hv
    have HOU := Lib.hid (set_ok hu.has.ok k.toNat u hu.val.1 hu.val.2)
    have HOV := Lib.hid (set_ok hu.has.ok k.toNat v hv.val.1 hv.val.2)
    clear hy hu hv huv
    go_enter Try.func69, Try.ntmps69
    go_wp2_with fail
    refine (iWithMark_w A c xs k u _ HR.out hl).mono ?_
    rintro e w1 ⟨A1, c1, n1, ys1, rfl, hy1, hi1, hb1⟩
    obtain ⟨rfl, rfl⟩ := hy1 HU.out
    rw [pB_yes HU.out]
    have HI1 := Lib.hid hi1
    have HB1 := Lib.hid hb1
    have HR1 := Lib.hid (HR.out.next hb1)
    clear hy1 hi1 hb1
    go_wp2_with fail
    refine (iWithMark_w A c xs k v _ HR1.out hl).mono ?_
    rintro e w2 ⟨A2, c2, n2, ys2, rfl, hy2, hi2, hb2⟩
    obtain ⟨rfl, rfl⟩ := hy2 HV.out
    rw [pB_yes HV.out]
    have HI2 := Lib.hid hi2
    have HI1b := Lib.hid (HI1.out.next hb2)
    have HB2 := Lib.hid (Below_then HB1.out hb2)
    clear hy2 hi2 hb2
    go_wp2_with fail
    refine (trimmedOf_n A1 xs.length c1 _ _ List.length_set HI1b.out HOU.out).mono ?_
    rintro e w3 ⟨rfl, hb3⟩
    have HI2b := Lib.hid (HI2.out.next hb3)
    have HB3 := Lib.hid (Below_then HB2.out hb3)
    clear hb3
    go_wp2_with fail
    refine (trimmedOf_n A2 xs.length c2 _ _ List.length_set HI2b.out HOV.out).mono ?_
    rintro e w4 ⟨rfl, hb4⟩
    have HB4 := Lib.hid (Below_then HB3.out hb4)
    clear hb4
    go_wp2
    go_returns
    rw [tmN_set]
    exact ⟨rfl, HB4.out⟩
  all_goals
    have hno : ¬ TmAsked xs k u v := fun q => by
      first
        | exact hu ⟨q.has, q.lo, by have := q.mid; have := q.hi; omega⟩
        | exact hv ⟨q.has, by have := q.mid; have := q.lo; omega, q.hi⟩
    rw [sel_no hno, sel_no hno, sel_no hno, pB_no hno]
    have HU := Lib.hid hu
    have HV := Lib.hid hv
    clear hno hu hv huv
    go_enter Try.func69, Try.ntmps69
    go_wp2_with fail
    refine (iWithMark_w A c xs k u _ HR.out hl).mono ?_
    rintro e w1 ⟨A1, c1, n1, ys1, rfl, hy1, hi1, hb1⟩
    first | rw [pB_yes HU.out] | rw [pB_no HU.out]
    have HB1 := Lib.hid hb1
    have HR1 := Lib.hid (HR.out.next hb1)
    clear hy1 hi1 hb1
    go_wp2_with fail
    refine (iWithMark_w A c xs k v _ HR1.out hl).mono ?_
    rintro e w2 ⟨A2, c2, n2, ys2, rfl, hy2, hi2, hb2⟩
    first | rw [pB_yes HV.out] | rw [pB_no HV.out]
    have HB2 := Lib.hid (Below_then HB1.out hb2)
    clear hy2 hi2 hb2
    go_wp2
    go_returns
    exact ⟨rfl, HB2.out⟩
end Go.Proofs.Ytnambmpnolkfjaa.One
