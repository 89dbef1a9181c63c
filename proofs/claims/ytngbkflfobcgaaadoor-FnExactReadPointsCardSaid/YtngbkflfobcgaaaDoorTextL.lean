/- The walk of the law PointsText: it answers true at every number; the one table that the library reads is told. -/
import Derived.Test.YtngbkflfobcgaaaDoorText
namespace Go.Proofs.YtngbkflfobcgaaaDoor
open Go.ChangeShapes Go.WideShapes Go.ChangeAt Go.RowKit
set_option linter.unusedVariables false

theorem gPow : Tryd.prog.globalNamed "internal/strconv.uint64pow10" = some 0 := by kernel_rfl
/-- The library's table of powers of ten holds what it is laid with. -/
def Tab (w : World) : Prop := 0 < w.heap.size ∧ Lib.TabIs Tryd.prog w "internal/strconv.uint64pow10" .u64 Lib.pow10Tab
theorem Tab.next {w w' : World} (h : Tab w) (hb : Below w.heap.size w w') : Tab w' := ⟨Nat.lt_of_lt_of_le h.1 hb.size, var?_below hb gPow h.1 h.2⟩

theorem itoa_any (v : Int) (w : World) (h0 : 0 ≤ v) (h : v ≤ 1000000000000) (ht : Tab w) :
    Calls Tryd.prog 12 #[.int .i64 v] w fun e w' => e = .returned (.string (DI v)) ∧ Below w.heap.size w w' :=
  (Tryd.strconv_Itoa v (by omega) (by omega) w ht.2).mono fun e w' ⟨he, k, os, hw⟩ => by
    refine ⟨?_, ?_⟩
    · rw [he]
      unfold Lib.itoa
      rw [if_neg (by omega)]
      rfl
    · rw [hw]
      exact ⟨rfl, rfl, rfl, by simp, fun i hi => Sort.heap_grow_old _ _ hi⟩
theorem itoa_small (v : Int) (w : World) (h0 : 0 ≤ v) (h : v < 100) :
    Calls Tryd.prog 12 #[.int .i64 v] w fun e w' => e = .returned (.string (DI v)) ∧ w = w' := by
  have := Tryd.strconv_Itoa_small v.toNat (by omega) w
  rw [show ((v.toNat : Nat) : Int) = v by omega] at this
  exact this.mono fun e w' ⟨he, hw⟩ => ⟨he, hw.symm⟩

theorem text_neg (a b c d : ByteArray) : (⟨#[45]⟩ : ByteArray) ++ a ++ b ++ c ++ d = ⟨#[45]⟩ ++ (a ++ b ++ c ++ d) := by
  apply ByteArray.ext
  simp [ByteArray.data_append]
theorem text_pos (a b c d : ByteArray) : (⟨#[]⟩ : ByteArray) ++ a ++ b ++ c ++ d = a ++ b ++ c ++ d := by
  apply ByteArray.ext
  simp [ByteArray.data_append]
theorem ret_text {a b : ByteArray} {c : Bool} (h : a = b) : Ending.returned (.tuple #[.string a, .bool c]) = .returned (.tuple #[.string b, .bool c]) := by rw [h]

theorem iText_yes (n : Int) (w : World) (h0 : -1000000 ≤ n) (h : n ≤ 1000000) (ht : Tab w) :
    Calls Tryd.prog 6 #[.int .i64 n] w fun e w' => e = .returned (.tuple #[.string (PX n), .bool true]) ∧ Below w.heap.size w w' := by
  have HT := Lib.hid ht
  clear ht
  by_cases hn : n < 0
  · obtain ⟨m, rfl⟩ : ∃ m, n = -m := ⟨-n, by omega⟩
    have HP := Lib.hid (show PX (-m) = ⟨#[45]⟩ ++ PT m by unfold PX; rw [if_pos hn, Int.neg_neg])
    have s1 := DI_size (m / 100) (by omega) (by omega)
    have s2 := DI_size (m / 10 % 10) (by omega) (by omega)
    have s3 := DI_size (m % 10) (by omega) (by omega)
    have b1 : 0 ≤ m / 10 % 10 := by omega
    have b2 : m / 10 % 10 < 100 := by omega
    have b3 : 0 ≤ m % 10 := by omega
    have b4 : m % 10 < 100 := by omega
    have b6 : 0 ≤ m / 100 := by omega
    go_enter Tryd.func6, Tryd.ntmps6
    go_wp2_with (first | (go_at_call 11; go_in))
    refine (itoa_any (m / 100) _ b6 (by omega) HT.out).mono ?_
    rintro e w1 ⟨rfl, hb1⟩
    have HB1 := Lib.hid hb1; clear hb1
    go_wp2_with fail
    refine (itoa_small (m / 10 % 10) _ b1 b2).mono ?_
    rintro e w' ⟨rfl, rfl⟩
    go_wp2_with fail
    refine (itoa_small (m % 10) _ b3 b4).mono ?_
    rintro e w' ⟨rfl, rfl⟩
    go_wp2_with fail
    go_ret2
    exact ⟨ret_text (by rw [HP.out]; exact text_neg _ _ _ _), HB1.out⟩
  · have HP := Lib.hid (show PX n = PT n by unfold PX; rw [if_neg hn])
    have s1 := DI_size (n / 100) (by omega) (by omega)
    have s2 := DI_size (n / 10 % 10) (by omega) (by omega)
    have s3 := DI_size (n % 10) (by omega) (by omega)
    have b1 : 0 ≤ n / 10 % 10 := by omega
    have b2 : n / 10 % 10 < 100 := by omega
    have b3 : 0 ≤ n % 10 := by omega
    have b4 : n % 10 < 100 := by omega
    have b6 : 0 ≤ n / 100 := by omega
    go_enter Tryd.func6, Tryd.ntmps6
    go_wp2_with (first | (go_at_call 11; go_in))
    refine (itoa_any (n / 100) _ b6 (by omega) HT.out).mono ?_
    rintro e w1 ⟨rfl, hb1⟩
    have HB1 := Lib.hid hb1; clear hb1
    go_wp2_with fail
    refine (itoa_small (n / 10 % 10) _ b1 b2).mono ?_
    rintro e w' ⟨rfl, rfl⟩
    go_wp2_with fail
    refine (itoa_small (n % 10) _ b3 b4).mono ?_
    rintro e w' ⟨rfl, rfl⟩
    go_wp2_with fail
    go_ret2
    exact ⟨ret_text (by rw [HP.out]; exact text_pos _ _ _ _), HB1.out⟩
theorem iText_no (n : Int) (w : World) (h : ¬ (-1000000 ≤ n ∧ n ≤ 1000000)) :
    Calls Tryd.prog 6 #[.int .i64 n] w fun e w' => e = .returned (.tuple #[.string ⟨#[]⟩, .bool false]) ∧ w = w' := by
  by_cases h1 : -1000000 ≤ n <;> by_cases h2 : n ≤ 1000000 <;> first | (exfalso; omega) | skip
  all_goals
    clear h
    go_enter Tryd.func6, Tryd.ntmps6
    go_wp2
    go_ret2
    exact ⟨rfl, rfl⟩
theorem sText_yes (n : Int) (w : World) (h0 : -1000000 ≤ n) (h : n ≤ 1000000) :
    Calls Tryd.prog 5 #[.int .i64 n] w fun e w' => e = .returned (.tuple #[.string (PX n), .bool true]) ∧ Below w.heap.size w w' := by
  go_enter Tryd.func5, Tryd.ntmps5
  go_wp2_with (first | (go_at_call 10; (with_reducible refine (poText_any n _ (by omega) (by omega)).mono ?_); rintro e w' ⟨rfl, hb⟩) | (go_at_call 9; go_in) | (go_at_call 14; go_in))
  go_ret2
  exact ⟨rfl, hb⟩
theorem sText_no (n : Int) (w : World) (h : ¬ (-1000000 ≤ n ∧ n ≤ 1000000)) :
    Calls Tryd.prog 5 #[.int .i64 n] w fun e w' => e = .returned (.tuple #[.string ⟨#[]⟩, .bool false]) ∧ w = w' := by
  by_cases h1 : -1000000 ≤ n <;> by_cases h2 : n ≤ 1000000 <;> first | (exfalso; omega) | skip
  all_goals
    clear h
    go_enter Tryd.func5, Tryd.ntmps5
    go_wp2
    go_ret2
    exact ⟨rfl, rfl⟩

theorem walkPointsText (a0 : Int) (w0 : (Lit.int .i64 a0).wf = true) (w : World) (ht : Tab w) :
    Calls Tryd.prog 3 #[.int .i64 a0] w fun e w' => e = .returned (.bool true) ∧ Below w.heap.size w w' := by
  have HT := Lib.hid ht
  clear ht w0
  by_cases h : -1000000 ≤ a0 ∧ a0 ≤ 1000000
  · obtain ⟨h1, h2⟩ := h
    go_enter Tryd.func3, Tryd.ntmps3
    go_wp2_with fail
    refine (sText_yes _ _ h1 h2).mono ?_
    rintro e w1 ⟨rfl, hb1⟩
    have HB1 := Lib.hid hb1; have HT1 := Lib.hid (HT.out.next hb1); clear hb1
    go_wp2_with fail
    refine (iText_yes _ _ h1 h2 HT1.out).mono ?_
    rintro e w2 ⟨rfl, hb2⟩
    have HB2 := Lib.hid hb2; clear hb2
    go_wp2_with fail
    go_ret
    exact ⟨rfl, Below_then HB1.out HB2.out⟩
  · have H := Lib.hid h
    clear h
    go_enter Tryd.func3, Tryd.ntmps3
    go_wp2_with (first | (go_at_call 5; refine (sText_no _ _ H.out).mono ?_; rintro e w' ⟨rfl, rfl⟩) | (go_at_call 6; refine (iText_no _ _ H.out).mono ?_; rintro e w' ⟨rfl, rfl⟩))
    go_ret
    exact ⟨rfl, Below.refl _ _⟩
end Go.Proofs.YtngbkflfobcgaaaDoor
