/- The walks of the laws WithoutMark and WithMark. -/
import Derived.Test.YtnambmpnolkfjaaTmH
namespace Go.Proofs.Ytnambmpnolkfjaa.One
open Go.ChangeShapes Go.WideShapes Go.ChangeAt Go.RowKit Go.Lib Go.Proofs
set_option linter.unusedVariables false

theorem toIntS_own (A : Option Addr) (c : Nat) (xs : List Int) (w : World) (hr : Ints w w.heap.size A xs) (hl : xs.length ≤ 1048576) :
    Calls Try.prog 16 #[.slice A xs.length c] w fun e w' => e = .returned (.slice (some ⟨w.heap.size, 0, none⟩) xs.length xs.length) ∧ Owned w' w.heap.size w'.heap.size (some ⟨w.heap.size, 0, none⟩) xs ∧ Below w.heap.size w w' :=
  (toIntS_any A c xs w hr hl).mono fun e w' ⟨he, ho, hb⟩ => ⟨he, owned_of_row (row_of_block (own_block ho)) (Nat.le_refl _) (lt_of_block (own_block ho)), hb⟩

theorem Ints.at' {w w' : World} {A : Option Addr} {xs : List Int} (h : Ints w w.heap.size A xs) (hb : Below w.heap.size w w') : Ints w' w'.heap.size A xs := (h.below hb (Nat.le_refl _)).up hb.size

set_option maxHeartbeats 1000000 in
theorem ownWithoutMark (ok : Bool) (P : List Int → Prop) (xs : List Int) (k : Int) (hP : ∀ a b, P a → P b → a = b) (hL : ∀ a, P a → a.length ≤ 1048576)
    (hS : ∀ A c w, c = xs.length → Ints w w.heap.size A xs → Calls Try.prog 29 #[.slice A xs.length c, .int .i64 k] w (Lists w ok P))
    (hI : ∀ A c w, c = xs.length → Ints w w.heap.size A xs → Calls Try.prog 30 #[.slice A xs.length c, .int .i64 k] w (Lists w ok P))
    (A : Option Addr) (c : Nat) (w : World) (hx : Ints w w.heap.size A xs) (hl : xs.length ≤ 1048576) :
    Calls Try.prog 9 #[.slice A xs.length c, .int .i64 k] w fun e w' => e = .returned (.bool true) ∧ Below w.heap.size w w' := by
  have HP := Lib.hid hP
  have HL := Lib.hid hL
  have HS := Lib.hid hS
  have HI := Lib.hid hI
  have HX := Lib.hid hx
  clear hP hL hS hI hx
  go_enter Try.func9, Try.ntmps9
  go_wp2_with fail
  refine (toIntS_own _ _ _ _ HX.out hl).mono ?_
  rintro e w1 ⟨rfl, ho1, hb1⟩
  have HO1 := Lib.hid ho1; have HB1 := Lib.hid hb1; clear ho1 hb1
  go_wp2_with fail
  refine (HS.out _ _ _ rfl HO1.out.intsUp).mono ?_
  rintro e w2 ⟨A2, c2, zs, rfl, hp2, ho2, hb2⟩
  have HP2 := Lib.hid hp2; have HO2 := Lib.hid ho2; have T2 := Lib.hid (Below_then HB1.out hb2); clear hp2 ho2 hb2
  have hzl := HL.out _ HP2.out
  go_wp2_with fail
  refine (toIntS_own _ _ _ _ (HX.out.at' T2.out) hl).mono ?_
  rintro e w3 ⟨rfl, ho3, hb3⟩
  have HO3 := Lib.hid ho3; have HB3 := Lib.hid hb3; have T3 := Lib.hid (Below_then T2.out hb3); have HO2b := Lib.hid (HO2.out.keepB hb3 (Nat.le_refl _)); clear ho3 hb3
  go_wp2_with fail
  refine (HI.out _ _ _ rfl HO3.out.intsUp).mono ?_
  rintro e w4 ⟨A4, c4, ys, rfl, hp4, ho4, hb4⟩
  obtain rfl := HP.out _ _ HP2.out hp4
  have HO4 := Lib.hid ho4; have T4 := Lib.hid (Below_then T3.out hb4); have HO2c := Lib.hid (HO2b.out.keepB hb4 HB3.out.size); have HO3b := Lib.hid (HO3.out.keepB hb4 (Nat.le_refl _))
  have HZ4 := Lib.hid hb4.size
  have HZ3 := Lib.hid HB3.out.size
  clear hp4 ho4 hb4
  go_wp2_with fail
  refine (eqIntS_below _ _ _ _ _ _ HO4.out.intsUp HO2c.out.intsUp hzl).mono ?_
  rintro e w5 ⟨rfl, hb5⟩
  have T5 := Lib.hid (Below_then T4.out hb5)
  have HO4b := Lib.hid (HO4.out.keepB hb5 (Nat.le_refl _)); have HO2d := Lib.hid (HO2c.out.keepB hb5 (Nat.le_trans HZ3.out HZ4.out)); have HO3c := Lib.hid (HO3b.out.keepB hb5 HZ4.out)
  have HZ5 := Lib.hid hb5.size
  clear hb5
  go_wp2_with fail
  refine (toIntS_own _ _ _ _ (HX.out.at' T5.out) hl).mono ?_
  rintro e w6 ⟨rfl, ho6, hb6⟩
  have HO6 := Lib.hid ho6; have T6 := Lib.hid (Below_then T5.out hb6)
  have HO4c := Lib.hid (HO4b.out.keepB hb6 HZ5.out); have HO2e := Lib.hid (HO2d.out.keepB hb6 (Nat.le_trans HZ3.out (Nat.le_trans HZ4.out HZ5.out))); have HO3d := Lib.hid (HO3c.out.keepB hb6 (Nat.le_trans HZ4.out HZ5.out))
  have HZ6 := Lib.hid hb6.size
  clear ho6 hb6
  go_wp2_with fail
  refine (eqIntS_below _ _ _ _ _ _ HO3d.out.intsUp HO6.out.intsUp hl).mono ?_
  rintro e w7 ⟨rfl, hb7⟩
  have T7 := Lib.hid (Below_then T6.out hb7)
  have HO4d := Lib.hid (HO4c.out.keepB hb7 (Nat.le_trans HZ5.out HZ6.out)); have HO2f := Lib.hid (HO2e.out.keepB hb7 (Nat.le_trans HZ3.out (Nat.le_trans HZ4.out (Nat.le_trans HZ5.out HZ6.out)))); have HO3e := Lib.hid (HO3d.out.keepB hb7 (Nat.le_trans HZ4.out (Nat.le_trans HZ5.out HZ6.out)))
  clear hb7
  go_wp2_with fail
  refine (markIntS_any _ _ _ _ _ _ _ HO3e.out hl (by omega) (by omega)).mono ?_
  rintro e w8 ⟨rfl, _, hn8⟩
  have T8 := Lib.hid (T7.out.trans ((hn8.below HO2f.out.1).mono T2.out.size))
  have HO4e := Lib.hid (HO4d.out.keep hn8 (.inr (Nat.le_refl _))); have HO2g := Lib.hid (HO2f.out.keep hn8 (.inl (Nat.le_refl _)))
  clear hn8
  go_wp2_with fail
  refine (eqIntS_below _ _ _ _ _ _ HO4e.out.intsUp HO2g.out.intsUp hzl).mono ?_
  rintro e w9 ⟨rfl, hb9⟩
  have T9 := Lib.hid (Below_then T8.out hb9)
  have HO4f := Lib.hid (HO4e.out.keepB hb9 HO4e.out.1); have HO2h := Lib.hid (HO2g.out.keepB hb9 HO2g.out.1)
  clear hb9
  go_wp2_with fail
  refine (markIntS_any _ _ _ _ _ _ _ HO4f.out hzl (by omega) (by omega)).mono ?_
  rintro e w10 ⟨rfl, ho10, hn10⟩
  have HO10 := Lib.hid ho10
  have T10 := Lib.hid (T9.out.trans ((hn10.below (Nat.le_trans HZ4.out HO4f.out.1)).mono T3.out.size))
  have HO2i := Lib.hid (HO2h.out.keep hn10 (.inl HZ3.out))
  clear ho10 hn10
  go_wp2_with fail
  refine (heldIntS_any _ _ _ _ _ _ HO10.out.ints hzl (by omega) (by omega)).mono ?_
  rintro e w' ⟨rfl, rfl⟩
  go_wp2_with fail
  refine (toIntS_own _ _ _ _ (HX.out.at' T10.out) hl).mono ?_
  rintro e w11 ⟨rfl, ho11, hb11⟩
  have HO11 := Lib.hid ho11; have T11 := Lib.hid (Below_then T10.out hb11)
  have HO10b := Lib.hid (HO10.out.keepB hb11 HO10.out.1); have HO2j := Lib.hid (HO2i.out.keepB hb11 HO2i.out.1)
  clear ho11 hb11
  go_wp2_with fail
  refine (HI.out _ _ _ rfl HO11.out.intsUp).mono ?_
  rintro e w12 ⟨A12, c12, ys, rfl, hp12, ho12, hb12⟩
  obtain rfl := HP.out _ _ HP2.out hp12
  have HO12 := Lib.hid ho12; have T12 := Lib.hid (Below_then T11.out hb12)
  have HO10c := Lib.hid (HO10b.out.keepB hb12 HO10b.out.1); have HO2k := Lib.hid (HO2j.out.keepB hb12 HO2j.out.1)
  clear hp12 ho12 hb12
  go_wp2_with fail
  refine (eqIntS_below _ _ _ _ _ _ HO12.out.intsUp HO2k.out.intsUp hzl).mono ?_
  rintro e w13 ⟨rfl, hb13⟩
  have T13 := Lib.hid (Below_then T12.out hb13)
  have HO10d := Lib.hid (HO10c.out.keepB hb13 HO10c.out.1)
  clear hb13
  go_wp2_with fail
  refine (heldIntS_any _ _ _ _ _ _ HO10d.out.ints hzl (by omega) (by omega)).mono ?_
  rintro e w' ⟨rfl, rfl⟩
  go_wp2_with fail
  go_ret
  exact ⟨rfl, T13.out⟩

theorem walkWithoutMark (A : Option Addr) (c : Nat) (xs : List Int) (k : Int) (w : World) (hw1 : (Lit.int .i64 k).wf = true) (hx : Ints w w.heap.size A xs) :
    Calls Try.prog 9 #[.slice A xs.length c, .int .i64 k] w fun e w' => e = .returned (.bool true) ∧ Below w.heap.size w w' := by
  clear hw1
  by_cases hl : xs.length ≤ 1048576
  · by_cases h : WoOk xs k
    · exact ownWithoutMark true (fun ys => ys = xs.eraseIdx k.toNat) xs k (fun a b ha hb => ha.trans hb.symm) (fun a ha => by rw [ha]; have := List.length_eraseIdx_le xs k.toNat; omega) (fun A c w hc hr => sWithoutMark_yes A c xs k w hc hr hl h) (fun A c w hc hr => iWithoutMark_yes A c xs k w hc hr hl h) A c w hx hl
    · exact ownWithoutMark false (· = []) xs k (fun a b ha hb => ha.trans hb.symm) (fun a ha => by rw [ha]; simp) (fun A c w hc hr => sWithoutMark_no A c xs k w hc hr hl h) (fun A c w hc hr => iWithoutMark_no A c xs k w hc hr hl h) A c w hx hl
  · clear hx
    go_enter Try.func9, Try.ntmps9
    go_wp2
    go_ret
    exact ⟨rfl, Below.refl _ _⟩
set_option maxHeartbeats 1000000 in
theorem ownWithMark (ok : Bool) (P : List Int → Prop) (xs : List Int) (k : Int) (v : Int) (hP : ∀ a b, P a → P b → a = b) (hL : ∀ a, P a → a.length ≤ 1048576)
    (hS : ∀ A c w, c = xs.length → Ints w w.heap.size A xs → Calls Try.prog 33 #[.slice A xs.length c, .int .i64 k, .int .i64 v] w (Lists w ok P))
    (hI : ∀ A c w, c = xs.length → Ints w w.heap.size A xs → Calls Try.prog 34 #[.slice A xs.length c, .int .i64 k, .int .i64 v] w (Lists w ok P))
    (A : Option Addr) (c : Nat) (w : World) (hx : Ints w w.heap.size A xs) (hl : xs.length ≤ 1048576) :
    Calls Try.prog 10 #[.slice A xs.length c, .int .i64 k, .int .i64 v] w fun e w' => e = .returned (.bool true) ∧ Below w.heap.size w w' := by
  have HP := Lib.hid hP
  have HL := Lib.hid hL
  have HS := Lib.hid hS
  have HI := Lib.hid hI
  have HX := Lib.hid hx
  clear hP hL hS hI hx
  go_enter Try.func10, Try.ntmps10
  go_wp2_with fail
  refine (toIntS_own _ _ _ _ HX.out hl).mono ?_
  rintro e w1 ⟨rfl, ho1, hb1⟩
  have HO1 := Lib.hid ho1; have HB1 := Lib.hid hb1; clear ho1 hb1
  go_wp2_with fail
  refine (HS.out _ _ _ rfl HO1.out.intsUp).mono ?_
  rintro e w2 ⟨A2, c2, zs, rfl, hp2, ho2, hb2⟩
  have HP2 := Lib.hid hp2; have HO2 := Lib.hid ho2; have T2 := Lib.hid (Below_then HB1.out hb2); clear hp2 ho2 hb2
  have hzl := HL.out _ HP2.out
  go_wp2_with fail
  refine (toIntS_own _ _ _ _ (HX.out.at' T2.out) hl).mono ?_
  rintro e w3 ⟨rfl, ho3, hb3⟩
  have HO3 := Lib.hid ho3; have HB3 := Lib.hid hb3; have T3 := Lib.hid (Below_then T2.out hb3); have HO2b := Lib.hid (HO2.out.keepB hb3 (Nat.le_refl _)); clear ho3 hb3
  go_wp2_with fail
  refine (HI.out _ _ _ rfl HO3.out.intsUp).mono ?_
  rintro e w4 ⟨A4, c4, ys, rfl, hp4, ho4, hb4⟩
  obtain rfl := HP.out _ _ HP2.out hp4
  have HO4 := Lib.hid ho4; have T4 := Lib.hid (Below_then T3.out hb4); have HO2c := Lib.hid (HO2b.out.keepB hb4 HB3.out.size); have HO3b := Lib.hid (HO3.out.keepB hb4 (Nat.le_refl _))
  have HZ4 := Lib.hid hb4.size
  have HZ3 := Lib.hid HB3.out.size
  clear hp4 ho4 hb4
  go_wp2_with fail
  refine (eqIntS_below _ _ _ _ _ _ HO4.out.intsUp HO2c.out.intsUp hzl).mono ?_
  rintro e w5 ⟨rfl, hb5⟩
  have T5 := Lib.hid (Below_then T4.out hb5)
  have HO4b := Lib.hid (HO4.out.keepB hb5 (Nat.le_refl _)); have HO2d := Lib.hid (HO2c.out.keepB hb5 (Nat.le_trans HZ3.out HZ4.out)); have HO3c := Lib.hid (HO3b.out.keepB hb5 HZ4.out)
  have HZ5 := Lib.hid hb5.size
  clear hb5
  go_wp2_with fail
  refine (toIntS_own _ _ _ _ (HX.out.at' T5.out) hl).mono ?_
  rintro e w6 ⟨rfl, ho6, hb6⟩
  have HO6 := Lib.hid ho6; have T6 := Lib.hid (Below_then T5.out hb6)
  have HO4c := Lib.hid (HO4b.out.keepB hb6 HZ5.out); have HO2e := Lib.hid (HO2d.out.keepB hb6 (Nat.le_trans HZ3.out (Nat.le_trans HZ4.out HZ5.out))); have HO3d := Lib.hid (HO3c.out.keepB hb6 (Nat.le_trans HZ4.out HZ5.out))
  have HZ6 := Lib.hid hb6.size
  clear ho6 hb6
  go_wp2_with fail
  refine (eqIntS_below _ _ _ _ _ _ HO3d.out.intsUp HO6.out.intsUp hl).mono ?_
  rintro e w7 ⟨rfl, hb7⟩
  have T7 := Lib.hid (Below_then T6.out hb7)
  have HO4d := Lib.hid (HO4c.out.keepB hb7 (Nat.le_trans HZ5.out HZ6.out)); have HO2f := Lib.hid (HO2e.out.keepB hb7 (Nat.le_trans HZ3.out (Nat.le_trans HZ4.out (Nat.le_trans HZ5.out HZ6.out)))); have HO3e := Lib.hid (HO3d.out.keepB hb7 (Nat.le_trans HZ4.out (Nat.le_trans HZ5.out HZ6.out)))
  clear hb7
  go_wp2_with fail
  refine (markIntS_any _ _ _ _ _ _ _ HO3e.out hl (by omega) (by omega)).mono ?_
  rintro e w8 ⟨rfl, _, hn8⟩
  have T8 := Lib.hid (T7.out.trans ((hn8.below HO2f.out.1).mono T2.out.size))
  have HO4e := Lib.hid (HO4d.out.keep hn8 (.inr (Nat.le_refl _))); have HO2g := Lib.hid (HO2f.out.keep hn8 (.inl (Nat.le_refl _)))
  clear hn8
  go_wp2_with fail
  refine (eqIntS_below _ _ _ _ _ _ HO4e.out.intsUp HO2g.out.intsUp hzl).mono ?_
  rintro e w9 ⟨rfl, hb9⟩
  have T9 := Lib.hid (Below_then T8.out hb9)
  have HO4f := Lib.hid (HO4e.out.keepB hb9 HO4e.out.1); have HO2h := Lib.hid (HO2g.out.keepB hb9 HO2g.out.1)
  clear hb9
  go_wp2_with fail
  refine (markIntS_any _ _ _ _ _ _ _ HO4f.out hzl (by omega) (by omega)).mono ?_
  rintro e w10 ⟨rfl, ho10, hn10⟩
  have HO10 := Lib.hid ho10
  have T10 := Lib.hid (T9.out.trans ((hn10.below (Nat.le_trans HZ4.out HO4f.out.1)).mono T3.out.size))
  have HO2i := Lib.hid (HO2h.out.keep hn10 (.inl HZ3.out))
  clear ho10 hn10
  go_wp2_with fail
  refine (heldIntS_any _ _ _ _ _ _ HO10.out.ints hzl (by omega) (by omega)).mono ?_
  rintro e w' ⟨rfl, rfl⟩
  go_wp2_with fail
  refine (toIntS_own _ _ _ _ (HX.out.at' T10.out) hl).mono ?_
  rintro e w11 ⟨rfl, ho11, hb11⟩
  have HO11 := Lib.hid ho11; have T11 := Lib.hid (Below_then T10.out hb11)
  have HO10b := Lib.hid (HO10.out.keepB hb11 HO10.out.1); have HO2j := Lib.hid (HO2i.out.keepB hb11 HO2i.out.1)
  clear ho11 hb11
  go_wp2_with fail
  refine (HI.out _ _ _ rfl HO11.out.intsUp).mono ?_
  rintro e w12 ⟨A12, c12, ys, rfl, hp12, ho12, hb12⟩
  obtain rfl := HP.out _ _ HP2.out hp12
  have HO12 := Lib.hid ho12; have T12 := Lib.hid (Below_then T11.out hb12)
  have HO10c := Lib.hid (HO10b.out.keepB hb12 HO10b.out.1); have HO2k := Lib.hid (HO2j.out.keepB hb12 HO2j.out.1)
  clear hp12 ho12 hb12
  go_wp2_with fail
  refine (eqIntS_below _ _ _ _ _ _ HO12.out.intsUp HO2k.out.intsUp hzl).mono ?_
  rintro e w13 ⟨rfl, hb13⟩
  have T13 := Lib.hid (Below_then T12.out hb13)
  have HO10d := Lib.hid (HO10c.out.keepB hb13 HO10c.out.1)
  clear hb13
  go_wp2_with fail
  refine (heldIntS_any _ _ _ _ _ _ HO10d.out.ints hzl (by omega) (by omega)).mono ?_
  rintro e w' ⟨rfl, rfl⟩
  go_wp2_with fail
  go_ret
  exact ⟨rfl, T13.out⟩

theorem walkWithMark (A : Option Addr) (c : Nat) (xs : List Int) (k : Int) (v : Int) (w : World) (hw1 : (Lit.int .i64 k).wf = true) (hw2 : (Lit.int .i64 v).wf = true) (hx : Ints w w.heap.size A xs) :
    Calls Try.prog 10 #[.slice A xs.length c, .int .i64 k, .int .i64 v] w fun e w' => e = .returned (.bool true) ∧ Below w.heap.size w w' := by
  clear hw1 hw2
  by_cases hl : xs.length ≤ 1048576
  · by_cases h : WmOk xs k v
    · exact ownWithMark true (fun ys => ys = xs.set k.toNat v) xs k v (fun a b ha hb => ha.trans hb.symm) (fun a ha => by rw [ha, List.length_set]; exact hl) (fun A c w hc hr => sWithMark_yes A c xs k v w hr hl h) (fun A c w hc hr => iWithMark_yes A c xs k v w hr hl h) A c w hx hl
    · exact ownWithMark false (· = []) xs k v (fun a b ha hb => ha.trans hb.symm) (fun a ha => by rw [ha]; simp) (fun A c w hc hr => sWithMark_no A c xs k v w hr hl h) (fun A c w hc hr => iWithMark_no A c xs k v w hr hl h) A c w hx hl
  · clear hx
    go_enter Try.func10, Try.ntmps10
    go_wp2
    go_ret
    exact ⟨rfl, Below.refl _ _⟩
end Go.Proofs.Ytnambmpnolkfjaa.One
