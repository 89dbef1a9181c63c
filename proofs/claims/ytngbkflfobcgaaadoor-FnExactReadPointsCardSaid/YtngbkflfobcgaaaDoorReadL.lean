/- The walk of the law ReadPoints: it answers true at every string; the one table that the library reads is told. -/
import Derived.Test.YtngbkflfobcgaaaDoorReadI
import Derived.Test.YtngbkflfobcgaaaDoorReadQ
import Derived.Test.YtngbkflfobcgaaaDoorTab
namespace Go.Proofs.YtngbkflfobcgaaaDoor
open Go.ChangeShapes Go.WideShapes Go.ChangeAt Go.RowKit Go.PlainAid
set_option linter.unusedVariables false

theorem PX_inj (a b : Int) (h : PX a = PX b) : a = b := by
  have h1 := scan_sgn a
  rw [h, scan_sgn b] at h1
  exact h1.symm
theorem sRead_any (s : ByteArray) (w : World) (hs : s.size ≤ 1048576) : Calls Tryd.prog 7 #[.string s] w (Reads2 s w) := by
  have main : Calls Tryd.prog 13 #[.string s] w (Reads2 s w) := by
    by_cases h : 0 < s.size ∧ bt s 0 = 45
    · exact poRead_minus s w hs h.1 h.2
    · exact poRead_plain s w hs (by
        by_cases h0 : s.size = 0
        · exact .inl h0
        · exact .inr (fun e => h ⟨by omega, e⟩))
  have HM := Lib.hid main
  clear main
  go_enter Tryd.func7, Tryd.ntmps7
  go_wp2_with fail
  refine HM.out.mono ?_
  rintro e w1 ⟨h, hb⟩
  have HB := Lib.hid hb
  clear hb
  rcases h with ⟨n, h1, h2, h3, rfl⟩ | ⟨h, rfl⟩
  · have H := Lib.hid h3
    clear h3
    go_wp2
    go_ret2
    exact ⟨.inl ⟨n, h1, h2, H.out, rfl⟩, HB.out⟩
  · have H := Lib.hid h
    clear h
    go_wp2
    go_ret2
    exact ⟨.inr ⟨H.out, rfl⟩, HB.out⟩
theorem walkReadPoints (s : ByteArray) (w0 : s.size ≤ maxLen) (w : World) (ht : Tab w) :
    Calls Tryd.prog 4 #[.string s] w fun e w' => e = .returned (.bool true) ∧ Below w.heap.size w w' := by
  have HT := Lib.hid ht
  unfold maxLen at w0
  clear ht
  by_cases hs : s.size ≤ 1048576
  · go_enter Tryd.func4, Tryd.ntmps4
    go_wp2_with fail
    refine (sRead_any s _ hs).mono ?_
    rintro e w1 ⟨hp, hb1⟩
    have HB1 := Lib.hid hb1; have HT1 := Lib.hid (HT.out.next hb1); clear hb1
    rcases hp with ⟨n, h1, h2, h3, rfl⟩ | ⟨h, rfl⟩
    · have H := Lib.hid h3
      clear h3
      go_wp2_with fail
      refine (iRead_any s _ hs HT1.out).mono ?_
      rintro e w2 ⟨hp, hb2⟩
      have HB2 := Lib.hid hb2; clear hb2
      rcases hp with ⟨m, k1, k2, k3, rfl⟩ | ⟨h, rfl⟩
      · obtain rfl : n = m := PX_inj n m (H.out.trans k3.symm)
        clear k3
        go_wp2_with fail
        go_ret
        exact ⟨rfl, Below_then HB1.out HB2.out⟩
      · exact absurd H.out (h n h1 h2)
    · have H := Lib.hid h
      clear h
      go_wp2_with fail
      refine (iRead_any s _ hs HT1.out).mono ?_
      rintro e w2 ⟨hp, hb2⟩
      have HB2 := Lib.hid hb2; clear hb2
      rcases hp with ⟨m, k1, k2, k3, rfl⟩ | ⟨h, rfl⟩
      · exact absurd k3 (H.out m k1 k2)
      · clear h
        go_wp2_with fail
        go_ret
        exact ⟨rfl, Below_then HB1.out HB2.out⟩
  · go_enter Tryd.func4, Tryd.ntmps4
    go_wp2
    go_ret
    exact ⟨rfl, Below.refl _ _⟩
end Go.Proofs.YtngbkflfobcgaaaDoor
