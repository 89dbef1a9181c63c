/- Numbers of choices in the program: two groups joined, the choices out of some elements. -/
import Derived.Test.YtocjkhfghldnnaaDoorBr
import Derived.Test.YtocjkhfghldnnaaDoorCdO
import Derived.RegionTactic
import Derived.BigRegion
namespace Go.Proofs.YtocjkhfghldnnaaDoor
open Go.ChangeShapes Go.WideShapes Go.ChangeAt Go.RowKit Go.PlainAid
set_option linter.unusedVariables false

/-- Numbers that are not negative and at most 2^24. -/
def Mod24 (l : List Int) : Prop := ∀ i, 0 ≤ it l i ∧ it l i ≤ 16777216
theorem cvP_le {a b : List Int} (ha : Mod24 a) (hb : Mod24 b) (t p : Nat) : 0 ≤ cvP a b t p ∧ cvP a b t p ≤ 281474976710656 := by
  unfold cvP
  split
  · have h1 := ha p
    have h2 := hb (t - p)
    exact ⟨Int.mul_nonneg h1.1 h2.1, Int.le_trans (Int.mul_le_mul h1.2 h2.2 h2.1 (by omega)) (by omega)⟩
  · omega
theorem cvE_le {a b : List Int} (ha : Mod24 a) (hb : Mod24 b) (i k t : Nat) : 0 ≤ cvE a b i k t ∧ cvE a b i k t ≤ 281474976710656 * (i + 1 : Nat) := by
  have h1 := smT_nn (g := cvP a b t) i (fun p _ => (cvP_le ha hb t p).1)
  have h2 := smT_most (g := cvP a b t) 281474976710656 i (fun p _ => (cvP_le ha hb t p).2)
  have h3 : 0 ≤ it a i * it b (t - i) ∧ it a i * it b (t - i) ≤ 281474976710656 := by
    have h1 := ha i
    have h2 := hb (t - i)
    exact ⟨Int.mul_nonneg h1.1 h2.1, Int.le_trans (Int.mul_le_mul h1.2 h2.2 h2.1 (by omega)) (by omega)⟩
  unfold cvE
  split <;> omega

set_option maxHeartbeats 2000000 in
theorem joinedCounts_any (A B : Option Addr) (ca cb : Nat) (a b : List Int) (w : World) (ha : Lst w w.heap.size A a) (hb : Lst w w.heap.size B b) (h1 : 0 < a.length) (h2 : 0 < b.length) (h3 : a.length + b.length ≤ 64) (ma : Mod24 a) (mb : Mod24 b) :
    Calls Tryd.prog 39 #[.slice A a.length ca, .slice B b.length cb] w fun e w' => (∃ g d, e = .returned (.slice (some ⟨g, 0, none⟩) (cvL a b a.length 0).length d) ∧ (cvL a b a.length 0).length ≤ d ∧ d ≤ 64 ∧ OwnAt w' g 0 (cvL a b a.length 0) ∧ w.heap.size ≤ g ∧ g < w'.heap.size) ∧ Below w.heap.size w w' := by
  obtain ⟨i0, hi, hz0, hz1, hz2⟩ := info_parts Tryd.infoInt
  have HZ := Lib.hid (made_flat (α := Int) #[.int .i64 0] 0 (a.length + b.length - 1) rfl (by decide))
  have HA := Lib.hid ha
  have HB := Lib.hid hb
  have HMA := Lib.hid ma
  have HMB := Lib.hid mb
  clear ha hb ma mb
  go_enter Tryd.func39, Tryd.ntmps39
  go_wp2_with (at_make; refine wpList_make_full _ rfl (.tmp 15) (.tmp 15) 23 rfl w.heap.size 3 i0 (.int .i64 0) 1 Tryd.underlying23 hi hz0 hz1 .i64 .i64 _ _ (a.length + b.length - 1) rfl rfl (by omega) (by omega) (by rw [hz2]; omega) (by unfold maxLen; omega) (Nat.le_refl _) ?_; intro w1 hown hgrow)
  have HW := Lib.hid (show OwnAt w1 w.heap.size 0 (cvL a b 0 0) from by
    rw [cvL_zero]
    exact own_of_row (α := Int) (cap := a.length + b.length - 1) (e := 3) (base := w.heap.size) (List.replicate (a.length + b.length - 1) (0 : Int)) (by rw [← HZ.out, List.length_replicate]; exact hown))
  have hb1 : Below w.heap.size w w1 := (Below.refl _ _).grown hgrow (Nat.le_refl _) (fun k e => by cases e)
  have hs1 := (hown.lt w.heap.size rfl).2
  have HB1 := Lib.hid hb1
  clear hown hgrow hb1 hi hz0 hz1 hz2
  go_loopw [19] (fun v wr => ∃ i : Nat, i ≤ a.length ∧ v = .int .i64 i ∧ Hid (OwnAt wr w.heap.size 0 (cvL a b i 0)) ∧ w.heap.size < wr.heap.size ∧ Hid (Below w.heap.size w wr)) (fun v _ => a.length - (intOf v).toNat)
  case atStart => exact ⟨0, Nat.zero_le _, rfl, HW, hs1, HB1⟩
  case round =>
    obtain ⟨i, hil, rfl, HO, hsr, HBR⟩ := hrel
    obtain ⟨wo, rfl⟩ : ∃ wo : World, wo = wr := ⟨_, rfl⟩
    by_cases hlt : i < a.length
    · obtain ⟨b1, o1, rfl, hbl1, hc1⟩ := HA.out.int h1
      have c1 := (HBR.out.cell (p := ⟨b1, o1 + i, none⟩) hbl1).trans (hc1 i hlt)
      clear hc1
      go_wp2
      go_loopw [26] (fun v wr => ∃ k : Nat, k ≤ b.length ∧ v = .int .i64 k ∧ Hid (OwnAt wr w.heap.size 0 (cvL a b i k)) ∧ w.heap.size < wr.heap.size ∧ Hid (Below w.heap.size w wr)) (fun v _ => b.length - (intOf v).toNat)
      case atStart => exact ⟨0, Nat.zero_le _, rfl, HO, hsr, HBR⟩
      case round =>
        clear HO hsr HBR c1
        obtain ⟨k, hkl, rfl, HO, hsr, HBR⟩ := hrel
        by_cases hlk : k < b.length
        · obtain ⟨b2, o2, rfl, hbl2, hc2⟩ := HB.out.int h2
          have c2 := (HBR.out.cell (p := ⟨b2, o2 + k, none⟩) hbl2).trans (hc2 k hlk)
          have hll := cvL_len a b i k
          have hbe := cvE_le HMA.out HMB.out i k (i + k)
          have hbp : 0 ≤ it a i * it b k ∧ it a i * it b k ≤ 281474976710656 := by
            have h1 := HMA.out i
            have h2 := HMB.out k
            exact ⟨Int.mul_nonneg h1.1 h2.1, Int.le_trans (Int.mul_le_mul h1.2 h2.2 h2.1 (by omega)) (by omega)⟩
          rw [← cvL_it a b i k (i + k) (by omega)] at hbe
          obtain ⟨d0, f0⟩ := HO.out.int0 (i + k) (by omega)
          have HP := Lib.hid (HO.out.putInt0 (i + k) (it (cvL a b i k) (i + k) + it a i * it b k) (by omega))
          rw [cvL_put a b i k hlt hlk] at HP
          have hm1 := HMA.out i
          have hm2 := HMB.out k
          have hge : 281474976710656 * ((i + 1 : Nat) : Int) ≤ 281474976710656 * 65 := by omega
          clear hc2
          go_wp2
          go_roundw
          case rel => exact ⟨k + 1, by omega, by go_num, HP, by simpa [World.setCell] using hsr, Lib.hid (HBR.out.setCell (p := ⟨w.heap.size, i + k, none⟩) (Nat.le_refl _) _)⟩
          case measure => simp [intOf]; omega
        · obtain rfl : k = b.length := by omega
          rw [cvL_row] at HO
          go_wp2
          go_roundw
          case rel => exact ⟨i + 1, by omega, by go_num, HO, hsr, HBR⟩
          case measure => simp [intOf]; omega
    · obtain rfl : i = a.length := by omega
      go_wp2
      go_ret
      exact ⟨⟨_, a.length + b.length - 1, by rw [cvL_len] <;> rfl, by rw [cvL_len]; exact Nat.le_refl _, by omega, HO.out, Nat.le_refl _, hsr⟩, HBR.out⟩
end Go.Proofs.YtocjkhfghldnnaaDoor
