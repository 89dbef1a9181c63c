/- Marks: the laws' text of a mark; elements marked and held. -/
import Derived.Test.YtocjkhfghldnnaaDoorMarkT
import Derived.Test.YtocjkhfghldnnaaDoorEls
import Derived.Laws.IdiomStrings
namespace Go.Proofs.YtocjkhfghldnnaaDoor
open Go.ChangeShapes Go.WideShapes Go.ChangeAt Go.RowKit
set_option linter.unusedVariables false

def mkEl (k : Nat) : El := ⟨mkText k, (k : Int) + 1, (k : Int) + 1 + 1, (k : Int) + 1 + 1 + 1⟩
/-- The marks of n elements from k on. -/
def marksEl (k n : Nat) : List El := (List.range n).map fun i => mkEl (k + i * 4)
theorem marksEl_len (k n : Nat) : (marksEl k n).length = n := by simp [marksEl]
theorem marksEl_it (k n i : Nat) (h : i < n) : it (marksEl k n) i = mkEl (k + i * 4) := by
  unfold it marksEl
  simp [h]

theorem markElementS_any (S : Nat → Prop) (A : Option Addr) (c : Nat) (xs : List El) (k : Nat) (w : World) (hr : Owned S w A xs) (hl : xs.length ≤ 1048576) (hk : 0 < k) (hk2 : k ≤ 100000000000) :
    Calls Tryd.prog 35 #[.slice A xs.length c, .int .i64 k] w fun e w' => e = .returned (.int .i64 ((k + xs.length * 4 : Nat) : Int)) ∧ Owned S w' A (marksEl k xs.length) ∧ Only S w w' := by
  rcases Nat.eq_zero_or_pos xs.length with h0 | h0
  · obtain rfl : xs = [] := List.eq_nil_of_length_eq_zero h0
    clear hr h0
    go_enter Tryd.func35, Tryd.ntmps35
    go_wp2
    go_loop [1, 5] (fun q i => i = .int .i64 0 ∧ q = .int .i64 k) (fun _ _ => 0)
    case atStart => exact ⟨rfl, rfl⟩
    case round =>
      obtain ⟨rfl, rfl⟩ := hrel
      go_wp2
      go_ret
      exact ⟨by simp, Owned.nil _ _ _, Only.refl _ _⟩
  · obtain ⟨g, o, rfl, hg1, hg2, hc⟩ := hr h0
    have HG := Lib.hid hg1
    have HC := Lib.hid hc
    clear hr hc hg1
    go_enter Tryd.func35, Tryd.ntmps35
    go_wp2
    go_loopw [1, 5] (fun q i wr => ∃ (j : Nat) (ys : List El), j ≤ xs.length ∧ i = .int .i64 j ∧ q = .int .i64 ((k + j * 4 : Nat) : Int) ∧ ys.length = xs.length ∧ Hid (∀ i : Nat, i < j → it ys i = mkEl (k + i * 4)) ∧ Hid (OwnAt wr g o ys) ∧ g < wr.heap.size ∧ Only S w wr) (fun _ i _ => xs.length - (intOf i).toNat)
    case atStart => exact ⟨0, xs, Nat.zero_le _, rfl, by simp, rfl, Lib.hid (fun i hi => absurd hi (by omega)), HC, hg2, Only.refl _ _⟩
    case round =>
      obtain ⟨j, ys, hj, rfl, rfl, hy, HI, HO, hgs, ho⟩ := hrel
      have HN := Lib.hid ho
      clear ho
      by_cases hlt : j < xs.length
      · go_wp2_with (go_at_call 62; refine (markText_any (k + j * 4) _ (by omega) (by omega)).mono ?_; rintro e w2 ⟨rfl, hb2⟩; have HO2 := Lib.hid (HO.out.block (hb2.block _ hgs)); have HN2 := Lib.hid (HN.out.trans (Only.of_below hb2 (Nat.le_refl _))); have hs2 := Nat.lt_of_lt_of_le hgs hb2.size; obtain ⟨⟨d0, d1, d2, d3⟩, f0, f1, f2, f3⟩ := HO2.out.el j (by omega); clear hb2)
        have HP := Lib.hid (HO2.out.put j (mkEl (k + j * 4)) (by omega))
        have HN3 := Lib.hid (putAt_only HG.out (o + j * 4) (Flat.cells (mkEl (k + j * 4))) w w2 0 HN2.out)
        go_roundw
        case rel => exact ⟨j + 1, _, by omega, by go_num, by go_num, by rw [List.length_set]; exact hy, Lib.hid (fun i hi => by
          rw [it_set _ _ _ _ (by omega)]
          by_cases e : i = j
          · rw [if_pos e, e]
          · rw [if_neg e]; exact HI.out i (by omega)), HP, by simpa [World.setCell] using hs2, HN3.out⟩
        case measure => simp [intOf]; omega
      · obtain rfl : j = xs.length := by omega
        obtain rfl : ys = marksEl k xs.length := it_ext _ _ (by rw [marksEl_len]; exact hy) (fun i hi => by rw [marksEl_it _ _ _ (by omega)]; exact HI.out i (by omega))
        go_wp2
        go_ret
        exact ⟨rfl, fun _ => ⟨g, o, rfl, HG.out, Nat.lt_of_lt_of_le hg2 HN.out.size, HO.out⟩, HN.out⟩

end Go.Proofs.YtocjkhfghldnnaaDoor
