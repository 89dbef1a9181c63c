/- Elements held. -/
import Derived.Test.YtlefinookpknpaaDoorMark
import Derived.RegionTactic
import Derived.Deep.RegionHeld3
namespace Go.Proofs.YtlefinookpknpaaDoor
open Go.ChangeShapes Go.WideShapes Go.ChangeAt Go.RowKit
set_option linter.unusedVariables false

theorem heldElementS_any (A : Option Addr) (c n k : Nat) (w : World) (hr : Lst w w.heap.size A (marksEl k n)) (hl : n ≤ 1048576) (hk : 0 < k) (hk2 : k ≤ 100000000000) :
    Calls Tryd.prog 20 #[.slice A n c, .int .i64 k] w fun e w' => e = .returned (.int .i64 ((k + n * 4 : Nat) : Int)) ∧ Below w.heap.size w w' := by
  have HR := Lib.hid hr
  clear hr
  go_enter Tryd.func20, Tryd.ntmps20
  go_wp2
  go_loopw [1, 5] (fun q i wr => ∃ j : Nat, j ≤ n ∧ i = .int .i64 j ∧ q = .int .i64 ((k + j * 4 : Nat) : Int) ∧ Below w.heap.size w wr) (fun _ i _ => n - (intOf i).toNat)
  case atStart => exact ⟨0, Nat.zero_le _, rfl, by simp, Below.refl _ _⟩
  case round =>
    obtain ⟨j, hj, rfl, rfl, hb⟩ := hrel
    by_cases hlt : j < n
    · obtain ⟨b, o, rfl, hbl, hc⟩ := HR.out.el (by rw [marksEl_len]; omega)
      have hcj := hc j (by rw [marksEl_len]; omega)
      rw [marksEl_it _ _ _ hlt] at hcj
      have HC := Lib.hid hcj
      have hbs := Nat.lt_of_lt_of_le hbl hb.size
      have c0 : wr.cell? ⟨b, o + j * 4, none⟩ = some (.string (mkText (k + j * 4))) := (hcj.below hb hbl).c0
      have HB := Lib.hid hb
      have hi1 : (0 : Int) ≤ (j : Int) := by omega
      have hi2 : (j : Int) < (n : Int) := by omega
      clear hc hb hcj
      go_wp2
      go_region_with (go_at_call 32; (with_reducible refine (markText_i ((k : Int) + (j : Int) * 4) (k + j * 4) _ (by omega) (by omega) (by omega)).mono ?_); rintro e w1 ⟨rfl, hb1⟩; have c0' := (hb1.cell (p := ⟨b, o + j * 4, none⟩) hbs).trans c0)
      all_goals
        have HB1 := Lib.hid (HB.out.trans ((Below.refl _ _).drew.trans (hb1.mono (by exact HB.out.size))))
        obtain ⟨d0, d1, d2, d3⟩ := HC.out.below HB1.out hbl
        have e1 : w1.cell? ⟨b, o + j * 4 + 1, none⟩ = some (.int .i64 ((k : Int) + (j : Int) * 4 + 1)) := d1
        have e2 : w1.cell? ⟨b, o + j * 4 + 2, none⟩ = some (.int .i64 ((k : Int) + (j : Int) * 4 + 1 + 1)) := d2
        have e3 : w1.cell? ⟨b, o + j * 4 + 3, none⟩ = some (.int .i64 ((k : Int) + (j : Int) * 4 + 1 + 1 + 1)) := d3
        clear hb1 d0 d1 d2 d3 c0 c0'
        go_simp
        go_wp2
        go_roundw
        case rel => exact ⟨j + 1, by omega, by go_num, by go_num, HB1.out⟩
        case measure => simp [intOf]; omega
    · obtain rfl : j = n := by omega
      go_wp2
      go_ret
      exact ⟨rfl, hb⟩
end Go.Proofs.YtlefinookpknpaaDoor
