/- A copy of a list of numbers, by rising numbers of them: the comparison, the sort. -/
import Derived.Test.YtnambmpnolkfjaaPnV
import Derived.Deep.QuietTactic
import Derived.BigQuiet
namespace Go.Proofs.Ytnambmpnolkfjaa
open Go.ChangeShapes Go.WideShapes Go.ChangeAt Go.RowKit Go.Lib Go.Sort Go.Proofs
set_option linter.unusedVariables false

theorem isNaN_any (u : Int) (w : World) : Calls Try.prog 114 #[.int .i64 u] w fun e w' => e = .returned (.bool false) ∧ w = w' := by
  go_enter Try.func114, Try.ntmps114
  go_wp2
  go_ret
  exact ⟨rfl, rfl⟩
def cmpI (a b : Int) : Int := if a < b then -1 else if b < a then 1 else 0
theorem compare_any (a b : Int) (w : World) : Calls Try.prog 110 #[.int .i64 a, .int .i64 b] w fun e w' => e = .returned (.int .i64 (cmpI a b)) ∧ w = w' := by
  go_enter Try.func110, Try.ntmps110
  rcases Int.lt_trichotomy a b with h | h | h
  · have HV := Lib.hid (show cmpI a b = -1 from if_pos h)
    go_wp2_with (first | (go_at_call 114; refine (isNaN_any _ _).mono ?_; rintro e w' ⟨rfl, rfl⟩))
    go_ret
    exact ⟨by rw [HV.out]; rfl, rfl⟩
  · subst h
    have HV := Lib.hid (show cmpI a a = 0 from (if_neg (Int.lt_irrefl a)).trans (if_neg (Int.lt_irrefl a)))
    go_wp2_with (first | (go_at_call 114; refine (isNaN_any _ _).mono ?_; rintro e w' ⟨rfl, rfl⟩))
    go_ret
    exact ⟨by rw [HV.out]; rfl, rfl⟩
  · have h2 : b ≤ a := Int.le_of_lt h
    have HV := Lib.hid (show cmpI a b = 1 from (if_neg (by omega)).trans (if_pos h))
    go_wp2_with (first | (go_at_call 114; refine (isNaN_any _ _).mono ?_; rintro e w' ⟨rfl, rfl⟩))
    go_ret
    exact ⟨by rw [HV.out]; rfl, rfl⟩
set_option maxHeartbeats 4000000 in
set_option maxRecDepth 100000 in
theorem sbC_any (G : Nat) (ptr : Value) (q : Nat) (u v a b : Int) (W : World) (eG : ∀ args w, (callFunc G args).run Try.prog w = .ok (.enter G args) w) (hq : ∀ k, (W.drewN k).cell? ⟨q, 0, none⟩ = some (.func (.func G) #[] #[ptr])) (hu : ∀ k, Calls Try.prog G (#[.int .i64 u] ++ #[ptr]) (W.drewN k) fun e w' => e = .returned (.int .i64 a) ∧ w' = W.drewN k) (hv : ∀ k, Calls Try.prog G (#[.int .i64 v] ++ #[ptr]) (W.drewN k) fun e w' => e = .returned (.int .i64 b) ∧ w' = W.drewN k) :
    Calls Try.prog 109 #[.int .i64 u, .int .i64 v, .pointer (some ⟨q, 0, none⟩)] W fun e w' => e = .returned (.int .i64 (cmpI a b)) ∧ ∃ k, w' = W.drewN k := by
  have mixed : Try.prog.follows .mixedOrders = true := by kernel_rfl
  go_enter Try.func109, Try.ntmps109
  go_wp2_with fail
  go_quiet (first | (go_at_fn G; first | exact Calls.quiet_of_same (hu _) | exact Calls.quiet_of_same (hv _)) | (go_at_call 110; exact Calls.quiet_of_same ((compare_any _ _ _).mono fun _ _ h => ⟨h.1, h.2.symm⟩)))
  go_wp2
  go_ret
  exact ⟨rfl, _, rfl⟩
end Go.Proofs.Ytnambmpnolkfjaa
