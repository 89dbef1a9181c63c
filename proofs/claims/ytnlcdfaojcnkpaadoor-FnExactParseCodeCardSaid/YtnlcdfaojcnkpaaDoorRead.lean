/- Reading a decimal number in the model; what reading a number's own text gives. -/
import Derived.Test.YtnlcdfaojcnkpaaDoorSplit
namespace Go.Proofs.YtnlcdfaojcnkpaaDoor
open Go.ChangeShapes Go.WideShapes Go.ChangeAt Go.RowKit Go.PlainAid
set_option linter.unusedVariables false

def readAux : List UInt8 → Int → Int
  | [], n => n
  | x :: r, n => if (x.toNat : Int) < 48 ∨ 57 < (x.toNat : Int) then -1 else readAux r (10 * n + ((x.toNat : Int) - 48))
def readB (s : ByteArray) : Int := if s.size < 1 ∨ 6 < s.size then -1 else if bt s 0 = 48 ∧ 1 < s.size then -1 else readAux s.data.toList 0

def pb : Nat → Int
  | 0 => 1
  | k + 1 => 10 * pb k
theorem pb_le (k : Nat) : k ≤ 9 → 1 ≤ pb k ∧ pb k ≤ 1000000000 := by
  intro h
  have : k = 0 ∨ k = 1 ∨ k = 2 ∨ k = 3 ∨ k = 4 ∨ k = 5 ∨ k = 6 ∨ k = 7 ∨ k = 8 ∨ k = 9 := by omega
  rcases this with rfl | rfl | rfl | rfl | rfl | rfl | rfl | rfl | rfl | rfl <;> decide
theorem pb_six (k : Nat) (h : k ≤ 6) : pb k ≤ 1000000 := by
  have : k = 0 ∨ k = 1 ∨ k = 2 ∨ k = 3 ∨ k = 4 ∨ k = 5 ∨ k = 6 := by omega
  rcases this with rfl | rfl | rfl | rfl | rfl | rfl | rfl <;> decide

theorem readAux_step (s : ByteArray) (i : Nat) (n : Int) (h : i < s.size) (h1 : 48 ≤ bt s i) (h2 : bt s i ≤ 57) : readAux (s.data.toList.drop i) n = readAux (s.data.toList.drop (i + 1)) (10 * n + (bt s i - 48)) := by
  rw [drop_cons s i h]
  have e : (s[i].toNat : Int) = bt s i := get_bt s i h
  show (if _ then _ else _) = _
  rw [e, if_neg (by omega)]
theorem readAux_bad (s : ByteArray) (i : Nat) (n : Int) (h : i < s.size) (hb : bt s i < 48 ∨ 57 < bt s i) : readAux (s.data.toList.drop i) n = -1 := by
  rw [drop_cons s i h]
  have e : (s[i].toNat : Int) = bt s i := get_bt s i h
  show (if _ then _ else _) = _
  rw [e, if_pos hb]
theorem drop_end (s : ByteArray) : s.data.toList.drop s.size = [] := List.drop_of_length_le (show s.data.toList.length ≤ s.size from Nat.le_refl _)

theorem l1Read_any (s : ByteArray) (w : World) (hs : s.size ≤ 1048576) :
    Calls Tryd.prog 72 #[.string s] w fun e w' => e = .returned (.int .i64 (readB s)) ∧ w = w' ∧ -1 ≤ readB s ∧ readB s ≤ 999999 := by
  have hbt := get_bt s
  by_cases hsz : 1 ≤ s.size ∧ s.size ≤ 6
  · obtain ⟨hl1, hl2⟩ := hsz
    by_cases hz : bt s 0 = 48 ∧ 1 < s.size
    · have HR := Lib.hid (show readB s = -1 by unfold readB; rw [if_neg (by omega), if_pos hz])
      obtain ⟨hz0, hz1⟩ := hz
      have q0 : (bt s 0 == 48) = true := by simpa using hz0
      clear hz0
      go_enter Tryd.func72, Tryd.ntmps72
      go_wp2
      go_ret
      exact ⟨by rw [HR.out]; rfl, rfl, by rw [HR.out]; omega, by rw [HR.out]; omega⟩
    · have HR := Lib.hid (show readB s = readAux s.data.toList 0 by unfold readB; rw [if_neg (by omega), if_neg hz])
      have main : ∀ hq : (bt s 0 == 48) = false ∨ ((bt s 0 == 48) = true ∧ s.size ≤ 1), Calls Tryd.prog 72 #[.string s] w fun e w' => e = .returned (.int .i64 (readB s)) ∧ w = w' ∧ -1 ≤ readB s ∧ readB s ≤ 999999 := by
        intro hq
        clear hz
        have h48 : ∀ k, k < s.size → (48 : Int) ≤ bt s k ∧ bt s k ≤ 57 ∨ (bt s k < 48 ∨ 57 < bt s k) := fun k _ => by omega
        have H48 := Lib.hid h48
        clear h48
        rcases hq with hq | ⟨hq, hq1⟩
        all_goals
          go_enter Tryd.func72, Tryd.ntmps72
          go_wp2
          go_loop [3, 4] (fun n i => ∃ (k : Nat) (N : Int), k ≤ s.size ∧ i = .int .i64 k ∧ n = .int .i64 N ∧ 0 ≤ N ∧ Hid (N < pb k) ∧ Hid (readAux (s.data.toList.drop k) N = readAux s.data.toList 0)) (fun _ i => s.size - (intOf i).toNat)
          case atStart => exact ⟨0, 0, Nat.zero_le _, rfl, rfl, Int.le_refl _, Lib.hid (by decide), Lib.hid rfl⟩
          case round =>
            obtain ⟨k, N, hk, rfl, rfl, hN, HN, HE⟩ := hrel
            by_cases hlt : k < s.size
            · have q1 : (0 : Int) ≤ (k : Int) := by omega
              have q2 : (k : Int) < (s.size : Int) := by omega
              have hN2 : N ≤ 1000000 := by have := HN.out; have := pb_six k (by omega); omega
              rcases H48.out k hlt with ⟨d1, d2⟩ | hbad
              · have HS := Lib.hid (readAux_step s k N hlt d1 d2)
                go_wp2
                go_round
                case rel => exact ⟨k + 1, 10 * N + (bt s k - 48), by omega, by go_num, by go_num, by omega, Lib.hid (by have := HN.out; show _ < 10 * pb k; omega), Lib.hid (by rw [← HS.out]; exact HE.out)⟩
                case measure => simp [intOf]; omega
              · have HS := Lib.hid (readAux_bad s k N hlt hbad)
                have HV : Hid (readB s = -1) := Lib.hid (by rw [HR.out, ← HE.out, HS.out])
                rcases hbad with hbad | hbad
                all_goals
                  go_wp2
                  go_ret
                  exact ⟨by rw [HV.out]; rfl, rfl, by rw [HV.out]; omega, by rw [HV.out]; omega⟩
            · obtain rfl : k = s.size := by omega
              have HV : Hid (readB s = N) := Lib.hid (by rw [HR.out, ← HE.out, drop_end]; rfl)
              have hN2 : N ≤ 999999 := by have := HN.out; have := pb_six s.size (by omega); omega
              go_wp2
              go_ret
              exact ⟨by rw [HV.out]; rfl, rfl, by rw [HV.out]; omega, by rw [HV.out]; omega⟩
      by_cases hz0 : bt s 0 = 48
      · exact main (.inr ⟨by simpa using hz0, by omega⟩)
      · exact main (.inl (by simpa using hz0))
  · have HR := Lib.hid (show readB s = -1 by unfold readB; rw [if_pos (by omega)])
    have hq : s.size < 1 ∨ 6 < s.size := by omega
    clear hsz
    rcases hq with hq | hq
    all_goals
      go_enter Tryd.func72, Tryd.ntmps72
      go_wp2
      go_ret
      exact ⟨by rw [HR.out]; rfl, rfl, by rw [HR.out]; omega, by rw [HR.out]; omega⟩
end Go.Proofs.YtnlcdfaojcnkpaaDoor
