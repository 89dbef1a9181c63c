/- A stable sort of a row of numbers, by any comparison of theirs: exchanges of ranges, rotations. -/
import Derived.Test.YtnambmpnolkfjaaPnS
import Derived.Test.YtnambmpnolkfjaaIntF
import Derived.Test.YtnambmpnolkfjaaShelf
import Derived.Shelf.SlSortCmp.Kit1
import Derived.Deep.LoopGhost
import Derived.RegionTactic
import Derived.BigRegion
import Derived.LoopTactic
namespace Go.Proofs.Ytnambmpnolkfjaa
open Go.ChangeShapes Go.WideShapes Go.ChangeAt Go.RowKit Go.Lib Go.Sort Go.Proofs
set_option linter.unusedVariables false

/-- The number that lies at the place where element i lay of old. -/
def encI (l : List Int) (i : Nat) : Value := .int .i64 (it l i)
theorem encI_one (l : List Int) : OneCell (encI l) := fun _ => rfl
section
variable {l : List Int} {w0 W : World} {blk off : Nat} {d0 dk : Array Nat}
/-- What an exchange of two places asks and leaves. -/
structure Xch (l : List Int) (w0 W : World) (blk off : Nat) (dk : Array Nat) (i j : Nat) : Prop where
  ci : W.cell? ⟨blk, off + i, none⟩ = some (.int .i64 (it l dk[i]!))
  cj : W.cell? ⟨blk, off + j, none⟩ = some (.int .i64 (it l dk[j]!))
  fi : W.frozen? ⟨blk, off + i, none⟩ = false
  fj : W.frozen? ⟨blk, off + j, none⟩ = false
  c2 : ∃ u, (W.setCell ⟨blk, off + i, none⟩ (.int .i64 (it l dk[j]!))).cell? ⟨blk, off + j, none⟩ = some u
  sw : SW (encI l) w0 blk off (swp dk i j) ((W.setCell ⟨blk, off + i, none⟩ (.int .i64 (it l dk[j]!))).setCell ⟨blk, off + j, none⟩ (.int .i64 (it l dk[i]!))).drew
theorem xch (S : SW (encI l) w0 blk off dk W) (R : Row1 (encI l) w0 blk off d0) (hs : dk.size = d0.size) (i j : Nat) (hi : i < dk.size) (hj : j < dk.size) : Xch l w0 W blk off dk i j :=
  ⟨S.c1 R hs i hi, S.c1 R hs j hj, S.f1 R hs i hi, S.f1 R hs j hj, S.c2 R hs i j hi hj _, S.swapped R i j hi hj⟩
end

set_option maxHeartbeats 4000000 in
set_option maxRecDepth 100000 in
theorem swapRange_any (l : List Int) (g : Nat) (cb : Array Value) (blk off cap a b n : Nat) (d0 d : Array Nat) (w0 w : World) (R : Row1 (encI l) w0 blk off d0) (hs : d0.size = d.size) (S : SW (encI l) w0 blk off d w) (h1 : a + n ≤ b) (h2 : b + n ≤ d.size) (hsz : d.size < 1000000) :
    Calls Try.prog 120 #[.slice (some ⟨blk, off, none⟩) d.size cap, .int .i64 a, .int .i64 b, .int .i64 n, .func (.func g) #[] cb] w fun e w' => e = .returned (.tuple #[]) ∧ SW (encI l) w0 blk off (sr d a b n) w' := by
  have S0 := Lib.hid S
  have RR := Lib.hid R
  have HS := Lib.hid hs
  clear S R hs
  go_enter Try.func120, Try.ntmps120
  go_wp2
  go_loopw [10] (fun v wr => ∃ i : Nat, i ≤ n ∧ v = .int .i64 i ∧ Hid (SW (encI l) w0 blk off (sr d a b i) wr)) (fun v _ => n - (intOf v).toNat)
  case atStart => exact ⟨0, Nat.zero_le _, rfl, S0⟩
  case round =>
    clear S0
    obtain ⟨i, hi, rfl, S1⟩ := hrel
    by_cases hlt : i < n
    · have hsr := sr_size d a b i
      obtain ⟨p, hp⟩ : ∃ p, p = a + i := ⟨_, rfl⟩
      obtain ⟨q, hq⟩ : ∃ q, q = b + i := ⟨_, rfl⟩
      obtain ⟨ci, cj, fi, fj, ⟨u, c2⟩, sw⟩ := xch S1.out RR.out (by rw [hsr, HS.out]) p q (by omega) (by omega)
      have HSW := Lib.hid (show SW (encI l) w0 blk off (sr d a b (i + 1)) _ from by
        have h := sw
        rw [hp, hq] at h
        exact h)
      have e1 : (a : Int) + (i : Int) = (p : Int) := by omega
      have e2 : (b : Int) + (i : Int) = (q : Int) := by omega
      have p1 : p < d.size := by omega
      have p2 : q < d.size := by omega
      have P1 := Lib.hid hp
      have P2 := Lib.hid hq
      have HSR := Lib.hid hsr
      obtain ⟨X, hX⟩ : ∃ X, X = it l (sr d a b i)[p]! := ⟨_, rfl⟩
      obtain ⟨Y, hY⟩ : ∃ Y, Y = it l (sr d a b i)[q]! := ⟨_, rfl⟩
      rw [← hX] at ci
      rw [← hY] at cj c2
      rw [← hp, ← hq, ← hX, ← hY] at HSW
      have r1 : IntKind.i64.wrap (p : Int) = (p : Int) := IntWalk.i64_in _ (by omega)
      have r2 : IntKind.i64.wrap (q : Int) = (q : Int) := IntWalk.i64_in _ (by omega)
      have b1 : (0 : Int) ≤ (p : Int) := by omega
      have b2 : (p : Int) < (d.size : Int) := by omega
      have b3 : (0 : Int) ≤ (q : Int) := by omega
      have b4 : (q : Int) < (d.size : Int) := by omega
      clear sw hp hq hsr hX hY
      go_wp2_with fail
      go_region
      all_goals
        go_wp2
        go_roundw
        case rel => exact ⟨i + 1, by omega, by go_num, HSW⟩
        case measure => simp [intOf]; omega
    · obtain rfl : i = n := by omega
      go_wp2
      go_end0
      exact ⟨rfl, S1.out⟩

set_option maxHeartbeats 4000000 in
set_option maxRecDepth 100000 in
theorem rotate_any (l : List Int) (g : Nat) (cb : Array Value) (blk off cap a m b : Nat) (d0 d : Array Nat) (w0 w : World) (R : Row1 (encI l) w0 blk off d0) (hs : d0.size = d.size) (S : SW (encI l) w0 blk off d w) (h1 : a < m) (h2 : m < b) (h3 : b ≤ d.size) (hsz : d.size < 1000000) :
    Calls Try.prog 119 #[.slice (some ⟨blk, off, none⟩) d.size cap, .int .i64 a, .int .i64 m, .int .i64 b, .func (.func g) #[] cb] w fun e w' => e = .returned (.tuple #[]) ∧ ∃ d', SW (encI l) w0 blk off d' w' ∧ d'.size = d.size ∧ PermIn a b d d' ∧ ∀ t, d'[t]! = rv d a m b t := by
  have S0 := Lib.hid S
  have RR := Lib.hid R
  have HS := Lib.hid hs
  have ENDW := Lib.hid (show (a : Nat) = m - (m - a) ∧ b = m + (b - m) by omega)
  clear S R hs
  go_enter Try.func119, Try.ntmps119
  go_wp2
  go_loopw [10, 11] (fun v1 v2 wr => ∃ (i j : Nat) (dk : Array Nat), v1 = .int .i64 i ∧ v2 = .int .i64 j ∧ 0 < i ∧ 0 < j ∧ a + i ≤ m ∧ m + j ≤ b ∧ Hid (dk.size = d.size) ∧ Hid (SW (encI l) w0 blk off dk wr) ∧ Hid (PermIn a b d dk) ∧ Hid (∀ t, rv dk (m - i) m (m + j) t = rv d a m b t)) (fun v1 v2 _ => (intOf v1).toNat + (intOf v2).toNat)
  case atStart => exact ⟨m - a, b - m, d, by go_num, by go_num, by omega, by omega, by omega, by omega, Lib.hid rfl, S0, Lib.hid (permIn_refl _ _ _), Lib.hid (fun t => by rw [← ENDW.out.1, ← ENDW.out.2])⟩
  case round =>
    clear S0
    obtain ⟨i, j, dk, rfl, rfl, hi0, hj0, hi, hj, HD, S1, HP, HV⟩ := hrel
    rcases Nat.lt_trichotomy i j with hij | hij | hij
    · obtain ⟨p, hp⟩ : ∃ p, p = m - i := ⟨_, rfl⟩
      obtain ⟨q, hq⟩ : ∃ q, q = m + j - i := ⟨_, rfl⟩
      have e1 : (m : Int) - (i : Int) = (p : Int) := by omega
      have e2 : (m : Int) + (j : Int) - (i : Int) = (q : Int) := by omega
      have hcall := swapRange_any l g cb blk off cap p q i d0 dk w0 wr RR.out (by rw [HS.out, HD.out]) S1.out (by omega) (by rw [HD.out]; omega) (by rw [HD.out]; exact hsz)
      rw [HD.out] at hcall
      have HC := Lib.hid hcall
      have HP2 := Lib.hid (permIn_trans _ _ _ _ _ HP.out (sr_perm dk p q a b (by omega) (by rw [HD.out]; exact h3) i (by omega) (by omega)))
      have HV2 := Lib.hid (show ∀ t, rv (sr dk p q i) (m - i) m (m + (j - i)) t = rv d a m b t from fun t => by
        rw [hp, hq, rv_less dk hi0 hij (by omega) (by rw [HD.out]; omega) t]
        exact HV.out t)
      have HD2 := Lib.hid (show (sr dk p q i).size = d.size by rw [sr_size, HD.out])
      clear hcall hp hq
      go_wp2_with (first | (go_at_call 120; refine HC.out.mono ?_; rintro e w2 ⟨rfl, hsw⟩; have S2 := Lib.hid hsw; clear hsw))
      go_roundw
      case rel => exact ⟨i, j - i, _, by go_num, by go_num, hi0, by omega, hi, by omega, HD2, S2, HP2, HV2⟩
      case measure => simp [intOf]; omega
    · subst hij
      obtain ⟨p, hp⟩ : ∃ p, p = m - i := ⟨_, rfl⟩
      have e1 : (m : Int) - (i : Int) = (p : Int) := by omega
      have hcall := swapRange_any l g cb blk off cap p m i d0 dk w0 wr RR.out (by rw [HS.out, HD.out]) S1.out (by omega) (by rw [HD.out]; omega) (by rw [HD.out]; exact hsz)
      rw [HD.out] at hcall
      have HC := Lib.hid hcall
      have HP2 := Lib.hid (permIn_trans _ _ _ _ _ HP.out (sr_perm dk p m a b (by omega) (by rw [HD.out]; exact h3) i (by omega) (by omega)))
      have HV2 := Lib.hid (show ∀ t, (sr dk p m i)[t]! = rv d a m b t from fun t => by
        rw [hp, rv_same dk (by omega) (by rw [HD.out]; omega) t]
        exact HV.out t)
      have HD2 := Lib.hid (show (sr dk p m i).size = d.size by rw [sr_size, HD.out])
      clear hcall hp
      go_wp2_with (first | (go_at_call 120; refine HC.out.mono ?_; rintro e w2 ⟨rfl, hsw⟩; have S2 := Lib.hid hsw; clear hsw))
      go_end0
      exact ⟨rfl, _, S2.out, HD2.out, HP2.out, HV2.out⟩
    · obtain ⟨p, hp⟩ : ∃ p, p = m - i := ⟨_, rfl⟩
      have e1 : (m : Int) - (i : Int) = (p : Int) := by omega
      have hcall := swapRange_any l g cb blk off cap p m j d0 dk w0 wr RR.out (by rw [HS.out, HD.out]) S1.out (by omega) (by rw [HD.out]; omega) (by rw [HD.out]; exact hsz)
      rw [HD.out] at hcall
      have HC := Lib.hid hcall
      have HP2 := Lib.hid (permIn_trans _ _ _ _ _ HP.out (sr_perm dk p m a b (by omega) (by rw [HD.out]; exact h3) j (by omega) (by omega)))
      have HV2 := Lib.hid (show ∀ t, rv (sr dk p m j) (m - (i - j)) m (m + j) t = rv d a m b t from fun t => by
        rw [hp, rv_more dk hj0 hij (by omega) (by rw [HD.out]; omega) t]
        exact HV.out t)
      have HD2 := Lib.hid (show (sr dk p m j).size = d.size by rw [sr_size, HD.out])
      clear hcall hp
      go_wp2_with (first | (go_at_call 120; refine HC.out.mono ?_; rintro e w2 ⟨rfl, hsw⟩; have S2 := Lib.hid hsw; clear hsw))
      go_roundw
      case rel => exact ⟨i - j, j, _, by go_num, by go_num, by omega, hj0, by omega, hj, HD2, S2, HP2, HV2⟩
      case measure => simp [intOf]; omega
end Go.Proofs.Ytnambmpnolkfjaa
