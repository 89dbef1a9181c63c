/- The symmetric merge: one element behind. -/
import Derived.Test.YtnambmpnolkfjaaPnU
namespace Go.Proofs.Ytnambmpnolkfjaa
open Go.ChangeShapes Go.WideShapes Go.ChangeAt Go.RowKit Go.Lib Go.Sort Go.Proofs
set_option linter.unusedVariables false

set_option maxHeartbeats 8000000 in
set_option maxRecDepth 100000 in
theorem symMerge_right (key : Nat → Int) (l : List Int) (g : Nat) (cb : Array Value) (blk off cap : Nat) (d0 : Array Nat) (w0 : World) (a m b : Nat) (d : Array Nat) (w : World) (A : SymIn key l g cb blk off d0 w0 a m b d w) (hb : b = m + 1) (hn : a + 1 < m) :
    Calls Try.prog 118 #[.slice (some ⟨blk, off, none⟩) d.size cap, .int .i64 a, .int .i64 m, .int .i64 b, .func (.func g) #[] cb] w fun e w' => e = .returned (.tuple #[]) ∧ SymOut key l blk off w0 a b d w' := by
  have S0 := Lib.hid A.S
  have RR := Lib.hid A.R
  have HS := Lib.hid A.hs
  have HCMP := Lib.hid A.cmp
  have HS1 := Lib.hid A.s1
  have HS2 := Lib.hid A.s2
  have HT := Lib.hid A.t
  have HK := Lib.hid (ltOf_cfK key)
  have hd : d.size < 1000000 := by have := A.hs; have := A.hsz; omega
  have h1 := A.h1
  have h2 := A.h2
  have h3 := A.h3
  have eg := A.eg
  have mixed : Try.prog.follows .mixedOrders = true := by kernel_rfl
  clear A
  go_enter Try.func118, Try.ntmps118
  have e0 : ((m : Int) - (a : Int) == 1) = false := by simp; omega
  have e1 : (b : Int) - (m : Int) = 1 := by omega
  have HB0 := Lib.hid hb
  have hb1 : m + 1 ≤ b := by omega
  have hb2 : b ≤ m + 1 := by omega
  clear hb
  go_wp2
  go_loopw [14, 15] (fun v1 v2 wr => ∃ i j : Nat, v1 = .int .i64 i ∧ v2 = .int .i64 j ∧ a ≤ i ∧ i ≤ j ∧ j ≤ m ∧ Hid (SW (encI l) w0 blk off d wr) ∧ Hid (a < i → ltOf (cfK key) d[m]! d[i - 1]! = false) ∧ Hid (j < m → ltOf (cfK key) d[m]! d[j]! = true)) (fun v1 v2 _ => (intOf v2).toNat - (intOf v1).toNat)
  case atStart => exact ⟨a, m, rfl, rfl, Nat.le_refl _, by omega, Nat.le_refl _, S0, Lib.hid (fun h => absurd h (by omega)), Lib.hid (fun h => absurd h (by omega))⟩
  case round =>
    clear S0
    obtain ⟨i, j, rfl, rfl, hi, hij, hj, S1, HI, HJ⟩ := hrel
    rcases Nat.lt_or_ge i j with hlt | hge
    · obtain ⟨hh, hhd⟩ : ∃ hh, hh = (i + j) / 2 := ⟨_, rfl⟩
      have hb1 : i ≤ hh := by omega
      have hb2 : hh < j := by omega
      have e2 : ((i : Int) + (j : Int)) / 2 = (hh : Int) := by omega
      have b1 : (0 : Int) ≤ (hh : Int) := by omega
      have b2 : (hh : Int) < (d.size : Int) := by omega
      have b3 : (0 : Int) ≤ (m : Int) := by omega
      have b4 : (m : Int) < (d.size : Int) := by omega
      clear hhd
      obtain ⟨X, hX⟩ : ∃ X, X = d[m]! := ⟨_, rfl⟩
      obtain ⟨Y, hY⟩ : ∃ Y, Y = d[hh]! := ⟨_, rfl⟩
      have la : ∀ (n : Nat) (os : Array Obj), (grow (wr.drewN n) os).cell? ⟨blk, off + m, none⟩ = some (.int .i64 (it l X)) := fun n os => by rw [hX]; exact S1.out.cl RR.out (by rw [HS.out]) m (by omega) n os
      have lb : ∀ (n : Nat) (os : Array Obj), (grow (wr.drewN n) os).cell? ⟨blk, off + hh, none⟩ = some (.int .i64 (it l Y)) := fun n os => by rw [hY]; exact S1.out.cl RR.out (by rw [HS.out]) hh (by omega) n os
      have hc := S1.out.cmp HCMP.out (by rw [HS.out]) X Y
      have HX := Lib.hid hX
      have HY := Lib.hid hY
      clear hX hY
      by_cases hl : cfK key X Y < 0
      · have hd1 : decide (cfK key X Y < 0) = true := decide_eq_true hl
        have HL := Lib.hid (show ltOf (cfK key) d[m]! d[hh]! = true by rw [← HX.out, ← HY.out]; exact hd1)
        go_wp2_with fail
        go_quiet_grown (first | (go_at_fn g; refine Calls.grown_of (hc _ _)))
        have S2 := Lib.hid (S1.out.grown nq osq)
        clear la lb hc
        generalize grow (wr.drewN nq) osq = w2 at S2 ⊢
        clear nq osq
        go_wp2
        go_roundw
        case rel => exact ⟨i, hh, rfl, by go_num, hi, by omega, by omega, S2, HI, Lib.hid (fun _ => HL.out)⟩
        case measure => simp [intOf]; omega
      · have hd1 : decide (cfK key X Y < 0) = false := decide_eq_false hl
        have HL := Lib.hid (show ltOf (cfK key) d[m]! d[hh]! = false by rw [← HX.out, ← HY.out]; exact hd1)
        go_wp2_with fail
        go_quiet_grown (first | (go_at_fn g; refine Calls.grown_of (hc _ _)))
        have S2 := Lib.hid (S1.out.grown nq osq)
        clear la lb hc
        generalize grow (wr.drewN nq) osq = w2 at S2 ⊢
        clear nq osq
        go_wp2
        go_roundw
        case rel => exact ⟨hh + 1, j, by go_num, rfl, by omega, by omega, hj, S2, Lib.hid (fun _ => HL.out), HJ⟩
        case measure => simp [intOf]; omega
    · obtain rfl : i = j := by omega
      have hm0 := HB0.out
      have HM := Lib.hid (show Srt key a b (mvD d m (m - i)) from by rw [hm0]; exact merge_down HK.out HS1.out (by rw [← hm0]; exact HT.out) hi hj (by omega) HI.out HJ.out)
      have HMP := Lib.hid (mvD_perm d m a b (by omega) h3 (m - i) (by omega))
      clear hm0 hij hge
      go_wp2
      go_loopw [17] (fun v wr => ∃ p : Nat, i ≤ p ∧ p ≤ m ∧ v = .int .i64 p ∧ Hid (SW (encI l) w0 blk off (mvD d m (m - p)) wr)) (fun v _ => (intOf v).toNat)
      case atStart => exact ⟨m, hj, Nat.le_refl _, rfl, by rw [Nat.sub_self]; exact S1⟩
      case round =>
        clear S1
        obtain ⟨p, hp1, hp2, rfl, S1⟩ := hrel
        rcases Nat.lt_or_ge i p with hlk | hge
        · have hsr := mvD_size d m (m - p)
          obtain ⟨q, hq⟩ : ∃ q, q = p - 1 := ⟨_, rfl⟩
          obtain ⟨ci, cj, fi, fj, ⟨u, c2⟩, sw⟩ := xch S1.out RR.out (by rw [hsr, HS.out]) p q (by omega) (by omega)
          obtain ⟨X, hX⟩ : ∃ X, X = it l (mvD d m (m - p))[p]! := ⟨_, rfl⟩
          obtain ⟨Y, hY⟩ : ∃ Y, Y = it l (mvD d m (m - p))[q]! := ⟨_, rfl⟩
          have HSW := Lib.hid (show SW (encI l) w0 blk off (mvD d m (m - q)) ((wr.setCell ⟨blk, off + p, none⟩ (.int .i64 Y)).setCell ⟨blk, off + q, none⟩ (.int .i64 X)).drew from by
            rw [hX, hY, show m - q = (m - p) + 1 by omega, mvD, show m - (m - p) = p by omega, ← hq]
            exact sw)
          rw [← hX] at ci
          rw [← hY] at cj c2
          have e5 : (p : Int) - 1 = (q : Int) := by omega
          have r1 : IntKind.i64.wrap (q : Int) = (q : Int) := IntWalk.i64_in _ (by omega)
          have r3 : (i : Int) < (p : Int) := by omega
          have b1 : (0 : Int) ≤ (p : Int) := by omega
          have b2 : (p : Int) < (d.size : Int) := by omega
          have b3 : (0 : Int) ≤ (q : Int) := by omega
          have b4 : (q : Int) < (d.size : Int) := by omega
          have g1 : i ≤ q := by omega
          have g2 : q ≤ m := by omega
          have g3 : q < p := by omega
          clear sw hsr hX hY hq
          go_wp2_with fail
          go_region
          all_goals
            go_wp2
            go_roundw
            case rel => exact ⟨q, g1, g2, by go_num, HSW⟩
            case measure => simp [intOf]; omega
        · have r3 : (p : Int) ≤ (i : Int) := by omega
          have HE := Lib.hid (show m - p = m - i by omega)
          have HMS := Lib.hid (mvD_size d m (m - p))
          clear hge
          go_wp2
          refine bodyPost_ret (results_none rfl _ _ _) rfl ?_
          exact ⟨rfl, _, S1.out, HMS.out, by rw [HE.out]; exact HMP.out, by rw [HE.out]; exact HM.out⟩
end Go.Proofs.Ytnambmpnolkfjaa
