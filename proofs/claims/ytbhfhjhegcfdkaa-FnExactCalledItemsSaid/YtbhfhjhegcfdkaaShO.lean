/- CallOf of the model. -/
import Derived.Test.YtbhfhjhegcfdkaaShN
namespace Go.Proofs.Ytbhfhjhegcfdkaa
open Go.ChangeShapes Go.WideShapes Go.ChangeAt Go.RowKit Go.Lib Go.Proofs
set_option linter.unusedVariables false

/-- The mark of the last one of the first k reviews of a name; d if there is none. -/
def rvOr (rv : List Rv) (i j d : Int) : Nat → Int
  | 0 => d
  | k + 1 => if (it rv k).item = i ∧ (it rv k).name = j then (it rv k).mark else rvOr rv i j d k
theorem rvOr_eq (rv : List Rv) (i j d : Int) : ∀ k, rvOr rv i j d k = match rvTo rv i j k with
    | some m => m
    | none => d
  | 0 => rfl
  | k + 1 => by
    rw [rvOr, rvTo]
    by_cases h : (it rv k).item = i ∧ (it rv k).name = j
    · rw [if_pos h, if_pos h]
    · rw [if_neg h, if_neg h]
      exact rvOr_eq rv i j d k
theorem caI_or (x : Sh) (i j : Nat) : caI x i j = rvOr x.rv i j (majTo (fun k => vt x.V k i j) 4) x.rv.length := (rvOr_eq _ _ _ _ _).symm
theorem cntV_step (v : Nat → Int) (m : Int) (n : Nat) : cntV v m (n + 1) = cntV v m n + if v n = m then 1 else 0 := rfl
set_option maxHeartbeats 8000000 in
set_option maxRecDepth 100000 in
theorem caCall_any (x : Sh) (i j : Nat) (w : World) (hr : ShIn w w.heap.size x) (hl : ShFits x) (hok : ShOk x) (hi : i < x.l.length) (hj : j < (it x.l i).ns.length) :
    Calls Try.prog 39 #[x.val, .int .i64 i, .int .i64 j] w fun e w' => e = .returned (.int .i64 (caI x i j)) ∧ Below w.heap.size w w' := by
  have hb0 := below_alloc w (.cells #[.slice x.P x.l.length x.c, .slice x.V.A x.V.xs.length x.V.c, .slice x.R x.rv.length x.e] 33)
  have HR := Lib.hid (hr.next hb0)
  have HX := Lib.hid (imMem_new w _ 33 rfl (.slice x.P x.l.length x.c) (.slice x.V.A x.V.xs.length x.V.c) (.slice x.R x.rv.length x.e))
  have hsW : w.heap.size < (w.alloc (.cells #[.slice x.P x.l.length x.c, .slice x.V.A x.V.xs.length x.V.c, .slice x.R x.rv.length x.e] 33)).heap.size := by simp
  have HB0 := Lib.hid hb0
  have HS := Lib.hid (⟨hok.vo, hi, hj⟩ : Spot x i j)
  have hll := hl.its.len
  have hnn := (hl.its.each i hi).ns.1
  have hrl := hl.re
  have h3 := hok.vo.len
  have HE := Lib.hid (caI_or x i j)
  obtain ⟨bV, oV, hA⟩ := spot_V HS.out hr.vo
  clear hr hl hb0 hok
  unfold Sh.val
  have HA := Lib.hid hA
  rw [h3, hA] at HX hsW HB0 HR ⊢
  clear h3 hA
  go_enter Try.func39, Try.ntmps39
  go_wp2_with fail
  generalize World.alloc w _ = W at HR HX HB0 hsW ⊢
  obtain ⟨x0, x1, x2, xf⟩ := HX.out
  have q1 : (0 : Int) ≤ (i : Int) := by omega
  have q2 : (i : Int) < (x.l.length : Int) := by omega
  have q3 : (0 : Int) ≤ (j : Int) := by omega
  have q4 : (j : Int) < ((it x.l i).ns.length : Int) := by omega
  obtain ⟨v, hv⟩ : ∃ v : Nat → Int, v = fun k => vt x.V k i j := ⟨_, rfl⟩
  rw [← hv] at HE
  have HV := Lib.hid hv
  clear hv
  go_loop [7, 8] (fun q p => ∃ m : Nat, m ≤ 4 ∧ p = .int .i64 m ∧ q = .int .i64 (majTo v m)) (fun _ p => 4 - (intOf p).toNat)
  case atStart => exact ⟨0, Nat.zero_le _, rfl, rfl⟩
  case round =>
    obtain ⟨m, hm, rfl, rfl⟩ := hrel
    by_cases hlt : m < 4
    · have hm3 : (m : Int) ≤ 3 := by omega
      go_wp2_with fail
      go_loop [9, 21] (fun q p => ∃ c : Nat, c ≤ 3 ∧ p = .int .i64 c ∧ q = .int .i64 (cntV v m c) ∧ cntV v m c ≤ c) (fun _ p => 3 - (intOf p).toNat)
      case atStart => exact ⟨0, Nat.zero_le _, rfl, rfl, Nat.le_refl _⟩
      case round =>
        obtain ⟨c, hc, rfl, rfl, hcc⟩ := hrel
        by_cases hcl : c < 3
        · obtain ⟨b0, o0, b1, o1, b2, o2, e0, l0, l1, l2, d0, d1, d2⟩ := spot_cells HS.out HR.out.vo c hcl
          obtain ⟨rfl, rfl⟩ : bV = b0 ∧ oV = o0 := by
            have e := HA.out.symm.trans e0
            injection e with e
            injection e with e1 e2
            exact ⟨e1, e2⟩
          have hvc : vt x.V c i j = v c := by rw [HV.out]
          rw [hvc] at d2
          clear e0 hvc
          by_cases h : v c = (m : Int)
          · have HN := Lib.hid (show cntV v m (c + 1) = cntV v m c + 1 by rw [cntV_step, if_pos h])
            rw [h] at d2
            clear h
            go_wp2
            go_round
            case rel => exact ⟨c + 1, by omega, by go_num, by rw [HN.out]; first | rfl | go_num, by rw [HN.out]; omega⟩
            case measure => simp [intOf]; omega
          · have HN := Lib.hid (show cntV v m (c + 1) = cntV v m c by rw [cntV_step, if_neg h, Nat.add_zero])
            have hd : (v c == (m : Int)) = false := by simpa using h
            clear h
            go_wp2
            go_round
            case rel => exact ⟨c + 1, by omega, by go_num, by rw [HN.out], by rw [HN.out]; omega⟩
            case measure => simp [intOf]; omega
        · obtain rfl : c = 3 := by omega
          by_cases h : 2 ≤ cntV v m 3
          · have HN := Lib.hid (show majTo v (m + 1) = (m : Int) by rw [majTo, if_pos h])
            have h' : (2 : Int) ≤ (cntV v m 3 : Int) := by omega
            clear h
            go_wp2
            go_round
            case rel => exact ⟨m + 1, by omega, by go_num, by rw [HN.out]⟩
            case measure => simp [intOf]; omega
          · have HN := Lib.hid (show majTo v (m + 1) = majTo v m by rw [majTo, if_neg h])
            have h' : (cntV v m 3 : Int) < 2 := by omega
            clear h
            go_wp2
            go_round
            case rel => exact ⟨m + 1, by omega, by go_num, by rw [HN.out]⟩
            case measure => simp [intOf]; omega
    · obtain rfl : m = 4 := by omega
      go_wp2_with fail
      go_loopw [7, 43] (fun q p wr => ∃ k : Nat, k ≤ x.rv.length ∧ p = .int .i64 k ∧ q = .int .i64 (rvOr x.rv i j (majTo v 4) k) ∧ Hid (Below W.heap.size W wr)) (fun _ p _ => x.rv.length - (intOf p).toNat)
      case atStart => exact ⟨0, Nat.zero_le _, rfl, rfl, Lib.hid (Below.refl _ _)⟩
      case round =>
        obtain ⟨k, hk, rfl, rfl, HB⟩ := hrel
        by_cases hlt : k < x.rv.length
        · obtain ⟨b, o, hA, hbl, hc⟩ := HR.out.re.rv (by omega)
          obtain ⟨c0, c1, c2⟩ := (hc k hlt).below HB.out hbl
          have HB2 := Lib.hid (below_next HB.out (below_alloc wr (.cells #[.int .i64 (it x.rv k).item, .int .i64 (it x.rv k).name, .int .i64 (it x.rv k).mark] 71)))
          rw [hA]
          clear hc
          by_cases h1 : (it x.rv k).item = (i : Int)
          · by_cases h2 : (it x.rv k).name = (j : Int)
            · have HN := Lib.hid (show rvOr x.rv i j (majTo v 4) (k + 1) = (it x.rv k).mark by rw [rvOr, if_pos ⟨h1, h2⟩])
              rw [h1] at c0 HB2
              rw [h2] at c1 HB2
              clear h1 h2
              go_wp2
              go_roundw
              case rel => exact ⟨k + 1, by omega, by go_num, by rw [HN.out], HB2⟩
              case measure => simp [intOf]; omega
            · have HN := Lib.hid (show rvOr x.rv i j (majTo v 4) (k + 1) = rvOr x.rv i j (majTo v 4) k by rw [rvOr, if_neg (fun h => h2 h.2)])
              have hd : ((it x.rv k).name == (j : Int)) = false := by simpa using h2
              rw [h1] at c0 HB2
              clear h1 h2
              go_wp2
              go_roundw
              case rel => exact ⟨k + 1, by omega, by go_num, by rw [HN.out], HB2⟩
              case measure => simp [intOf]; omega
          · have HN := Lib.hid (show rvOr x.rv i j (majTo v 4) (k + 1) = rvOr x.rv i j (majTo v 4) k by rw [rvOr, if_neg (fun h => h1 h.1)])
            have hd : ((it x.rv k).item == (i : Int)) = false := by simpa using h1
            clear h1
            go_wp2
            go_roundw
            case rel => exact ⟨k + 1, by omega, by go_num, by rw [HN.out], HB2⟩
            case measure => simp [intOf]; omega
        · obtain rfl : k = x.rv.length := by omega
          go_wp2
          go_ret
          exact ⟨by rw [HE.out]; try rfl, below_next HB0.out HB.out⟩
end Go.Proofs.Ytbhfhjhegcfdkaa
