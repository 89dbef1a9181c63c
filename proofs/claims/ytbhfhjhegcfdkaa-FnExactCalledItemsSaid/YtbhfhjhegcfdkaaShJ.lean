/- The call of a name, in plain words; the votes for a name and their majority, in the program. -/
import Derived.Test.YtbhfhjhegcfdkaaShI
import Derived.ChangeKeysEq
namespace Go.Proofs.Ytbhfhjhegcfdkaa
open Go.ChangeShapes Go.WideShapes Go.ChangeAt Go.RowKit Go.Lib Go.Proofs
set_option linter.unusedVariables false

/-- The vote of a caller for a name. -/
def vt (V : Rw (Rw (Rw Int))) (k i j : Nat) : Int := it (it (it V.xs k).xs i).xs j
/-- How many of the first n votes are m. -/
def cntV (v : Nat → Int) (m : Int) : Nat → Nat
  | 0 => 0
  | n + 1 => cntV v m n + if v n = m then 1 else 0
/-- The last one of the first n marks for which two of three vote; -1 if there is none. -/
def majTo (v : Nat → Int) : Nat → Int
  | 0 => -1
  | m + 1 => if 2 ≤ cntV v (m : Int) 3 then (m : Int) else majTo v m
theorem cntV_3 (v : Nat → Int) (m : Int) : cntV v m 3 = (if v 0 = m then 1 else 0) + (if v 1 = m then 1 else 0) + (if v 2 = m then 1 else 0) := by simp [cntV]
theorem cntV_two {v : Nat → Int} {m : Int} : 2 ≤ cntV v m 3 ↔ (v 1 = m ∧ v 2 = m) ∨ (v 0 = m ∧ v 2 = m) ∨ (v 0 = m ∧ v 1 = m) := by
  rw [cntV_3]
  by_cases h0 : v 0 = m <;> by_cases h1 : v 1 = m <;> by_cases h2 : v 2 = m <;> simp [h0, h1, h2]
/-- There are no two such marks. -/
theorem cntV_one {v : Nat → Int} {a b : Int} (h : 2 ≤ cntV v a 3) (k : 2 ≤ cntV v b 3) : a = b := by
  rw [cntV_two] at h k
  omega
theorem majTo_no {v : Nat → Int} : ∀ n, (∀ m : Nat, m < n → ¬ 2 ≤ cntV v (m : Int) 3) → majTo v n = -1
  | 0, _ => rfl
  | n + 1, h => by
    rw [majTo, if_neg (h n (by omega))]
    exact majTo_no n (fun m hm => h m (by omega))
theorem majTo_yes {v : Nat → Int} {m : Nat} (h : 2 ≤ cntV v (m : Int) 3) : ∀ n, m < n → majTo v n = m
  | 0, hn => absurd hn (by omega)
  | n + 1, hn => by
    rw [majTo]
    by_cases e : m = n
    · subst e
      rw [if_pos h]
    · rw [if_neg (fun k => e (by have := cntV_one h k; omega))]
      exact majTo_yes h n (by omega)
/-- The mark of the last one of the first k reviews of a name. -/
def rvTo (rv : List Rv) (i j : Int) : Nat → Option Int
  | 0 => none
  | k + 1 => if (it rv k).item = i ∧ (it rv k).name = j then some (it rv k).mark else rvTo rv i j k
/-- The call of a name; -1 if it is open. -/
def caI (x : Sh) (i j : Nat) : Int := match rvTo x.rv i j x.rv.length with
  | some m => m
  | none => majTo (fun k => vt x.V k i j) 4

theorem Try.infoI3 : (Try.prog.info? 3).map (fun i => (i.zero, i.size, i.bytes)) = some (some (.int .i64 0), 1, 8) := by kernel_rfl
/-- Arrays of three numbers compared. -/
theorem eq3 (W : World) (a b c d e f : Int) : (Op.equalIn 10000 86 (.agg #[.int .i64 a, .int .i64 b, .int .i64 c]) (.agg #[.int .i64 d, .int .i64 e, .int .i64 f])).run Try.prog W = .ok (a == d && (b == e && c == f)) W := by
  obtain ⟨i0, hi, _, _, _⟩ := info_parts Try.infoI3
  have hp : Try.prog.plainKey 3 = true := by kernel_rfl
  have hC : Try.prog.cellsOf 3 = 1 := by kernel_rfl
  rw [show (10000 : Nat) = 9999 + 1 from rfl, run_equalIn_array W 9999 _ _ Try.underlying86 hi, hC]
  have p0 : ∀ x y z : Int, (part 3 #[.int .i64 x, .int .i64 y, .int .i64 z] 0).run Try.prog W = .ok (.int .i64 x) W := fun x y z => run_part_plain W hp rfl
  have p1 : ∀ x y z : Int, (part 3 #[.int .i64 x, .int .i64 y, .int .i64 z] 1).run Try.prog W = .ok (.int .i64 y) W := fun x y z => run_part_plain W hp rfl
  have p2 : ∀ x y z : Int, (part 3 #[.int .i64 x, .int .i64 y, .int .i64 z] 2).run Try.prog W = .ok (.int .i64 z) W := fun x y z => run_part_plain W hp rfl
  have q : ∀ x y : Int, (Op.equalIn 9999 3 (.int .i64 x) (.int .i64 y)).run Try.prog W = .ok (x == y) W := fun x y => run_equalIn_int W 9998 _ _ _ x y Try.underlying3
  show (Op.eqItems 9999 3 1 _ _ [0, 1, 2]).run Try.prog W = _
  by_cases h1 : a = d <;> by_cases h2 : b = e <;> by_cases h3 : c = f <;> simp [Op.eqItems, Sem.run_bind, p0, p1, p2, q, h1, h2, h3]
/-- One vote put aside: the others are all equal to a mark. -/
def Aside (v : Nat → Int) (m : Int) (c : Nat) : Prop := ∀ e, e < 3 → e ≠ c → v e = m
theorem aside_two {v : Nat → Int} {m : Int} (h : ∀ c, c < 3 → ¬ Aside v m c) : ¬ 2 ≤ cntV v m 3 := fun k => by
  rw [cntV_two] at k
  rcases k with ⟨k1, k2⟩ | ⟨k1, k2⟩ | ⟨k1, k2⟩
  · exact h 0 (by omega) (fun e h1 h2 => by
      rcases (show e = 1 ∨ e = 2 by omega) with rfl | rfl
      · exact k1
      · exact k2)
  · exact h 1 (by omega) (fun e h1 h2 => by
      rcases (show e = 0 ∨ e = 2 by omega) with rfl | rfl
      · exact k1
      · exact k2)
  · exact h 2 (by omega) (fun e h1 h2 => by
      rcases (show e = 0 ∨ e = 1 by omega) with rfl | rfl
      · exact k1
      · exact k2)
theorem two_aside {v : Nat → Int} {m : Int} {c : Nat} (hc : c < 3) (h : Aside v m c) : 2 ≤ cntV v m 3 := by
  rw [cntV_two]
  rcases (show c = 0 ∨ c = 1 ∨ c = 2 by omega) with rfl | rfl | rfl
  · exact .inl ⟨h 1 (by omega) (by omega), h 2 (by omega) (by omega)⟩
  · exact .inr (.inl ⟨h 0 (by omega) (by omega), h 2 (by omega) (by omega)⟩)
  · exact .inr (.inr ⟨h 0 (by omega) (by omega), h 1 (by omega) (by omega)⟩)
noncomputable def majV (v : Nat → Int) : Value := .tuple #[.int .i64 (if majTo v 4 < 0 then 0 else majTo v 4), .bool (decide (0 ≤ majTo v 4))]
theorem majV_yes {v : Nat → Int} {k c : Nat} (hk : k < 4) (hc : c < 3) (h : Aside v k c) : majV v = .tuple #[.int .i64 (k : Int), .bool true] := by
  unfold majV
  rw [majTo_yes (two_aside hc h) 4 hk, if_neg (by omega), decide_eq_true (by omega)]
theorem majV_no {v : Nat → Int} (h : ∀ m : Nat, m < 4 → ¬ 2 ≤ cntV v (m : Int) 3) : majV v = .tuple #[.int .i64 0, .bool false] := by
  unfold majV
  rw [majTo_no 4 h]
  rfl
set_option maxHeartbeats 4000000 in
set_option maxRecDepth 100000 in
theorem majorityOf_any (a0 a1 a2 : Int) (v : Nat → Int) (w : World) (h0 : v 0 = a0) (h1 : v 1 = a1) (h2 : v 2 = a2) :
    Calls Try.prog 50 #[.agg #[.int .i64 a0, .int .i64 a1, .int .i64 a2]] w fun e w' => e = .returned (majV v) ∧ Below w.heap.size w w' := by
  have hb0 := below_alloc w (.cells #[.int .i64 a0, .int .i64 a1, .int .i64 a2] 86)
  have HX := Lib.hid (imMem_new w _ 86 rfl (.int .i64 a0) (.int .i64 a1) (.int .i64 a2))
  have hsW : w.heap.size < (w.alloc (.cells #[.int .i64 a0, .int .i64 a1, .int .i64 a2] 86)).heap.size := by simp
  have HB0 := Lib.hid hb0
  have HV := Lib.hid (And.intro h0 (And.intro h1 h2))
  clear hb0 h0 h1 h2
  go_enter Try.func50, Try.ntmps50
  go_wp2_with fail
  generalize World.alloc w _ = W at HX HB0 hsW ⊢
  go_loopw [4] (fun i wr => ∃ k : Nat, k ≤ 4 ∧ i = .int .i64 k ∧ Hid (∀ m : Nat, m < k → ¬ 2 ≤ cntV v (m : Int) 3) ∧ Hid (Below W.heap.size W wr)) (fun i _ => 4 - (intOf i).toNat)
  case atStart => exact ⟨0, Nat.zero_le _, rfl, Lib.hid none_yet, Lib.hid (Below.refl _ _)⟩
  case round =>
    obtain ⟨k, hk, rfl, HI, HB⟩ := hrel
    by_cases hlt : k < 4
    · have hk3 : (k : Int) ≤ 3 := by omega
      go_wp2_with fail
      go_loopw [11] (fun i wr => ∃ c : Nat, c ≤ 3 ∧ i = .int .i64 c ∧ Hid (∀ d, d < c → ¬ Aside v (k : Int) d) ∧ Hid (Below W.heap.size W wr)) (fun i _ => 3 - (intOf i).toNat)
      case atStart => exact ⟨0, Nat.zero_le _, rfl, Lib.hid none_yet, HB⟩
      case round =>
        obtain ⟨c, hc, rfl, HJ, HBR⟩ := hrel
        by_cases hcl : c < 3
        · obtain ⟨x0, x1, x2, xf⟩ := HX.out.below HBR.out hsW
          have hBA := fun u0 u1 u2 => (below_next HBR.out (below_alloc wr (.cells #[.int .i64 u0, .int .i64 u1, .int .i64 u2] 86)))
          have HBA := Lib.hid hBA
          clear hBA
          rcases (show c = 0 ∨ c = 1 ∨ c = 2 by omega) with rfl | rfl | rfl
          · by_cases hq : a1 = k ∧ a2 = k
            · have e1 : ∀ W, (Op.equalIn 10000 86 (.agg #[.int .i64 k, .int .i64 a1, .int .i64 a2]) (.agg #[.int .i64 k, .int .i64 k, .int .i64 k])).run Try.prog W = .ok true W := fun W => by rw [eq3, hq.1, hq.2]; simp
              have HM := Lib.hid (majV_yes (v := v) (k := k) (c := 0) hlt (by omega) (fun e h1 h2 => by
                rcases (show e = 1 ∨ e = 2 by omega) with rfl | rfl
                · rw [HV.out.2.1, hq.1]
                · rw [HV.out.2.2, hq.2]))
              clear hq
              go_wp2
              go_returns
              exact ⟨by rw [HM.out]; try rfl, below_next HB0.out (HBA.out _ _ _)⟩
            · have e1 : ∀ W, (Op.equalIn 10000 86 (.agg #[.int .i64 k, .int .i64 a1, .int .i64 a2]) (.agg #[.int .i64 k, .int .i64 k, .int .i64 k])).run Try.prog W = .ok false W := fun W => by rw [eq3]; congr 1; simp; exact fun h1 h2 => hq ⟨h1, h2⟩
              have HM := Lib.hid (show ¬ Aside v (k : Int) 0 from fun h => hq ⟨by rw [← HV.out.2.1]; exact h 1 (by omega) (by omega), by rw [← HV.out.2.2]; exact h 2 (by omega) (by omega)⟩)
              clear hq
              go_wp2
              go_roundw
              case rel => exact ⟨1, by omega, by go_num, Lib.hid (one_more HJ.out HM.out), Lib.hid (HBA.out _ _ _)⟩
              case measure => simp [intOf]
          · by_cases hq : a0 = k ∧ a2 = k
            · have e1 : ∀ W, (Op.equalIn 10000 86 (.agg #[.int .i64 a0, .int .i64 k, .int .i64 a2]) (.agg #[.int .i64 k, .int .i64 k, .int .i64 k])).run Try.prog W = .ok true W := fun W => by rw [eq3, hq.1, hq.2]; simp
              have HM := Lib.hid (majV_yes (v := v) (k := k) (c := 1) hlt (by omega) (fun e h1 h2 => by
                rcases (show e = 0 ∨ e = 2 by omega) with rfl | rfl
                · rw [HV.out.1, hq.1]
                · rw [HV.out.2.2, hq.2]))
              clear hq
              go_wp2
              go_returns
              exact ⟨by rw [HM.out]; try rfl, below_next HB0.out (HBA.out _ _ _)⟩
            · have e1 : ∀ W, (Op.equalIn 10000 86 (.agg #[.int .i64 a0, .int .i64 k, .int .i64 a2]) (.agg #[.int .i64 k, .int .i64 k, .int .i64 k])).run Try.prog W = .ok false W := fun W => by rw [eq3]; congr 1; simp; exact fun h1 h2 => hq ⟨h1, h2⟩
              have HM := Lib.hid (show ¬ Aside v (k : Int) 1 from fun h => hq ⟨by rw [← HV.out.1]; exact h 0 (by omega) (by omega), by rw [← HV.out.2.2]; exact h 2 (by omega) (by omega)⟩)
              clear hq
              go_wp2
              go_roundw
              case rel => exact ⟨2, by omega, by go_num, Lib.hid (one_more HJ.out HM.out), Lib.hid (HBA.out _ _ _)⟩
              case measure => simp [intOf]
          · by_cases hq : a0 = k ∧ a1 = k
            · have e1 : ∀ W, (Op.equalIn 10000 86 (.agg #[.int .i64 a0, .int .i64 a1, .int .i64 k]) (.agg #[.int .i64 k, .int .i64 k, .int .i64 k])).run Try.prog W = .ok true W := fun W => by rw [eq3, hq.1, hq.2]; simp
              have HM := Lib.hid (majV_yes (v := v) (k := k) (c := 2) hlt (by omega) (fun e h1 h2 => by
                rcases (show e = 0 ∨ e = 1 by omega) with rfl | rfl
                · rw [HV.out.1, hq.1]
                · rw [HV.out.2.1, hq.2]))
              clear hq
              go_wp2
              go_returns
              exact ⟨by rw [HM.out]; try rfl, below_next HB0.out (HBA.out _ _ _)⟩
            · have e1 : ∀ W, (Op.equalIn 10000 86 (.agg #[.int .i64 a0, .int .i64 a1, .int .i64 k]) (.agg #[.int .i64 k, .int .i64 k, .int .i64 k])).run Try.prog W = .ok false W := fun W => by rw [eq3]; congr 1; simp; exact fun h1 h2 => hq ⟨h1, h2⟩
              have HM := Lib.hid (show ¬ Aside v (k : Int) 2 from fun h => hq ⟨by rw [← HV.out.1]; exact h 0 (by omega) (by omega), by rw [← HV.out.2.1]; exact h 1 (by omega) (by omega)⟩)
              clear hq
              go_wp2
              go_roundw
              case rel => exact ⟨3, by omega, by go_num, Lib.hid (one_more HJ.out HM.out), Lib.hid (HBA.out _ _ _)⟩
              case measure => simp [intOf]
        · obtain rfl : c = 3 := by omega
          have HM := Lib.hid (aside_two (v := v) (m := (k : Int)) HJ.out)
          go_wp2
          go_roundw
          case rel => exact ⟨k + 1, by omega, by go_num, Lib.hid (one_more HI.out HM.out), HBR⟩
          case measure => simp [intOf]; omega
    · obtain rfl : k = 4 := by omega
      have HM := Lib.hid (majV_no HI.out)
      go_wp2
      go_returns
      exact ⟨by rw [HM.out]; try rfl, below_next HB0.out HB.out⟩
end Go.Proofs.Ytbhfhjhegcfdkaa
