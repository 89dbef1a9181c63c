/- slices.Backward over reviews: the iterator, last one first. -/
import Derived.RangeFuncNested
import Derived.RangeFuncBound
import Derived.RangeFuncCalls
import Derived.RangeFuncLeaves
import Derived.RangeFuncBox
import Derived.Shelf.Abstract
import Derived.Shelf.RegionOpen
import Derived.WalkKit
import Derived.OwnWalkIn
import Derived.TacticsInMore
import Derived.LoopNIn
import Derived.LoopIn
import Derived.Test.YtbhfhjhegcfdkaaShH
namespace Go.Proofs.Ytbhfhjhegcfdkaa
open Go.RowKit Go.Shelf Go.Proofs
set_option linter.unusedVariables false
attribute [local go_sem] Oper.semAt_some

/-- What has come when k rounds are over. -/
def upto {α : Type} (f : Nat → α) (k : Nat) : List α := (List.range k).map f
theorem upto_succ {α : Type} (f : Nat → α) (k : Nat) : upto f (k + 1) = upto f k ++ [f k] := by simp [upto, List.range_succ]
theorem upto_length {α : Type} (f : Nat → α) (k : Nat) : (upto f k).length = k := by simp [upto]
/-- The k-th review from the end, with its place. -/
def backF (rv : List Rv) (k : Nat) : Nat × Rv := (rv.length - 1 - k, it rv (rv.length - 1 - k))
@[reducible] def backEnc (x : Nat × Rv) : Array Value := #[.int .i64 (x.1 : Int), .agg #[.int .i64 x.2.item, .int .i64 x.2.name, .int .i64 x.2.mark]]

set_option maxRecDepth 100000 in
set_option maxHeartbeats 2000000 in
theorem back1_in (F : Fence) (n : Nat) (h8 : F.fn 73) (hro : F.round = none) (hn : 1 ≤ n) (l Bs n₀ e : Nat) (R : Option Addr) (rv : List Rv) (hreach : rv.length ≤ 1048576) (J Jx : List (Nat × Rv) → World → Prop)
    (hY : ∀ pre x W, J pre W → pre.length < rv.length → YieldAt F (n - 1) Try.prog l (backEnc x) W fun e W' =>
      (e = .returned (.bool true) ∧ J (pre ++ [x]) W' ∧ Below n₀ W W') ∨ (e = .returned (.bool false) ∧ Jx (pre ++ [x]) W'))
    (W : World) (hBs : W.cell? ⟨Bs, 0, none⟩ = some (.slice R rv.length e)) (hBl : Bs < n₀) (hc : Lst W n₀ R rv) (h0 : J [] W) :
    CallsIn F n Try.prog 73 #[.func (.yield l) #[] #[], .pointer (some ⟨Bs, 0, none⟩)] W fun e W' => (∃ v, e = .returned v) ∧
      ((∃ ys, ys = upto (backF rv) rv.length ∧ J ys W') ∨ (∃ pre, (∃ k, k ≤ rv.length ∧ pre = upto (backF rv) k) ∧ Jx pre W')) := by
  refine callsIn_of_wp Try.func73 rfl h8 ?_ hro
  simp only [Try.ntmps73, List.size_toArray, List.length_cons, List.length_nil, Nat.reduceAdd, Nat.reduceSub, Array.replicate_succ, Array.replicate_zero, List.push_toArray, List.append_toArray, List.nil_append, List.cons_append]
  gi_wp2
  gi_loopw [3] (fun i wr => ∃ m : Nat, m ≤ rv.length ∧ i = .int .i64 ((m : Int) - 1) ∧ J (upto (backF rv) (rv.length - m)) wr ∧ Below n₀ W wr)
    (fun i _ => (intOf i + 1).toNat)
  case atStart => exact ⟨rv.length, Nat.le_refl _, rfl, by rw [Nat.sub_self]; exact h0, Below.refl _ _⟩
  case round =>
    obtain ⟨m, hm, rfl, hJs, hnx⟩ := hrel
    have hbs := (hnx.cell (p := ⟨Bs, 0, none⟩) hBl).trans hBs
    rcases m with _ | p
    · have e0 : (((0 : Nat) : Int) - 1) = -1 := by omega
      rw [e0]
      gi_wp2
      go_end0
      exact ⟨⟨_, rfl⟩, .inl ⟨_, rfl, by simpa using hJs⟩⟩
    · have e0 : (((p + 1 : Nat) : Int) - 1) = (p : Int) := by omega
      rw [e0]
      obtain ⟨b, off, rfl, hb, hcs⟩ := hc.rv (by omega)
      obtain ⟨c0, c1, c2⟩ := (hcs p (by omega)).below hnx hb
      have hi1 : (0 : Int) ≤ (p : Int) := by omega
      have hi2 : (p : Int) < (rv.length : Int) := by omega
      obtain ⟨fn, tmps, assign, body, hy, hR⟩ := hY _ (p, it rv p) wr hJs (by rw [upto_length]; omega)
      dsimp only [backEnc] at hy
      have hf : backF rv (rv.length - (p + 1)) = (p, it rv p) := by
        unfold backF
        rw [show rv.length - 1 - (rv.length - (p + 1)) = p by omega]
      have hs : rv.length - p = (rv.length - (p + 1)) + 1 := by omega
      clear hcs
      gi_wp2
      refine hR.mono ?_
      rintro e W3 (⟨rfl, hJ3, hk3⟩ | ⟨rfl, hJx3⟩)
      · gi_wp2
        go_roundw
        case rel => exact ⟨p, by omega, by first | rfl | simp, by rw [hs, upto_succ, hf]; exact hJ3, hnx.trans hk3⟩
        case measure => simp [intOf]
      · gi_wp2
        refine bodyPost_ret (results_none rfl _ _ _) rfl ?_
        exact ⟨⟨_, rfl⟩, .inr ⟨_, ⟨rv.length - p, by omega, by rw [hs, upto_succ, hf]⟩, hJx3⟩⟩
set_option maxHeartbeats 1000000 in
theorem back_in (F : Fence) (n : Nat) (h6 : F.fn 49) (hro : F.round = none) (a : Option Addr) (len cap : Nat) (w : World) :
    CallsIn F n Try.prog 49 #[.slice a len cap] w fun e w' => e = .returned (.func (.func 73) #[] #[.pointer (some ⟨w.heap.size, 0, none⟩)]) ∧ w' = w.alloc (.cells #[.slice a len cap] 31) := by
  refine callsIn_of_wp Try.func49 rfl h6 ?_ hro
  simp only [Try.ntmps49, List.size_toArray, List.length_cons, List.length_nil, Nat.reduceAdd, Nat.reduceSub, Array.replicate_succ, Array.replicate_zero, List.push_toArray, List.append_toArray, List.nil_append, List.cons_append]
  gi_wp2
  go_ret
  exact ⟨rfl, rfl⟩
theorem back_stops (F : Fence) (n : Nat) (h8 : F.fn 73) (hro : F.round = none) (hn : 1 ≤ n) (Bs n₀ e : Nat) (R : Option Addr) (rv : List Rv) (hreach : rv.length ≤ 1048576) (w : World) (hBs : Bs < n₀) (hn₀ : n₀ ≤ w.heap.size)
    (hc : w.cell? ⟨Bs, 0, none⟩ = some (.slice R rv.length e)) (hI : Lst w n₀ R rv) :
    SeqStopsK F n Try.prog 73 #[.pointer (some ⟨Bs, 0, none⟩)] backEnc (Below n₀) (fun ys => ys = upto (backF rv) rv.length)
      (fun pre => ∃ k, k ≤ rv.length ∧ pre = upto (backF rv) k) rv.length w := fun l J Jx W hW _ _ hY h0 =>
  back1_in F n h8 hro hn l Bs n₀ e R rv hreach J Jx hY W ((hW.cell (p := ⟨Bs, 0, none⟩) (by show Bs < _; omega)).trans hc) hBs (hI.below hW hn₀) h0
end Go.Proofs.Ytbhfhjhegcfdkaa
