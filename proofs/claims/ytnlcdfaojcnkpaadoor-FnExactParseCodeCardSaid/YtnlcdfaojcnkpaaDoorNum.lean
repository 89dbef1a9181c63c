/- Decimal numbers in the model: what its own printing of a number answers; bytes and strings. -/
import Derived.Test.YtnlcdfaojcnkpaaDoorShelf
import Derived.Test.YtnlcdfaojcnkpaaDoorRows
import Derived.WalkKit
import Derived.ProofKit
import Derived.OpenShut
import Derived.Handy
import Derived.Lib.Hide
import Derived.Below
import Derived.Outline
import Derived.RegionTactic
import Derived.Deep.RegionHeld3
import Derived.Laws.IdiomStrings
namespace Go.Proofs.YtnlcdfaojcnkpaaDoor
open Go.ChangeShapes Go.WideShapes Go.ChangeAt Go.RowKit
set_option linter.unusedVariables false

/-- A number's low byte. -/
def dg (v : Int) : UInt8 := UInt8.ofNat v.toNat
/-- string([]byte{x}). -/
theorem conv_one (W : World) (g : Nat) (v : Int) (h0 : 0 ≤ v) (h1 : v ≤ 255) (hc : W.cell? ⟨g, 0, none⟩ = some (.int .u8 v)) :
    (convert 133 9 (.slice (some ⟨g, 0, none⟩) 1 1)).run Tryd.prog W = .ok (.string ⟨#[dg v]⟩) W := by
  have := run_convert_bytes_back (P := Tryd.prog) W 133 9 5 ⟨g, 0, none⟩ 1 [UInt8.ofNat v.toNat] Tryd.underlying133 Tryd.underlying5 Tryd.underlying9 (fun j hj => by
    obtain rfl : j = 0 := by simp at hj; omega
    have e : ((UInt8.ofNat v.toNat).toNat : Int) = v := by
      rw [UInt8.toNat_ofNat']
      omega
    show W.cell? ((⟨g, 0, none⟩ : Addr).add 0) = some (.int .u8 ((UInt8.ofNat v.toNat).toNat : Int))
    rw [e]
    exact hc)
  exact this

theorem l1Num_small (n : Nat) (w : World) (h : n < 10) :
    Calls Tryd.prog 89 #[.int .i64 n] w fun e w' => e = .returned (.string ⟨(Lib.decDigits n).toArray⟩) ∧ Below w.heap.size w w' := by
  have hc := fun (W : World) (g : Nat) => conv_one W g (48 + (n : Int)) (by omega) (by omega)
  have hd := Lib.hid (show (⟨#[dg (48 + (n : Int))]⟩ : ByteArray) = ⟨(Lib.decDigits n).toArray⟩ by
    unfold dg
    rw [Lib.decDigits, dif_pos h]
    rw [show (48 + (n : Int)).toNat = 48 + n by omega])
  go_enter Tryd.func89, Tryd.ntmps89
  go_wp2
  go_ret
  exact ⟨by rw [← hd.out]; rfl, (Below.refl _ _).alloc (Nat.le_refl _) _⟩

set_option maxRecDepth 10000 in
theorem l1Num_big (n : Nat) (w : World) (h : 10 ≤ n) (hn : n ≤ 1000000000000) (s : ByteArray) (hs : s.size ≤ 100) (hd : s ++ (⟨#[dg (48 + (n : Int) % 10)]⟩ : ByteArray) = ⟨(Lib.decDigits n).toArray⟩)
    (ih : ∀ W : World, Calls Tryd.prog 89 #[.int .i64 ((n : Int) / 10)] W fun e w' => e = .returned (.string s) ∧ Below W.heap.size W w') :
    Calls Tryd.prog 89 #[.int .i64 n] w fun e w' => e = .returned (.string ⟨(Lib.decDigits n).toArray⟩) ∧ Below w.heap.size w w' := by
  have IH := Lib.hid ih
  clear ih
  have HD : Hid (s ++ (⟨#[dg (48 + (n : Int) % 10)]⟩ : ByteArray) = ⟨(Lib.decDigits n).toArray⟩) := Lib.hid hd
  clear hd
  have hc := fun (W : World) (g : Nat) => conv_one W g (48 + (n : Int) % 10) (by omega) (by omega)
  go_enter Tryd.func89, Tryd.ntmps89
  go_wp2
  have e1 : IntKind.i64.wrap ((n : Int) / 10) = (n : Int) / 10 := IntWalk.i64_in _ (by omega)
  have e2 : ((n : Int)).tmod 10 = (n : Int) % 10 := Int.tmod_eq_emod_of_nonneg (by omega)
  have e3 : IntKind.i64.wrap (48 + (n : Int) % 10) = 48 + (n : Int) % 10 := IntWalk.i64_in _ (by omega)
  have e4 : IntKind.u8.wrap (48 + (n : Int) % 10) = 48 + (n : Int) % 10 := IntWalk.u8_in _ (by omega)
  go_region_with (go_at_call 89; (with_reducible refine (IH.out _).mono ?_); rintro e w1 ⟨rfl, hb⟩; have hbc := fun (b o : Nat) h => hb.cell (p := ⟨b, o, none⟩) h)
  all_goals
    have HBB := Lib.hid hb
    clear hb hbc
    go_simp
    go_wp2
    go_ret
    refine ⟨by simp; exact HD.out, ?_⟩
    first
      | exact (((Below.refl w.heap.size w).drew.trans (HBB.out.mono (Nat.le_refl _))).alloc HBB.out.size _)
      | exact (((Below.refl w.heap.size w).alloc (Nat.le_refl _) _).drew.trans (HBB.out.mono (by simp)))

theorem dec_len : ∀ (k n : Nat), n < 10 ^ k → (Lib.decDigits n).length ≤ k + 1
  | 0, n, h => by
    rw [Lib.decDigits, dif_pos (by omega)]
    simp
  | k + 1, n, h => by
    rw [Lib.decDigits]
    split
    · simp
    · have := dec_len k (n / 10) (by rw [Nat.pow_succ] at h; omega)
      simp
      omega
theorem l1Num_any : ∀ (k n : Nat), n ≤ k → n ≤ 1000000000000 → ∀ w : World,
    Calls Tryd.prog 89 #[.int .i64 n] w fun e w' => e = .returned (.string ⟨(Lib.decDigits n).toArray⟩) ∧ Below w.heap.size w w' := by
  intro k
  induction k with
  | zero => exact fun n h _ w => l1Num_small n w (by omega)
  | succ k ih =>
    intro n h hn w
    rcases Nat.lt_or_ge n 10 with h10 | h10
    · exact l1Num_small n w h10
    · have hlen := dec_len 12 (n / 10) (by omega)
      refine l1Num_big n w h10 hn ⟨(Lib.decDigits (n / 10)).toArray⟩ (by show (Lib.decDigits (n / 10)).toArray.size ≤ 100; simp; omega) ?_ (fun W => ?_)
      · show ByteArray.mk (Lib.decDigits (n / 10)).toArray ++ ByteArray.mk [dg (48 + (n : Int) % 10)].toArray = _
        rw [Go.ByteArray.mk_append_mk]
        conv => rhs; rw [Lib.decDigits, dif_neg (by omega)]
        rw [show dg (48 + (n : Int) % 10) = UInt8.ofNat (48 + n % 10) by unfold dg; rw [show (48 + (n : Int) % 10).toNat = 48 + n % 10 by omega]]
      · have := ih (n / 10) (by omega) (by omega) W
        rwa [show ((n / 10 : Nat) : Int) = (n : Int) / 10 from by omega] at this
end Go.Proofs.YtnlcdfaojcnkpaaDoor
